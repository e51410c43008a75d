/- Texts 4: what the laws lean on. -/
import Derived.Test.YtippakeemfldfaaDoorU3
import Derived.Sort.KeysCollected
import Derived.Lib.BufferMore
import Derived.Test.YtippakeemfldfaaDoorU2
namespace Go.Proofs.YtippakeemfldfaaDoor
open Go.RowKit Go.Sort

theorem info_str : (Tryd.prog.info? 9).map (fun i => (i.zero, i.size, i.bytes)) = some (some (.string ⟨#[]⟩), 1, 16) := by kernel_rfl
theorem leq_total (a b : List UInt8) : (decide (a ≤ b) || decide (b ≤ a)) = true := by
  by_cases h : a ≤ b
  · simp [h]
  · simp [List.le_of_lt (List.not_le.1 h)]
theorem nsort_eq {ks M : List (List UInt8)} (hp : ks.Perm M) (hM : M.Pairwise (· < ·)) : (ks.mergeSort fun x y => decide (x ≤ y)) = M := by
  refine List.Perm.eq_of_pairwise (le := fun a b => decide (a ≤ b) = true) (fun a b _ _ h1 h2 => ?_) (List.pairwise_mergeSort ?_ ?_ ks) (hM.imp ?_) ((List.mergeSort_perm ks _).trans hp)
  · simp only [decide_eq_true_eq] at h1 h2
    exact List.le_antisymm h1 h2
  · intro a b c h1 h2
    simp only [decide_eq_true_eq] at *
    exact List.le_trans h1 h2
  · exact fun a b => leq_total a b
  · intro a b h
    simp only [decide_eq_true_eq]
    exact List.le_of_lt h
theorem Rw.holdsS {T : TypeId} {w : World} {g c : Nat} {L : List (List UInt8)} (h : Rw encS T w (some ⟨g, 0, none⟩) c L) : Go.Sort.Holds encStr w g 0 L.toArray := by
  rcases h.shape with ⟨e, _⟩ | ⟨g', e, hl, h1, h2, cur, hh, h3, h4⟩
  · cases e
  simp only [Option.some.injEq, Addr.mk.injEq] at e
  obtain ⟨rfl, _⟩ := e
  intro j hj
  have hj2 : j < L.length := by simpa using hj
  refine ⟨?_, frozen_of_row w g _ _ T hh⟩
  rw [cell_of_row w g _ _ T (0, 0) hh, Nat.zero_add, ← Array.getElem?_toList]
  have e2 : (cur.toList.take (L.length * encS.k))[j]? = some (encStr L[j]) := by rw [h4, encS_all]; simp [hj2, encStr]
  rw [List.getElem?_take_of_lt (by simp [encS]; omega)] at e2
  rw [e2]
  simp [hj2]
theorem Rw.sortedS {T : TypeId} {w : World} {g c : Nat} {L : List (List UInt8)} (h : Rw encS T w (some ⟨g, 0, none⟩) c L) (d : List (List UInt8)) (hd : d.length = L.length) (m : Nat) (os : Array Obj) :
    Rw encS T (grow (putRow encStr (Sort.ahead w m) g 0 d.toArray) os) (some ⟨g, 0, none⟩) c d ∧ Mod (fun i => i = g) w (grow (putRow encStr (Sort.ahead w m) g 0 d.toArray) os) := by
  rcases h.shape with ⟨e, _⟩ | ⟨g', e, hl, h1, h2, cur, hh, h3, h4⟩
  · cases e
  simp only [Option.some.injEq, Addr.mk.injEq] at e
  obtain ⟨rfl, _⟩ := e
  have eh : (grow (putRow encStr (Sort.ahead w m) g 0 d.toArray) os).heap = (w.heap.modify g (onCells (putCells encStr 0 d.toArray))) ++ os := rfl
  have hk : ∀ k, k < w.heap.size → (grow (putRow encStr (Sort.ahead w m) g 0 d.toArray) os).heap[k]? = if g = k then some (.cells (putCells encStr 0 d.toArray cur) T (0, 0)) else w.heap[k]? := by
    intro k hk
    rw [eh, Array.getElem?_append_left (by rw [Array.size_modify]; exact hk), Array.getElem?_modify]
    by_cases e1 : g = k
    · subst e1; rw [if_pos rfl, if_pos rfl, hh]; rfl
    · rw [if_neg e1, if_neg e1]
  have hsz : w.heap.size ≤ (grow (putRow encStr (Sort.ahead w m) g 0 d.toArray) os).heap.size := by
    rw [eh, Array.size_append, Array.size_modify]; omega
  refine ⟨Rw.of_row (by rw [hk g hl, if_pos rfl]) (by rw [hd]; exact h1) h2 (by rw [← h3]; simp [putCells]) ?_, rfl, rfl, rfl, hsz, fun k hk1 hn => by rw [hk k hk1, if_neg (fun e => hn e.symm)]⟩
  rw [encS_all]
  have hcl : L.length ≤ cur.size := by rw [h3]; simpa [encS] using h1
  apply List.ext_getElem?
  intro t
  by_cases ht : t < d.length
  · rw [List.getElem?_take_of_lt (by simpa [encS] using ht), Array.getElem?_toList]
    have htc : t < cur.size := by omega
    simp [putCells, htc, ht, encStr]
  · rw [List.getElem?_eq_none (by rw [List.length_take]; exact Nat.le_trans (Nat.min_le_left _ _) (by simpa [encS] using ht)), List.getElem?_eq_none (by simpa using ht)]
/-- slices.Sort at texts. -/
theorem nsort_any {w : World} {q : Option Addr} {c : Nat} {ks : List (List UInt8)} (h : Rw encS 9 w q c ks) (hn : ks.length ≤ 1000000) :
    Calls Tryd.prog 64 #[.slice q ks.length c] w fun e w' => e = .returned (.tuple #[]) ∧ Rw encS 9 w' q c (ks.mergeSort fun x y => decide (x ≤ y)) ∧ Mod (fun i => ∃ a, q = some a ∧ i = a.block) w w' := by
  have h2 := h
  rcases h.shape with ⟨rfl, rfl, rfl⟩ | ⟨g, rfl, hl, h1, _⟩
  · refine (Tryd.slices_Sort_string_none none 0 w).mono ?_
    rintro r w' ⟨rfl, rfl⟩
    exact ⟨rfl, by simpa using h2, Mod.refl _ _⟩
  · refine (Tryd.slices_Sort_string g 0 c ks w h2.holdsS hl (by omega)).mono ?_
    rintro r w' ⟨rfl, n, os, rfl⟩
    obtain ⟨h3, h4⟩ := h2.sortedS (ks.mergeSort fun x y => decide (x ≤ y)) (List.length_mergeSort ks) n os
    exact ⟨rfl, h3, h4.mono (fun i _ e => ⟨_, rfl, e⟩)⟩
/-- A loop over the disk's map, and what was gathered. -/
structure NamR (w wr : World) (b ri : Nat) (L : List Fl) (left : Lit → Bool) (cnt : Nat) (ks : List (List UInt8)) (q : Option Addr) (c : Nat) : Prop where
  rg : wr.ranges Tryd.prog 9 RV b ri L.length (dOf (L.map entD)) left cnt
  co : Collected (dOf (L.map entD)) left ks
  le : ks.length + cnt ≤ L.length
  rw : Rw encS 9 wr q c ks
  new : ∀ a, q = some a → ri < a.block
  m : Below w.heap.size w wr
set_option maxRecDepth 20000 in
set_option maxHeartbeats 2000000 in
theorem dknames_any {w : World} {d : Nat} {S : St} {F : Nat → Prop} (h : DA w d S F) (hn : S.X.length ≤ 1000000) (hu : ∀ x ∈ S.X, x.1.length ≤ 1000000) :
    Calls Tryd.prog 39 #[.pointer (some ⟨d, 0, none⟩)] w fun e w' => ∃ q c, e = .returned (.slice q S.X.length c) ∧ Rw encS 9 w' q c (S.X.map (·.1)) ∧ (∀ a, q = some a → w.heap.size ≤ a.block) ∧ Below w.heap.size w w' := by
  obtain ⟨b, L, h, _, _⟩ := h
  have HC := Lib.hid dsclone_any
  have c1 := h.c1
  have hown := h.map.own
  rw [List.length_map] at hown
  have hnl : L.length ≤ 1000000 := by rw [h.len]; exact hn
  have HK : Hid (∀ (x : List UInt8) (y : DataW Value), (∀ zd, (dOf (L.map entD)).atKey (.string x) zd = y) → x.length ≤ 1000000) := Lib.hid (by
    intro x y hat
    have hh := Maps.has_true_of_atKey hat
    rw [has_dOf, has_entD, hasL_eq h] at hh
    have h2 := fiX_mem hh
    have h3 := hu _ h2
    rwa [fiX_key] at h3)
  have HE : Hid (∀ wr ri left cnt ks q c, NamR w wr b ri L left cnt ks q c → (∀ kl, left kl = false) → ks.length = S.X.length ∧ (ks.mergeSort fun x y => decide (x ≤ y)) = S.X.map (·.1)) := Lib.hid (by
    intro wr ri left cnt ks q c hR hl
    have hp := h.keys hR.co hR.rg hl
    refine ⟨by have := hp.length_eq; rwa [List.length_map] at this, nsort_eq hp ?_⟩
    exact List.pairwise_map.2 h.so)
  have HN := Lib.hid hnl
  have HBL := Lib.hid h.map.lt
  have HLN := Lib.hid h.len
  clear h hn hu hnl
  go_enter Tryd.func39, Tryd.ntmps39
  go_wp2_with (first
    | (at_range; refine wpList_range_own _ rfl _ 54 rfl 9 63 keyed9 Tryd.underlying54 _ b L.length _ rfl hown ?_; intro w0 hrg0 hg0 hs0)
    | go_in)
  go_frame
  have HK0 : Hid (NamR w w0 b w.heap.size L (Maps.has (dOf (L.map entD))) (Maps.size (dOf (L.map entD))) [] none 0) := Lib.hid
    ⟨hrg0, Collected.start _, by rw [size_dOf]; simp, Rw.empty _ _, (fun a e => by cases e), (Below.refl _ w).grown hg0 (by simp) (fun j hj => by cases hj)⟩
  clear hrg0 hg0 hs0 hown c1
  generalize hri : w.heap.size = ri at HK0 HBL ⊢
  have HRI := Lib.hid hri
  clear hri
  go_loopw [3, 4] (fun s3 _ wr => ∃ (n : Nat) (q : Option Addr) (c : Nat), s3 = .slice q n c ∧ Hid (∃ left cnt ks, n = ks.length ∧ NamR w wr b ri L left cnt ks q c)) (fun _ _ wr => wr.rangeLeft b ri)
  case atStart => exact ⟨0, none, 0, rfl, Lib.hid ⟨_, _, [], rfl, HK0.out⟩⟩
  case round =>
    obtain ⟨n, q, c, rfl, hR⟩ := hrel
    obtain ⟨left, cnt, ks, hn, hR⟩ := hR.out
    have hrg := hR.rg
    have HR := Lib.hid hR
    have HNN := Lib.hid hn
    clear hR hn HK0
    go_wp2_with (first
      | (at_next; refine wpList_next_ranges _ rfl _ rfl 9 keyed9 RV encStr (fun v : Value => v) (fun key kl hk => by obtain ⟨x, hx, _⟩ := Maps.keyOf_str Tryd.underlying9 hk; exact ⟨x, hx⟩) (fun v y hv => ⟨v, rfl⟩) b ri L.length _ _ _ rfl hrg ?_ ?_)
      | go_in)
    · intro hc0 hl0
      have hfin := HE.out wr ri left cnt ks q c HR.out hl0
      have hsort := nsort_any HR.out.rw (by have := hfin.1; have := HN.out; have := HLN.out; omega)
      rw [← HNN.out] at hsort
      have HS := Lib.hid hsort
      have HF := Lib.hid hfin
      clear hsort hfin hrg hl0 hc0
      go_wp2_with fail
      refine HS.out.mono ?_
      rintro r w2 ⟨rfl, hr2, hm2⟩
      have HR2 := Lib.hid hr2
      have hb2 : Below w.heap.size w w2 := HR.out.m.trans (hm2.to_below HR.out.m.size (by rintro k hk ⟨a, e, rfl⟩; have := HR.out.new a e; have := HRI.out; omega))
      have HB2 := Lib.hid hb2
      clear hr2 hm2 hb2
      go_wp2_with fail
      go_ret
      refine ⟨q, c, by rw [HNN.out, HF.out.1]; rfl, by rw [← HF.out.2]; exact HR2.out, (fun a e => by have := HR.out.new a e; have := HRI.out; omega), HB2.out⟩
    · intro x v kl yd yp w1 cnt1 hkey hlk hv hv2 hat hrg1 hlt hg1 hs1 hen
      obtain ⟨x', ex, rfl, _⟩ := Maps.keyOf_str Tryd.underlying9 hkey
      obtain rfl : x = x' := encStr_inj ex
      have hxl := HK.out x _ hat
      have hcl := HC.out x w1 hxl
      have hno : ∀ j, some ri = some j → w.heap.size ≤ j := by intro j e; cases e; have := HRI.out; omega
      have hR1 : Hid (Rw encS 9 w1 q c ks ∧ Below w.heap.size w w1) := Lib.hid (by
        have hm1 : Mod (fun i => i = ri) wr w1 := ⟨hg1.os, hg1.tape, hg1.output, hg1.size, fun k hk hn => hg1.block k hk (fun e => hn (Option.some.inj e))⟩
        exact ⟨HR.out.rw.kept hm1 (fun a e => by have := HR.out.new a e; omega), HR.out.m.grown hg1 HR.out.m.size hno⟩)
      have HC1 := Lib.hid (HR.out.co.step hlk hat)
      have hrl := hrg1.lt
      have hbl := hrg1.owns.lt
      have KL := Lib.hid hrl
      have KB : Hid (∀ (w3 w4 : World), Mod (fun i => ∃ a, q = some a ∧ i = a.block) w3 w4 → Below w1.heap.size w1 w3 → w4.heap[b]? = w1.heap[b]? ∧ w4.heap[ri]? = w1.heap[ri]?) := Lib.hid (by
        intro w3 w4 hm hb
        have hlo := HRI.out
        have hLL := HBL.out
        have hqn := HR.out.new
        have hsz := hb.size
        refine ⟨(hm.block b (by omega) ?_).trans (hb.block b hbl), (hm.block ri (by omega) ?_).trans (hb.block ri hrl)⟩ <;>
        · rintro ⟨a, e, h⟩; have := hqn a e; omega)
      clear hrl hbl
      have HRG := Lib.hid hrg1
      have HLT := Lib.hid hlt
      have HEN := Lib.hid hrg
      clear hxl hkey hlk hv hv2 hat hrg1 hlt hg1 hs1 hno ex hrg
      go_wp2_with fail
      refine hcl.mono ?_
      rintro r w2 ⟨rfl, hb2⟩
      have hS2 : Hid (Rw encS 9 (w2.alloc (.cells #[.string ⟨x.toArray⟩] 9)) q c ks ∧ Below w.heap.size w (w2.alloc (.cells #[.string ⟨x.toArray⟩] 9)) ∧ Rd encS (w2.alloc (.cells #[.string ⟨x.toArray⟩] 9)) (some ⟨w2.heap.size, 0, none⟩) [x] ∧ Below w1.heap.size w1 (w2.alloc (.cells #[.string ⟨x.toArray⟩] 9))) := Lib.hid (by
        have hb3 : Below w1.heap.size w1 (w2.alloc (.cells #[.string ⟨x.toArray⟩] 9)) := hb2.alloc hb2.size _
        exact ⟨hR1.out.1.old hb3, hR1.out.2.trans (hb3.mono hR1.out.2.size), Rd.made encS w2 9 [x] (by simp [maxLen]), hb3⟩)
      have hnb : n + 1 ≤ 100000000000 := by have h1 := HR.out.le; have h2 := HN.out; have h3 := HNN.out; omega
      have HNB := Lib.hid hnb
      clear hb2 hcl hnb
      go_wp2_with (refine wpList_pushR encS rfl (.tmp 14) (.tmp 17) 27 9 (.string ⟨#[]⟩) 16 rfl Tryd.underlying27 info_str rfl (by decide) q c n ks HNN.out.symm rfl hS2.out.1 (some ⟨w2.heap.size, 0, none⟩) 1 1 [x] rfl rfl hS2.out.2.2.1 HNB.out ?_; intro q2 c2 w4 hP4; have HP4 := Lib.hid hP4; clear hP4; go_frame)
      go_roundw
      case rel =>
        obtain ⟨hRw4, hm4, hor4⟩ := HP4.out
        have h3 := hS2.out
        have hlo := HRI.out
        have hqn := HR.out.new
        have kb := KB.out _ w4 hm4 h3.2.2.2
        have hK : NamR w w4 b ri L (fun z => left z && !z.sameKey (.string x)) cnt1 (ks ++ [x]) q2 c2 → ∃ (n' : Nat) (q' : Option Addr) (c' : Nat), Value.slice q2 (n + 1) c2 = .slice q' n' c' ∧ Hid (∃ left cnt ks, n' = ks.length ∧ NamR w w4 b ri L left cnt ks q' c') :=
          fun h => ⟨n + 1, q2, c2, rfl, Lib.hid ⟨_, cnt1, ks ++ [x], by rw [List.length_append, ← HNN.out]; rfl, h⟩⟩
        refine hK ⟨rgs_same HRG.out kb.1 kb.2, HC1.out, by have := HR.out.le; have := HLT.out; rw [List.length_append]; simp; omega, hRw4, ?_, ?_⟩
        · intro a e
          rcases hor4 a e with h | h
          · exact hqn a h
          · have := h3.2.2.2.size; have := KL.out; omega
        · exact h3.2.1.trans (hm4.to_below h3.2.1.size (by rintro k hk ⟨a, e, rfl⟩; have := hqn a e; omega))
      case measure =>
        obtain ⟨hRw4, hm4, hor4⟩ := HP4.out
        have kb := KB.out _ w4 hm4 hS2.out.2.2.2
        rw [(rgs_same HRG.out kb.1 kb.2).left_eq, HEN.out.left_eq]
        exact HLT.out
end Go.Proofs.YtippakeemfldfaaDoor

namespace Go.Proofs.YtippakeemfldfaaDoor
open Go.RowKit Go.Sort

theorem info_u8 : (Tryd.prog.info? 5).map (fun i => (i.zero, i.size, i.bytes)) = some (some (.int .u8 0), 1, 1) := by kernel_rfl
set_option maxRecDepth 20000 in
theorem yclone_any {w : World} {p : Option Addr} {c : Nat} {L : List UInt8} (h : Rw encY 5 w p c L) (hn : L.length ≤ 2000000000) :
    Calls Tryd.prog 49 #[.slice p L.length c] w fun r w' => ∃ q c', r = .returned (.slice q L.length c') ∧ Rw encY 5 w' q c' L ∧ (∀ a, q = some a → w.heap.size ≤ a.block) ∧ Below w.heap.size w w' := by
  have hm : Rw encY 5 (w.alloc (.cells #[] 5)) (some ⟨w.heap.size, 0, none⟩) 0 ([] : List UInt8) := Rw.made (E := encY) 5 w [] (by simp [maxLen])
  have hr := h.rd.old ((Below.refl _ w).alloc (Nat.le_refl _) (.cells #[] 5))
  rcases h.shape with ⟨rfl, rfl, rfl⟩ | ⟨g, rfl, hl, h1, h2, _⟩
  · have he := Go.Lib.run_eql_slice_nil_nil (P := Tryd.prog) w (t := 50) 0 0 Tryd.underlying50
    clear h hm hr
    simp only [List.length_nil]
    go_enter Tryd.func49, Tryd.ntmps49
    go_wp2_with fail
    go_ret
    exact ⟨none, 0, rfl, Rw.empty _ _, (fun a e => by cases e), Below.refl _ _⟩
  · have he := Go.Lib.run_eql_slice_some_nil (P := Tryd.prog) w (t := 50) ⟨g, 0, none⟩ L.length c Tryd.underlying50
    have HM := Lib.hid hm
    have HR := Lib.hid hr
    have HN := Lib.hid hn
    obtain ⟨n, hn'⟩ : ∃ n, n = L.length := ⟨_, rfl⟩
    have HNN := Lib.hid hn'
    rw [← hn'] at he ⊢
    clear h hm hr hl h1 h2 hn hn'
    go_enter Tryd.func49, Tryd.ntmps49
    go_wp2_with (refine wpList_pushR encY rfl (.tmp 5) (.tmp 6) 50 5 (.int .u8 0) 1 rfl Tryd.underlying50 info_u8 rfl (by decide) (some ⟨w.heap.size, 0, none⟩) 0 0 [] rfl rfl HM.out (some ⟨g, 0, none⟩) n c L HNN.out.symm rfl HR.out (by have := HN.out; have := HNN.out; omega) ?_; intro q2 c2 w4 hP4; have HP4 := Lib.hid hP4; clear hP4)
    go_ret
    obtain ⟨hR, hm, ho⟩ := HP4.out
    have hs : (w.alloc (.cells #[] 5)).heap.size = w.heap.size + 1 := by simp
    refine ⟨q2, c2, ?_, hR, fun a e => ?_, ?_⟩
    · simp
    · rcases ho a e with h | h
      · cases h; exact Nat.le_refl _
      · rw [hs] at h; omega
    · exact ((Below.refl _ w).alloc (Nat.le_refl _) _).trans (hm.to_below (by rw [hs]; omega) (by rintro k hk ⟨a, e, rfl⟩; cases e; exact Nat.lt_irrefl _ hk))
theorem DK.data {w : World} {d b : Nat} {S : St} {L : List Fl} (h : DK w d b S L) : w.heap[d]? = some (.cells #[.int .i64 S.rm, .map (some b), .int .i64 S.dd, .int .i64 S.lf, .bool S.dn] 56 (0, 0)) := h.cell
/-- A loop over a disk's map that puts each file into another disk. -/
structure CloR (w wr : World) (d b p b2 ri : Nat) (S : St) (L : List Fl) (left : Lit → Bool) (cnt : Nat) (ks : List (List UInt8)) (X : List FX) (L2 : List Fl) : Prop where
  rg : wr.ranges Tryd.prog 9 RV b ri L.length (dOf (L.map entD)) left cnt
  co : Collected (dOf (L.map entD)) left ks
  le : ks.length + cnt ≤ L.length
  dk : DK wr p b2 { S with X := X } L2
  pm : X.Perm (ks.map fun k => fiX k S.X)
  new : ∀ i, inD p b2 L2 i → w.heap.size ≤ i ∧ i ≠ ri
  ri : w.heap.size ≤ ri
  m : Below w.heap.size w wr
theorem perm_srt {A B : List FX} (hp : A.Perm B) (hA : SrtX A) (hB : SrtX B) : A = B :=
  List.Perm.eq_of_pairwise (le := fun x y : FX => x.1 < y.1) (fun _ _ _ _ h1 h2 => absurd (List.lt_trans h1 h2) (List.lt_irrefl _)) hA hB hp
theorem wo_not {k : List UInt8} {X : List FX} (h : ∀ x ∈ X, x.1 ≠ k) : wo k X = X := List.filter_eq_self.2 (fun x hx => by simpa using h x hx)
theorem CloR.done {w wr : World} {d b p b2 ri : Nat} {S : St} {L : List Fl} {left : Lit → Bool} {cnt : Nat} {ks : List (List UInt8)} {X : List FX} {L2 : List Fl} (h : CloR w wr d b p b2 ri S L left cnt ks X L2) {w' : World} (hd : DK w' d b S L) (hl : ∀ kl, left kl = false) : X = S.X := by
  have h1 := (hd.keys h.co h.rg hl).map fun k => fiX k S.X
  rw [List.map_map] at h1
  have h2 : (S.X.map ((fun k => fiX k S.X) ∘ (·.1))) = S.X := map_fiX hd.so
  rw [h2] at h1
  exact perm_srt (h.pm.trans h1) h.dk.so hd.so
set_option maxRecDepth 20000 in
set_option maxHeartbeats 4000000 in
theorem dkclone_any {w : World} {d : Nat} {S : St} {F : Nat → Prop} (h : DA w d S F) (ok : Ok S) :
    Calls Tryd.prog 25 #[.pointer (some ⟨d, 0, none⟩)] w fun e w' => ∃ p F', e = .returned (.pointer (some ⟨p, 0, none⟩)) ∧ DA w' p S F' ∧ (∀ i, F' i → w.heap.size ≤ i) ∧ Below w.heap.size w w' := by
  obtain ⟨b, L, h, _, _⟩ := h
  have HI0 : Hid ((Tryd.prog.info? 56).map (·.size) = some 5) := Lib.hid (by kernel_rfl)
  have HI : Hid ((Tryd.prog.info? 63).map (·.size) = some 2) := Lib.hid (by kernel_rfl)
  have HH := Lib.hid h
  have hd0 := h.data
  have hV0 : ∀ v ∈ (#[.int .i64 S.rm, .map (some b), .int .i64 S.dd, .int .i64 S.lf, .bool S.dn] : Array Value).toList, v.oneCell' = true := by intro v hv; simp at hv; rcases hv with rfl | rfl | rfl | rfl | rfl <;> rfl
  obtain ⟨Z, hZ⟩ : ∃ Z : Array Value, Z = #[.int .i64 0, .map none, .int .i64 0, .int .i64 0, .bool false] := ⟨_, rfl⟩
  have hr0 : (w.alloc (.cells #[.int .i64 0, .map none, .int .i64 0, .int .i64 0, .bool false] 56)).heap[w.heap.size]? = some (.cells #[.int .i64 0, .map none, .int .i64 0, .int .i64 0, .bool false] 56 (0, 0)) := heap_alloc_new _ _
  have hmk : ∀ w, (Instr.makeMap 54 none).run Tryd.prog w = .ok (.map (some w.heap.size)) (w.alloc (.map #[] 0)) := fun w => run_makeMap _ _
  have HE0 : Hid (∀ W1, W1 = (w.alloc (.cells #[.int .i64 0, .map none, .int .i64 0, .int .i64 0, .bool false] 56)).setRow w.heap.size #[.int .i64 S.rm, .map (some b), .int .i64 S.dd, .int .i64 S.lf, .bool S.dn] → W1.heap[w.heap.size]? = some (.cells (stCells S b) 56 (0, 0)) ∧ W1.heap.size = w.heap.size + 1 ∧ Below w.heap.size w W1) := Lib.hid (by
    rintro W1 rfl
    exact ⟨setRow_heap _ _ _ _ 56 (0, 0) hr0, by simp [World.setRow], (((Mod.refl (fun _ => False) w).alloc _).setRow (g := w.heap.size) _).to_below (Nat.le_refl _) (by rintro k hk (h | h); exact h; omega)⟩)
  have HE1 : Hid (∀ W1 W2 : World, W1.heap[w.heap.size]? = some (.cells (stCells S b) 56 (0, 0)) → W1.heap.size = w.heap.size + 1 → Below w.heap.size w W1 → W2 = (W1.alloc (.map #[] 0)).setCell ⟨w.heap.size, 1, none⟩ (.map (some W1.heap.size)) → DK W2 w.heap.size (w.heap.size + 1) { S with X := [] } [] ∧ W2.heap.size = w.heap.size + 2 ∧ Below w.heap.size w W2) := Lib.hid (by
    rintro W1 W2 h1 h2 h3 rfl
    have hc : (W1.alloc (.map #[] 0)).heap[w.heap.size]? = some (.cells (stCells S b) 56 (0, 0)) := by rw [Below.heap_alloc _ _ _ (by omega)]; exact h1
    have hm : Mod (fun i => i = w.heap.size) (W1.alloc (.map #[] 0)) ((W1.alloc (.map #[] 0)).setCell ⟨w.heap.size, 1, none⟩ (.map (some W1.heap.size))) := (Mod.refl (fun i => i = w.heap.size) (W1.alloc (.map #[] 0))).setCell (fun _ => rfl) _
    have hb : Below w.heap.size w (W1.alloc (.map #[] 0)) := h3.alloc h3.size _
    refine ⟨⟨?_, ?_, (fun f hf => by cases hf), (fun f hf => by cases hf), List.Pairwise.nil, .refl _, List.Pairwise.nil⟩, by simp [World.setCell, h2], hb.trans (hm.to_below hb.size (by intro k hk e; omega))⟩
    · rw [heap_setCell_same _ _ _ _ 56 _ hc, h2]; rfl
    · rw [← h2]
      exact (MapAt.made _ _ W1).kept hm (by omega))
  have hown := h.map.own
  rw [List.length_map] at hown
  have HOWN : Hid (∀ w', Below w.heap.size w w' → w'.cell? ⟨d, 1, none⟩ = some (.map (some b)) ∧ w'.ownsMap Tryd.prog 9 RV b L.length (dOf (L.map entD))) := Lib.hid (fun w' hb => by
    have h2 := (h.old hb).map.own
    rw [List.length_map] at h2
    exact ⟨(h.old hb).c1, h2⟩)
  have HBL := Lib.hid h.map.lt
  have HV : Hid (∀ x v, (∀ zd, (dOf (L.map entD)).atKey (.string x) zd = .held v) → ∃ p c bs sy, v = .agg #[.slice p bs.length c, .int .i64 ((sy : Nat) : Int)] ∧ (∀ w', Below w.heap.size w w' → Rw encY 5 w' p c bs) ∧ bs.length ≤ 2000000000 ∧ sy ≤ bs.length ∧ fiX x S.X = (x, bs, sy) ∧ x.length ≤ 1000000) := Lib.hid (by
    intro x v hat
    obtain ⟨rfl, hx⟩ := h.val hat
    have hat2 := h.at x
    have hxx := atF_x h x
    have hk := fiX_key x S.X
    have hm := fiX_mem hx
    refine ⟨(atF x L).p, (atF x L).c, (atF x L).b, (atF x L).s, rfl, fun w' hb => hat2.1.old hb, ?_, hat2.2.1, ?_, ?_⟩
    · have := ok.f _ hm; rwa [← hxx] at this
    · rw [← hxx] at hk
      rw [← hxx]
      exact Prod.ext hk rfl
    · have := ok.k _ hm; rwa [fiX_key] at this)
  have HLN : Hid (L.length ≤ 100000) := Lib.hid (by rw [h.len]; exact ok.n)
  have HSL := Lib.hid h.len
  clear h hZ Z hown
  go_enter Tryd.func25, Tryd.ntmps25
  go_upto_region 2 with (first
    | (refine wpList_load_row rfl 56 (.tmp 7) rfl d rfl 56 _ (0, 0) _ hd0 Tryd.underlying56 rfl HI0.out ?_)
    | (refine wpList_store_row rfl rfl 56 (.tmp 3) (.tmp 8) rfl w.heap.size rfl 56 _ #[.int .i64 S.rm, .map (some b), .int .i64 S.dd, .int .i64 S.lf, .bool S.dn] rfl hr0 rfl HI0.out hV0 ?_; clear hr0 hV0))
  clear hd0
  obtain ⟨W1, hW1⟩ : ∃ W1, W1 = (w.alloc (.cells #[.int .i64 0, .map none, .int .i64 0, .int .i64 0, .bool false] 56)).setRow w.heap.size #[.int .i64 S.rm, .map (some b), .int .i64 S.dd, .int .i64 S.lf, .bool S.dn] := ⟨_, rfl⟩
  rw [← hW1]
  obtain ⟨k1, k2, k3⟩ := HE0.out W1 hW1
  clear hW1 HE0
  obtain ⟨W2, hW2⟩ : ∃ W2, W2 = (W1.alloc (.map #[] 0)).setCell ⟨w.heap.size, 1, none⟩ (.map (some W1.heap.size)) := ⟨_, rfl⟩
  have hc : (W1.alloc (.map #[] 0)).heap[w.heap.size]? = some (.cells (stCells S b) 56 (0, 0)) := by rw [Below.heap_alloc _ _ _ (by omega)]; exact k1
  have ff : (W1.alloc (.map #[] 0)).frozen? ⟨w.heap.size, 1, none⟩ = false := frozen_of_row _ _ _ _ 56 hc
  have cc : (W1.alloc (.map #[] 0)).cell? ⟨w.heap.size, 1, none⟩ = some (.map (some b)) := by unfold World.cell?; rw [hc]; rfl
  obtain ⟨HD2, k4, k5⟩ := HE1.out W1 W2 k1 k2 k3 hW2
  have HDD := Lib.hid HD2
  clear HD2
  have K5 := Lib.hid k5
  have K4 := Lib.hid k4
  clear hc k1 k2 k3 k4 k5 HE1
  go_upto_region 3 with fail
  rw [← hW2]
  clear hW2 ff cc hmk
  obtain ⟨cm, hown⟩ := HOWN.out W2 K5.out
  go_wp2_with (first
    | (at_range; refine wpList_range_own _ rfl _ 54 rfl 9 63 keyed9 Tryd.underlying54 _ b L.length _ rfl hown ?_; intro w0 hrg0 hg0 hs0)
    | go_in)
  go_frame
  have HK0 : Hid (CloR w w0 d b w.heap.size (w.heap.size + 1) W2.heap.size S L (Maps.has (dOf (L.map entD))) (Maps.size (dOf (L.map entD))) [] [] []) := Lib.hid
    ⟨hrg0, Collected.start _, by rw [size_dOf]; simp, HDD.out.old ((Below.refl _ W2).grown hg0 (Nat.le_refl _) (fun j hj => by cases hj)), .refl _, (by
      have h4 := K4.out
      rintro i (rfl | rfl | ⟨f, hf, _⟩)
      · omega
      · omega
      · cases hf), (by have := K4.out; omega), K5.out.trans ((Below.refl _ W2).grown hg0 K5.out.size (fun j hj => by cases hj))⟩
  have HBR : Hid (b < W2.heap.size) := Lib.hid (by have := HBL.out; have := K5.out.size; omega)
  clear hrg0 hg0 hs0 hown cm
  generalize hri : W2.heap.size = ri at HK0 HBR ⊢
  generalize hp : w.heap.size = p at *
  have HPP := Lib.hid hp
  clear hri hp
  generalize p + 1 = b2 at HK0
  go_loopw [4, 5] (fun _ _ wr => Hid (∃ left cnt ks X L2, CloR w wr d b p b2 ri S L left cnt ks X L2)) (fun _ _ wr => wr.rangeLeft b ri)
  case atStart => exact Lib.hid ⟨_, _, [], [], [], HK0.out⟩
  case round =>
    obtain ⟨left, cnt, ks, X, L2, hR⟩ := hrel.out
    have hrg := hR.rg
    have HR := Lib.hid hR
    clear hR HK0
    go_wp2_with (first
      | (at_next; refine wpList_next_ranges _ rfl _ rfl 9 keyed9 RV encStr (fun v : Value => v) (fun key kl hk => by obtain ⟨x, hx, _⟩ := Maps.keyOf_str Tryd.underlying9 hk; exact ⟨x, hx⟩) (fun v y hv => ⟨v, rfl⟩) b ri L.length _ _ _ rfl hrg ?_ ?_)
      | go_in)
    · intro hc0 hl0
      have hB := HR.out.m
      have hX := HR.out.done (HH.out.old hB) hl0
      have hD := HR.out.dk
      rw [hX] at hD
      have HF := Lib.hid hD
      have HB := Lib.hid hB
      have HNW := Lib.hid HR.out.new
      clear hrg hl0 hc0 hB hX hD
      go_wp2_with fail
      go_ret
      exact ⟨p, inD p b2 L2, rfl, ⟨b2, L2, HF.out, fun _ h => h, fun i hi => HF.out.lt hi⟩, fun i hi => by have := (HNW.out i hi).1; have := HPP.out; omega, HB.out⟩
    · intro x v kl yd yp w1 cnt1 hkey hlk hv hv2 hat hrg1 hlt hg1 hs1 hen
      obtain ⟨x', ex, rfl, _⟩ := Maps.keyOf_str Tryd.underlying9 hkey
      obtain rfl : x = x' := encStr_inj ex
      subst hv
      obtain ⟨fp, fc, bs, sy, rfl, hrw, hbl, hsy, hfx, hxl⟩ := HV.out x v hat
      have HC1 := Lib.hid (HR.out.co.step hlk hat)
      have hm1 : Mod (fun i => i = ri) wr w1 := ⟨hg1.os, hg1.tape, hg1.output, hg1.size, fun k hk hn => hg1.block k hk (fun e => hn (Option.some.inj e))⟩
      have hb1 : Below w.heap.size w w1 := HR.out.m.grown hg1 HR.out.m.size (fun j e => by cases e; have := HR.out.ri; omega)
      have hrl := hrg1.lt
      have HWS0 := hm1.size
      have HD1 := Lib.hid (HR.out.dk.kept hm1 (fun i hi e => (HR.out.new i hi).2 e))
      have HRW := Lib.hid (hrw w1 (by rw [HPP.out] at hb1; exact hb1))
      have HFX := Lib.hid hfx
      have HSY := Lib.hid hsy
      have HBB := Lib.hid hbl
      have HXL := Lib.hid hxl
      have HRG := Lib.hid hrg1
      have HB1 := Lib.hid hb1
      have HLT := Lib.hid hlt
      have HRL := Lib.hid hrl
      have HOLD := Lib.hid hrg
      have HI2 := HI.out
      have hr1 : (w1.alloc (.cells #[.slice none 0 0, .int .i64 0] 63)).heap[w1.heap.size]? = some (.cells #[.slice none 0 0, .int .i64 0] 63 (0, 0)) := heap_alloc_new _ _
      have hV : ∀ u ∈ (#[.slice fp bs.length fc, .int .i64 (sy : Int)] : Array Value).toList, u.oneCell' = true := by intro u hu; simp at hu; rcases hu with rfl | rfl <;> rfl
      clear hkey hlk hv2 hat hrg1 hlt hg1 hs1 ex hrg hb1 hrl hrw hbl hsy hfx hxl hm1
      go_upto_region 6 with (refine wpList_store_row rfl rfl 63 (.tmp 5) (.tmp 20) rfl w1.heap.size rfl 63 _ #[.slice fp bs.length fc, .int .i64 (sy : Int)] rfl hr1 rfl HI2 hV ?_)
      obtain ⟨W3, hW3⟩ : ∃ W3, W3 = (w1.alloc (.cells #[.slice none 0 0, .int .i64 0] 63)).setRow w1.heap.size #[.slice fp bs.length fc, .int .i64 (sy : Int)] := ⟨_, rfl⟩
      have hb3 : Below w1.heap.size w1 W3 := by rw [hW3]; exact (((Mod.refl (fun _ => False) w1).alloc _).setRow (g := w1.heap.size) _).to_below (Nat.le_refl _) (by rintro k hk (h | h); exact h; omega)
      have h3 : W3.heap[w1.heap.size]? = some (.cells #[.slice fp bs.length fc, .int .i64 (sy : Int)] 63 (0, 0)) := by rw [hW3]; exact setRow_heap _ _ _ _ 63 (0, 0) hr1
      have h3s : W3.heap.size = w1.heap.size + 1 := by rw [hW3]; simp [World.setRow]
      have h3c : W3.cell? ⟨w1.heap.size, 0, none⟩ = some (.slice fp bs.length fc) := by unfold World.cell?; rw [h3]; rfl
      have hcl := yclone_any (HRW.out.old hb3) HBB.out
      rw [← hW3]
      have HB3 := Lib.hid hb3
      have H3 := Lib.hid h3
      have H3S := Lib.hid h3s
      clear hW3 hr1 hV hb3 h3 h3s
      generalize hg : w1.heap.size = g at *
      have HWS := Lib.hid HWS0
      clear HWS0
      have HGG := Lib.hid hg
      clear hg
      go_wp2_with fail
      refine hcl.mono ?_
      rintro r w4 ⟨q, c4, rfl, hq, hqn, hb4⟩
      have h4 : w4.heap[g]? = some (.cells #[.slice fp bs.length fc, .int .i64 (sy : Int)] 63 (0, 0)) := (hb4.block g (by have := H3S.out; omega)).trans H3.out
      have f4 : w4.frozen? ⟨g, 0, none⟩ = false := frozen_of_row _ _ _ _ 63 h4
      have c4' : w4.cell? ⟨g, 0, none⟩ = some (.slice fp bs.length fc) := by unfold World.cell?; rw [h4]; rfl
      obtain ⟨W5, hW5⟩ : ∃ W5, W5 = w4.setCell ⟨g, 0, none⟩ (.slice q bs.length c4) := ⟨_, rfl⟩
      have h5 : W5.heap[g]? = some (.cells #[.slice q bs.length c4, .int .i64 (sy : Int)] 63 (0, 0)) := by rw [hW5, heap_setCell_same _ _ _ _ 63 _ h4]; rfl
      have hm5 : Mod (fun i => i = g) w4 W5 := by rw [hW5]; exact (Mod.refl (fun i => i = g) w4).setCell (fun _ => rfl) _
      have hb5 : Below g w1 W5 := HB3.out.trans ((hb4.mono (by have := H3S.out; omega)).trans (hm5.to_below (by have := hb4.size; have := H3S.out; omega) (by intro k hk e; omega)))
      have hq5 : Rw encY 5 W5 q c4 bs := hq.kept hm5 (fun a e h => by have := hqn a e; have := H3S.out; omega)
      have hX5 := (HD1.out.old (by rw [HGG.out]; exact hb5)).toX x
      have hL2 : L2.length ≤ 1000000 := by
        have e1 := HR.out.dk.len
        have e2 := HR.out.pm.length_eq
        rw [List.length_map] at e2
        simp only at e1
        have := HR.out.le
        have := HLN.out
        omega
      have hput := dkput_any (w := W5) (d := p) (b := b2) (S := { S with X := X }) (L := L2) ⟨x, bs, sy, q, c4⟩ hX5 hq5 HSY.out (fun a e => by
        have h1 := hqn a e
        have h2 := H3S.out
        have h3 := HRL.out
        have h6 := HGG.out
        have hpb := fun i hi => (HR.out.dk.lt (i := i) hi)
        have hsz := HOLD.out.lt
        have h7 : wr.heap.size ≤ g := HWS.out
        refine ⟨?_, ?_, ?_, ?_⟩
        · have e : q = some a := e
          rw [e] at hq5; exact hq5.lt
        · have := hpb p (.inl rfl); omega
        · have := hpb b2 (.inr (.inl rfl)); omega
        · intro y hy a' ha' e'
          have := hpb a'.block (.inr (.inr ⟨y, (List.mem_filter.1 hy).1, a', ha', rfl⟩))
          omega) HXL.out hL2
      unfold Fl.v at hput
      have HPUT := Lib.hid hput
      have H5 := Lib.hid h5
      have HB5 := Lib.hid hb5
      have HQN := Lib.hid hqn
      clear hput hq hb4 hm5 hq5 hX5 hL2 h5 h4 hb5 hqn
      go_upto_region 7 with fail
      rw [← hW5]
      clear hW5 f4 c4' h3c
      have h5 := H5.out
      go_wp2_with (refine wpList_load_row rfl 63 (.tmp 5) rfl g rfl 63 #[.slice q bs.length c4, .int .i64 (sy : Int)] (0, 0) _ h5 Tryd.underlying63 rfl HI2 ?_; clear h5)
      refine HPUT.out.mono ?_
      rintro r w6 ⟨rfl, hD6, hm6⟩
      have HD6 := Lib.hid hD6
      have HM6 := Lib.hid hm6
      clear hD6 hm6
      go_wp2_with fail
      have hbri : b2 ≠ ri := (HR.out.new b2 (.inr (.inl rfl))).2
      have hbb : b2 ≠ b := by have h1 := (HR.out.new b2 (.inr (.inl rfl))).1; have h2 := HBL.out; have h3 := HPP.out; omega
      have k6 : ∀ j, j < g → j ≠ b2 → w6.heap[j]? = w1.heap[j]? := fun j hj hn => (HM6.out.block j (by have := HB5.out.size; have := HGG.out; omega) hn).trans (HB5.out.block j hj)
      have hrgn := rgs_same HRG.out (k6 b (by have := HRL.out; have := HGG.out; have := HRG.out.owns.lt; omega) (fun e => hbb e.symm)) (k6 ri (by have := HRL.out; have := HGG.out; omega) (fun e => hbri e.symm))
      go_roundw
      case rel =>
        refine Lib.hid ⟨_, cnt1, ks ++ [x], _, _, hrgn, HC1.out, by have := HR.out.le; have := HLT.out; rw [List.length_append]; simp; omega, HD6.out, ?_, ?_, HR.out.ri, ?_⟩
        · refine (withX_perm _ X).trans ?_
          rw [show (Fl.x ⟨x, bs, sy, q, c4⟩) = fiX x S.X from HFX.out.symm, List.map_append, wo_not]
          · exact (List.Perm.cons _ HR.out.pm).trans (List.perm_append_singleton _ _).symm
          · intro y hy e
            have h1 := HR.out.pm.mem_iff.1 hy
            obtain ⟨k, hk, rfl⟩ := List.mem_map.1 h1
            rw [fiX_key, fiX_key] at e
            subst e
            have := (List.nodup_append.1 HC1.out.1).2.2 k hk k (by simp)
            exact this rfl
        · have hg := HGG.out
          rintro i (rfl | rfl | ⟨f, hf, a, ha, rfl⟩)
          · exact HR.out.new _ (.inl rfl)
          · exact HR.out.new _ (.inr (.inl rfl))
          · rcases List.mem_cons.1 hf with rfl | hf
            · have h1 := HQN.out a ha
              have h2 := H3S.out
              have h3 := HRL.out
              have h4 := HB1.out.size
              have h5 := HPP.out
              omega
            · exact HR.out.new _ (.inr (.inr ⟨f, (List.mem_filter.1 hf).1, a, ha, rfl⟩))
        · have h4 := HB1.out.size
          have h5 := HPP.out
          have h6 := HGG.out
          exact HB1.out.trans ((HB5.out.mono (by omega)).trans (HM6.out.to_below (by have := HB5.out.size; omega) (by intro k hk e; have := (HR.out.new b2 (.inr (.inl rfl))).1; omega)))
      case measure =>
        rw [hrgn.left_eq, HOLD.out.left_eq]
        exact HLT.out
end Go.Proofs.YtippakeemfldfaaDoor

namespace Go.Proofs.YtippakeemfldfaaDoor
open Go.RowKit Go.Sort

/-- How many loose bytes stay. -/
def stN (x : FX) (c : Int) : Nat := (min (max c 0) ((x.2.1.length - x.2.2 : Nat) : Int)).toNat
def crX : List Int → List FX → List FX
  | _, [] => []
  | ch, x :: l => if x.2.1.length - x.2.2 = 0 then x :: crX ch l else (x.1, x.2.1.take (x.2.2 + stN x (ch.headD 0)), x.2.2 + stN x (ch.headD 0)) :: crX ch.tail l
theorem stN_le (x : FX) (c : Int) : stN x c ≤ x.2.1.length - x.2.2 := by unfold stN; omega
theorem stN_zero (x : FX) : stN x 0 = 0 := by unfold stN; omega
theorem srt_ne2 {A B : List FX} {y : FX} (h : SrtX (A ++ y :: B)) : (∀ a ∈ A, a.1 < y.1) ∧ (∀ b ∈ B, y.1 < b.1) := by
  obtain ⟨_, h2, h3⟩ := List.pairwise_append.1 h
  exact ⟨fun a ha => h3 a ha y (List.mem_cons_self ..), (List.pairwise_cons.1 h2).1⟩
theorem insX_at {x : FX} : ∀ {A B : List FX}, (∀ a ∈ A, a.1 < x.1) → (∀ b ∈ B, x.1 < b.1) → insX x (A ++ B) = A ++ x :: B
  | [], [], _, _ => rfl
  | [], b :: l, _, hb => by
    show (if x.1 < b.1 then x :: b :: l else b :: insX x l) = _
    rw [if_pos (hb b (List.mem_cons_self ..))]; rfl
  | a :: A, B, ha, hb => by
    show (if x.1 < a.1 then x :: a :: (A ++ B) else a :: insX x (A ++ B)) = _
    rw [if_neg (fun h => List.lt_irrefl _ (List.lt_trans h (ha a (List.mem_cons_self ..)))), insX_at (fun y hy => ha y (List.mem_cons_of_mem _ hy)) hb]; rfl
theorem wo_at {A B : List FX} {y : FX} (h : SrtX (A ++ y :: B)) : wo y.1 (A ++ y :: B) = A ++ B := by
  obtain ⟨h1, h2⟩ := srt_ne2 h
  unfold wo
  rw [List.filter_append, List.filter_cons_of_neg (by simp)]
  congr 1
  · exact List.filter_eq_self.2 fun a ha => by
      have := h1 a ha
      simp only [bne_iff_ne, ne_eq]
      intro e; rw [e] at this; exact List.lt_irrefl _ this
  · exact List.filter_eq_self.2 fun a ha => by
      have := h2 a ha
      simp only [bne_iff_ne, ne_eq]
      intro e; rw [e] at this; exact List.lt_irrefl _ this
theorem withX_at {A B : List FX} {y x : FX} (h : SrtX (A ++ y :: B)) (e : x.1 = y.1) : withX x (A ++ y :: B) = A ++ x :: B := by
  unfold withX
  rw [e, wo_at h]
  obtain ⟨h1, h2⟩ := srt_ne2 h
  exact insX_at (fun a ha => by rw [e]; exact h1 a ha) (fun b hb => by rw [e]; exact h2 b hb)
theorem DA.so {w : World} {d : Nat} {S : St} {F : Nat → Prop} (h : DA w d S F) : SrtX S.X := by
  obtain ⟨_, _, h, _, _⟩ := h
  exact h.so
theorem DA.syn {w : World} {d : Nat} {S : St} {F : Nat → Prop} (h : DA w d S F) : ∀ x ∈ S.X, x.2.2 ≤ x.2.1.length := by
  obtain ⟨_, L, h, _, _⟩ := h
  intro x hx
  obtain ⟨f, hf, rfl⟩ := List.mem_map.1 (h.pm.mem_iff.2 hx)
  exact h.syn f hf
theorem Rd.tail1 {w : World} {cp : Option Addr} {ch : List Int} (h : Rd encI w cp ch) (h0 : ch ≠ []) : ∃ b o, cp = some ⟨b, o, none⟩ ∧ Rd encI w (some ⟨b, o + 1, none⟩) ch.tail ∧ w.cell? ⟨b, o, none⟩ = some (.int .i64 (ch.headD 0)) := by
  cases ch with
  | nil => exact absurd rfl h0
  | cons c t =>
    obtain ⟨b, o, e, hb, hc⟩ := h 0 (by simp)
    have h1 := hc 0 _ rfl
    refine ⟨b, o, e, ?_, by simpa [encI] using h1⟩
    intro j hj
    obtain ⟨b', o', e', hb', hc'⟩ := h (j + 1) (by simpa using hj)
    rw [e] at e'
    cases e'
    refine ⟨b, o + 1, rfl, hb, fun i u hu => ?_⟩
    have := hc' i u hu
    rw [show o + 1 + j * encI.k + i = o + (j + 1) * encI.k + i by simp [encI]; omega]
    exact this
/-- A loop over a disk's names that leaves each file's bytes as a crash does. -/
structure CrR (W wr : World) (d : Nat) (S : St) (F : Nat → Prop) (N : List (List UInt8)) (i : Nat) (ch0 : List Int) (cp : Option Addr) (n c : Nat) (D R : List FX) (ch : List Int) : Prop where
  ef : Eff W wr d { S with X := D ++ R } F
  nd : D.length = i
  nm : (D ++ R).map (·.1) = N
  cr : crX ch0 S.X = D ++ crX ch R
  cl : n = ch.length
  cc : n ≤ c
  rd : ∀ w', Mod F W w' → Rd encI w' cp ch
  sf : R <:+ S.X
set_option maxRecDepth 20000 in
set_option maxHeartbeats 4000000 in
theorem dkcrash_any {w : World} {d : Nat} {S : St} {F : Nat → Prop} (h : DA w d S F) (ok : Ok S) (cp : Option Addr) (cc : Nat) (ch : List Int) (hcc : ch.length ≤ cc) (hrd : Rd encI w cp ch) (hcp : ch ≠ [] → ∀ a, cp = some a → ¬ F a.block) :
    Calls Tryd.prog 14 #[.pointer (some ⟨d, 0, none⟩), .slice cp ch.length cc] w fun e w' => e = .returned (.tuple #[]) ∧ Eff w w' d { S with X := crX ch S.X, lf := -1, dn := false } F := by
  have hlt := h.lt
  have hnames := Lib.hid (dknames_any h (Nat.le_trans ok.n (by decide)) ok.k)
  have HKEEP : Hid (∀ W w', Below w.heap.size w W → Mod F W w' → Rd encI w' cp ch) := Lib.hid (by
    intro W w' hb hm j hj
    obtain ⟨b, o, e, hbl, hc⟩ := (hrd.old hb) j hj
    exact ⟨b, o, e, Nat.lt_of_lt_of_le hbl hm.size, fun i u hu => (World.cell?_of_block (hm.block b hbl (hcp (by intro e'; subst e'; simp at hj) _ e))).trans (hc i u hu)⟩)
  have HH := Lib.hid h
  have HOK := Lib.hid ok
  have HLT := Lib.hid hlt
  have HCC := Lib.hid hcc
  obtain ⟨n, hn⟩ : ∃ n, n = S.X.length := ⟨_, rfl⟩
  have HNN := Lib.hid hn
  rw [← hn] at hnames
  obtain ⟨cn, hcn⟩ : ∃ cn, cn = ch.length := ⟨_, rfl⟩
  have HCN := Lib.hid hcn
  rw [← hcn]
  have HI : Hid ((Tryd.prog.info? 63).map (·.size) = some 2) := Lib.hid (by kernel_rfl)
  clear h ok hlt hcc hrd hcp hn hcn
  go_enter Tryd.func14, Tryd.ntmps14
  go_wp2_with fail
  refine hnames.out.mono ?_
  rintro r W ⟨q, qc, rfl, hq, hqn, hbW⟩
  have HQ : Hid (∀ w', Mod F W w' → Rd encS w' q (S.X.map (·.1))) := Lib.hid (fun w' hm => (hq.kept hm (fun a e hf => by have := hqn a e; have := HLT.out _ hf; omega)).rd)
  have HBW := Lib.hid hbW
  have HDW := Lib.hid (HH.out.old hbW)
  have HK0 : Hid (CrR W W d S F (S.X.map (·.1)) 0 ch cp cn cc [] S.X ch) := Lib.hid ⟨Eff.of (HH.out.old hbW) (Mod.refl _ _), rfl, rfl, rfl, HCN.out, by rw [HCN.out]; exact HCC.out, fun w' hm => HKEEP.out W w' hbW hm, List.suffix_refl _⟩
  clear hq hqn hbW HKEEP hnames
  go_wp2_with fail
  go_loopw [1, 5, 6, 7, 11] (fun s1 _ _ _ s11 wr => ∃ (i : Nat) (cp' : Option Addr) (n' c' : Nat), i ≤ n ∧ s11 = .int .i64 (i : Int) ∧ s1 = .slice cp' n' c' ∧ Hid (∃ D R ch', CrR W wr d S F (S.X.map (·.1)) i ch cp' n' c' D R ch')) (fun _ _ _ _ s11 _ => n - (intOf s11).toNat)
  case atStart => exact ⟨0, cp, cn, cc, Nat.zero_le _, rfl, rfl, Lib.hid ⟨[], S.X, ch, HK0.out⟩⟩
  case round =>
    obtain ⟨i, cp', n', c', hi, rfl, rfl, hR⟩ := hrel
    obtain ⟨D, R, ch', hR⟩ := hR.out
    have HR := Lib.hid hR
    have hlen : D.length + R.length = n := by
      have := congrArg List.length hR.nm
      rw [List.length_map, List.length_map, List.length_append] at this
      rw [HNN.out]; exact this
    have HLEN := Lib.hid hlen
    clear hR HK0 hlen
    by_cases hend : i < n
    · obtain ⟨y, R', rfl⟩ : ∃ y R', R = y :: R' := by
        cases R with
        | nil => have h1 := HR.out.nd; have h2 := HLEN.out; simp at h2; omega
        | cons y R' => exact ⟨y, R', rfl⟩
      obtain ⟨F', hA, hF', hmW⟩ := HR.out.ef
      have hsoDR : SrtX (D ++ y :: R') := hA.so
      have hys := hA.syn y (by simp)
      have hfy : fiX y.1 (D ++ y :: R') = y := fiX_self hsoDR (by simp)
      obtain ⟨b, L, h, hF, hl⟩ := hA
      have hyk : y.1.length ≤ 1000000 := by
        have : y.1 ∈ S.X.map (·.1) := by rw [← HR.out.nm]; simp
        obtain ⟨z, hz, e⟩ := List.mem_map.1 this
        rw [← e]; exact HOK.out.k z hz
      have hyl : y.2.1.length ≤ 2000000000 := HOK.out.f y (HR.out.sf.subset (List.mem_cons_self ..))
      have hLn : L.length ≤ 1000000 := by
        have h1 := h.len
        have h2 := HLEN.out
        have h3 := HOK.out.n
        have h4 := HNN.out
        simp only [List.length_append] at h1
        omega
      obtain ⟨nb, no, hqe, hnb, hnc⟩ := (HQ.out wr hmW).str i (by rw [List.length_map, ← HNN.out]; exact hend)
      have hname : (S.X.map (·.1))[i]'(by rw [List.length_map, ← HNN.out]; exact hend) = y.1 := by
        have e : (S.X.map (·.1))[i]? = some y.1 := by
          rw [← HR.out.nm, List.map_append, List.getElem?_append_right (by rw [List.length_map, HR.out.nd]; exact Nat.le_refl _), List.length_map, HR.out.nd, Nat.sub_self]
          rfl
        rw [List.getElem?_eq_getElem (by rw [List.length_map, ← HNN.out]; exact hend)] at e
        exact Option.some.inj e
      rw [hname] at hnc
      have hax : (atF y.1 L).x = y := by rw [atF_x h]; exact hfy
      have hat := h.at y.1
      have hab : (atF y.1 L).b = y.2.1 := congrArg (fun z : FX => z.2.1) hax
      have has : (atF y.1 L).s = y.2.2 := congrArg (fun z : FX => z.2.2) hax
      have HPUT : Hid (∀ m s', m ≤ y.2.1.length → s' ≤ m → ∀ w1, Below wr.heap.size wr w1 → Calls Tryd.prog 41 #[.pointer (some ⟨d, 0, none⟩), .string ⟨y.1.toArray⟩, .agg #[.slice (atF y.1 L).p m (atF y.1 L).c, .int .i64 (s' : Int)]] w1 fun e w' => e = .returned (.tuple #[]) ∧ Eff wr w' d { S with X := D ++ (y.1, y.2.1.take m, s') :: R' } F') := Lib.hid (by
        intro m s' hm hs w1 hb
        have e1 : ((atF y.1 L).b.take m).length = m := by rw [hab, List.length_take]; omega
        have := at_put h hF hl y.1 m s' (by rw [e1]; exact hs) hyk hLn w1 hb
        simp only [e1, hfy] at this
        rwa [withX_at (x := (y.1, y.2.1.take m, s')) hsoDR rfl] at this)
      have HLK : Hid (∀ w1, Below wr.heap.size wr w1 → w1.cell? ⟨d, 1, none⟩ = some (.map (some b)) ∧ (Instr.lookup 54 (.map (some b)) (.string ⟨y.1.toArray⟩) false).run Tryd.prog w1 = .ok (.agg #[.slice (atF y.1 L).p y.2.1.length (atF y.1 L).c, .int .i64 (y.2.2 : Int)]) w1) := Lib.hid (fun w1 hb => ⟨(h.old hb).c1, by rw [← hab, ← has]; exact (h.old hb).look y.1 (by unfold maxLen; omega)⟩)
      have hcl := hat.1.cap_le
      rw [hab] at hcl
      generalize (atF y.1 L).p = p at *
      generalize (atF y.1 L).c = c at *
      have HTR : Hid (∀ X w', Eff wr w' d { S with X := X } F' → Eff W w' d { S with X := X } F) := Lib.hid (fun X w' hE => by
        obtain ⟨F2, hA2, hF2, hm2⟩ := hE
        exact ⟨F2, hA2, fun i hi => (hF2 i hi).elim (hF' i) (fun h' => .inr (Nat.le_trans hmW.size h')), hmW.trans hm2 (fun i hi h => (hF' i h).elim id (fun h' => by omega))⟩)
      subst hqe
      clear h hF hl hat hax hab has hname hfy hsoDR hyk hLn hmW hF'
      obtain ⟨yk, yb, ys⟩ := y
      simp only at *
      have hlk := HLK.out wr (Below.refl _ _)
      obtain ⟨hc1, hlk⟩ := hlk
      have hr1 : (wr.alloc (.cells #[.slice none 0 0, .int .i64 0] 63)).heap[wr.heap.size]? = some (.cells #[.slice none 0 0, .int .i64 0] 63 (0, 0)) := heap_alloc_new _ _
      have hV : ∀ u ∈ (#[.slice p yb.length c, .int .i64 (ys : Int)] : Array Value).toList, u.oneCell' = true := by intro u hu; simp at hu; rcases hu with rfl | rfl <;> rfl
      have HI2 := HI.out
      have hlo := fun w1 => dfloose_any ⟨yk, yb, ys, p, c⟩ w1 hys hyl
      unfold Fl.v at hlo
      simp only at hlo
      obtain ⟨lo, hloe⟩ : ∃ lo, lo = yb.length - ys := ⟨_, rfl⟩
      rw [← hloe] at hlo
      have HLO := Lib.hid hlo
      have HLE := Lib.hid hloe
      have HYS := Lib.hid hys
      have HYL := Lib.hid hyl
      have HCL := Lib.hid hcl
      clear hlo hloe hys hyl hcl hnb hR
      go_upto_region 4 with (refine wpList_store_row rfl rfl 63 (.tmp 6) (.tmp 20) rfl wr.heap.size rfl 63 _ #[.slice p yb.length c, .int .i64 (ys : Int)] rfl hr1 rfl HI2 hV ?_)
      obtain ⟨W3, hW3⟩ : ∃ W3, W3 = (wr.alloc (.cells #[.slice none 0 0, .int .i64 0] 63)).setRow wr.heap.size #[.slice p yb.length c, .int .i64 (ys : Int)] := ⟨_, rfl⟩
      have hb3 : Below wr.heap.size wr W3 := by rw [hW3]; exact (((Mod.refl (fun _ => False) wr).alloc _).setRow (g := wr.heap.size) _).to_below (Nat.le_refl _) (by rintro k hk (h | h); exact h; omega)
      have h3 : W3.heap[wr.heap.size]? = some (.cells #[.slice p yb.length c, .int .i64 (ys : Int)] 63 (0, 0)) := by rw [hW3]; exact setRow_heap _ _ _ _ 63 (0, 0) hr1
      rw [← hW3]
      have HB3 := Lib.hid hb3
      have H3 := Lib.hid h3
      clear hW3 hr1 hV hb3 hnc hc1 hlk HLK
      generalize hg : wr.heap.size = g at *
      have HGG := Lib.hid hg
      clear hg
      have hnn : n ≤ 100000 := by have h1 := HOK.out.n; have h2 := HNN.out; omega
      by_cases hz : lo = 0
      · subst hz
        go_wp2_with (refine wpList_load_row rfl 63 (.tmp 6) rfl g rfl 63 #[.slice p yb.length c, .int .i64 (ys : Int)] (0, 0) _ h3 Tryd.underlying63 rfl HI2 ?_; clear h3)
        refine (HLO.out W3).mono ?_
        rintro r w4 ⟨rfl, hb4⟩
        have HB4 := Lib.hid hb4
        clear hb4
        go_wp2_with fail
        refine ⟨⟨i + 1, cp', n', c', by omega, by simp, rfl, Lib.hid ⟨D ++ [(yk, yb, ys)], R', ch', ?_⟩⟩, ?_⟩
        · refine ⟨?_, ?_, ?_, ?_, HR.out.cl, HR.out.cc, HR.out.rd, List.IsSuffix.trans (List.suffix_cons _ _) HR.out.sf⟩
          · have := Eff.then HR.out.ef (fun F2 hA2 => Eff.below hA2 (by have h1 := HB3.out; have h2 := HGG.out; rw [h2]; exact h1.trans (HB4.out.mono (by have := h1.size; omega))))
            rwa [List.append_assoc, List.singleton_append]
          · rw [List.length_append, HR.out.nd]; rfl
          · rw [← HR.out.nm, List.append_assoc, List.singleton_append]
          · rw [HR.out.cr, List.append_assoc, List.singleton_append]
            congr 1
            have e : crX ch' ((yk, yb, ys) :: R') = if yb.length - ys = 0 then (yk, yb, ys) :: crX ch' R' else (yk, yb.take (ys + stN (yk, yb, ys) (ch'.headD 0)), ys + stN (yk, yb, ys) (ch'.headD 0)) :: crX ch'.tail R' := rfl
            rw [e, ← HLE.out, if_pos rfl]
        · show n - ((i : Int) + 1).toNat < n - ((i : Int)).toNat
          omega
      · have hz2 : (((lo : Nat) : Int) == 0) = false := by simpa using hz
        have HZ := Lib.hid hz
        clear hz
        by_cases hch : ch' = []
        · obtain rfl : ch' = [] := hch
          obtain rfl : n' = 0 := HR.out.cl
          obtain ⟨st, hst⟩ : ∃ st, st = stN (yk, yb, ys) (([] : List Int).headD 0) := ⟨_, rfl⟩
          have hst0 : st = 0 := by rw [hst]; exact stN_zero _
          have HST := Lib.hid hst
          subst hst0
          have HMM : Hid (ys = ys + 0) := Lib.hid rfl
          have HM : Hid (ys ≤ yb.length) := HYS
          have HML : Hid ((yb.take ys).length = ys) := Lib.hid (by have := HYS.out; rw [List.length_take]; omega)
          clear hst
          go_wp2_with (refine wpList_load_row rfl 63 (.tmp 6) rfl g rfl 63 #[.slice p yb.length c, .int .i64 (ys : Int)] (0, 0) _ h3 Tryd.underlying63 rfl HI2 ?_; clear h3)
          refine (HLO.out W3).mono ?_
          rintro r w5 ⟨rfl, hb5⟩
          have H4 : Hid (w5.heap[g]? = some (.cells #[.slice p yb.length c, .int .i64 (ys : Int)] 63 (0, 0))) := Lib.hid ((hb5.block g (Array.getElem?_eq_some_iff.1 H3.out).1).trans H3.out)
          have HB5 : Hid (Below wr.heap.size wr w5) := Lib.hid (by have h1 := HB3.out; have h2 := HGG.out; rw [h2]; exact h1.trans (hb5.mono (by have := h1.size; omega)))
          clear hb5
          rw [show g = wr.heap.size from HGG.out.symm] at HB3
          go_upto_region 9 with fail
          have HF9 : Hid (∀ w1, Calls Tryd.prog 42 #[.agg #[.slice p yb.length c, .int .i64 (ys : Int)], .int .i64 (ys : Int)] w1 fun e w' => e = .returned (.agg #[.slice p ys c, .int .i64 ((min ys ys : Nat) : Int)]) ∧ Below w1.heap.size w1 w') := Lib.hid (fun w1 => by
            have := dffirst_any ⟨yk, yb, ys, p, c⟩ ys w1 HM.out HCL.out
            unfold Fl.v at this
            simpa only [HML.out] using this)
          have HS9 : Hid (∀ w1, Calls Tryd.prog 43 #[.agg #[.slice p ys c, .int .i64 ((min ys ys : Nat) : Int)]] w1 fun e w' => e = .returned (.agg #[.slice p ys c, .int .i64 (ys : Int)]) ∧ Below w1.heap.size w1 w') := Lib.hid (fun w1 => by
            have := dfsure_any ⟨yk, yb.take ys, min ys ys, p, c⟩ w1
            unfold Fl.v at this
            simpa only [HML.out] using this)
          generalize ((min ys ys : Nat) : Int) = sm at HF9 HS9
          have hysb : ys ≤ 2000000000 := by have h1 := HYS.out; have h2 := HYL.out; omega
          have h4 := H4.out
          have c41 : w5.cell? ⟨g, 1, none⟩ = some (.int .i64 (ys : Int)) := by unfold World.cell?; rw [h4]; rfl
          go_wp2_with (refine wpList_load_row rfl 63 (.tmp 6) rfl g rfl 63 #[.slice p yb.length c, .int .i64 (ys : Int)] (0, 0) _ h4 Tryd.underlying63 rfl HI2 ?_; clear h4)
          refine (HF9.out _).mono ?_
          rintro r w6 ⟨rfl, hb6⟩
          have HB6 := Lib.hid (HB5.out.trans (hb6.mono HB5.out.size))
          clear hb6
          go_wp2_with fail
          refine (HS9.out _).mono ?_
          rintro r w7 ⟨rfl, hb7⟩
          have HB7 := Lib.hid (HB6.out.trans (hb7.mono HB6.out.size))
          clear hb7 HB6
          go_wp2_with fail
          refine (HPUT.out ys ys HM.out (Nat.le_refl _) w7 (by have := HB7.out; rwa [HGG.out] at this)).mono ?_
          rintro r w8 ⟨rfl, hE⟩
          have HE8 := Lib.hid (HTR.out _ _ hE)
          clear hE
          go_wp2_with fail
          refine ⟨⟨i + 1, cp', 0, c', by omega, by simp, rfl, Lib.hid ⟨D ++ [(yk, yb.take ys, ys)], R', [], ?_⟩⟩, ?_⟩
          · refine ⟨?_, ?_, ?_, ?_, HR.out.cl, HR.out.cc, HR.out.rd, List.IsSuffix.trans (List.suffix_cons _ _) HR.out.sf⟩
            · have := HE8.out
              rwa [List.append_assoc, List.singleton_append]
            · rw [List.length_append, HR.out.nd]; rfl
            · rw [← HR.out.nm, List.append_assoc, List.singleton_append, List.map_append, List.map_append]; rfl
            · rw [HR.out.cr, List.append_assoc, List.singleton_append]
              congr 1
              have e : crX ([] : List Int) ((yk, yb, ys) :: R') = if yb.length - ys = 0 then (yk, yb, ys) :: crX ([] : List Int) R' else (yk, yb.take (ys + stN (yk, yb, ys) (([] : List Int).headD 0)), ys + stN (yk, yb, ys) (([] : List Int).headD 0)) :: crX ([] : List Int).tail R' := rfl
              rw [e, ← HLE.out, if_neg HZ.out, ← HST.out, ← HMM.out]
              all_goals rfl
          · show n - ((i : Int) + 1).toNat < n - ((i : Int)).toNat
            omega
        · obtain ⟨c0, hc0⟩ : ∃ c0, c0 = ch'.headD 0 := ⟨_, rfl⟩
          obtain ⟨st, hst⟩ : ∃ st, st = stN (yk, yb, ys) (ch'.headD 0) := ⟨_, rfl⟩
          have HST := Lib.hid hst
          have hstl : st ≤ lo := by rw [hst, HLE.out]; exact stN_le _ _
          have hst2 : min (max c0 0) (lo : Int) = (st : Int) := by
            rw [hst, hc0, HLE.out]
            show min (max (ch'.headD 0) 0) ((yb.length - ys : Nat) : Int) = ((min (max (ch'.headD 0) 0) ((yb.length - ys : Nat) : Int)).toNat : Int)
            omega
          obtain ⟨F1, hF1, hF2, hmW⟩ := HR.out.ef
          obtain ⟨cb, co, ecp, _, _⟩ := (HR.out.rd wr hmW).tail1 hch
          subst ecp
          have HTL : Hid (∀ w', Mod F W w' → Rd encI w' (some ⟨cb, co + 1, none⟩) ch'.tail) := Lib.hid (fun w' hm => by
            obtain ⟨b', o', e, h, _⟩ := (HR.out.rd w' hm).tail1 hch
            cases e; exact h)
          have hn1 : 1 ≤ n' := by
            have h1 := HR.out.cl
            cases ch' with
            | nil => exact absurd rfl hch
            | cons a l => rw [h1]; simp
          have hcn : n' ≤ c' := HR.out.cc
          have HRDW := Lib.hid (HR.out.rd wr hmW)
          have HCH := Lib.hid hch
          obtain ⟨m, hmm⟩ : ∃ m, m = ys + st := ⟨_, rfl⟩
          have HMM := Lib.hid hmm
          have hM : m ≤ yb.length := by have h1 := HYS.out; have h2 := HLE.out; omega
          have HM := Lib.hid hM
          have HML : Hid ((yb.take m).length = m) := Lib.hid (by rw [List.length_take]; omega)
          have hwm : IntKind.i64.wrap ((ys : Int) + (st : Int)) = (m : Int) := by have := HYL.out; rw [IntKind.wrap_i64]; omega
          have HC0E := Lib.hid hc0
          clear hst hmm hM hF1 hF2 hmW hch hc0
          go_wp2_with (refine wpList_load_row rfl 63 (.tmp 6) rfl g rfl 63 #[.slice p yb.length c, .int .i64 (ys : Int)] (0, 0) _ h3 Tryd.underlying63 rfl HI2 ?_; clear h3)
          refine (HLO.out W3).mono ?_
          rintro r w5 ⟨rfl, hb5⟩
          have H4 : Hid (w5.heap[g]? = some (.cells #[.slice p yb.length c, .int .i64 (ys : Int)] 63 (0, 0))) := Lib.hid ((hb5.block g (Array.getElem?_eq_some_iff.1 H3.out).1).trans H3.out)
          have HB5 : Hid (Below wr.heap.size wr w5) := Lib.hid (by have h1 := HB3.out; have h2 := HGG.out; rw [h2]; exact h1.trans (hb5.mono (by have := h1.size; omega)))
          have HC0 : Hid (∀ w1, Below w5.heap.size w5 w1 → w1.cell? ⟨cb, co, none⟩ = some (.int .i64 c0)) := Lib.hid (fun w1 hb => by
            obtain ⟨b', o', e, _, h⟩ := ((HRDW.out.old HB5.out).old hb).tail1 HCH.out
            cases e; rw [HC0E.out]; exact h)
          clear hb5
          have hidx : ¬ n' = 0 := by omega
          go_upto_region 7 with fail
          refine wp_region_puts (fun t v w => VK (match t with
            | 27 => .eq (.slice (some ⟨cb, co, none⟩) n' c')
            | 28 => .eq (.pointer (some ⟨cb, co, none⟩))
            | 29 => .eq (.int .i64 c0)
            | 30 => .eq (.int .i64 (max c0 0))
            | 31 => .eq (.agg #[.slice p yb.length c, .int .i64 (ys : Int)])
            | 32 => .eq (.int .i64 (lo : Int))
            | 33 => .eq (.int .i64 (st : Int))
            | 7 => .eq (.int .i64 (st : Int))
            | _ => .any) v w) (fun w' => Below w5.heap.size w5 w') 53 (by kernel_rfl) (by decide +kernel) rfl (Below.refl _ _).drew (by
            refine OweAll.cons (owesK rfl rfl fun a w1 ha hG hV => ?_) ?_
            · skip
              have h1 := ha.outer 1 (by decide +kernel)
              simp only [Act.eval] at h1
              exact ⟨.slice (some ⟨cb, co, none⟩) n' c', w1, wanted_free rfl, by simp [execOp, go_sem, h1], Below.refl _ _, rfl⟩
            refine OweAll.cons (owesK rfl rfl fun a w1 ha hG hV => ?_) ?_
            · skip
              have h27 : a.tmps.getD 27 undef = .slice (some ⟨cb, co, none⟩) n' c' := hV.get 27 (by decide +kernel)
              exact ⟨.pointer (some ⟨cb, co, none⟩), w1, wanted_free rfl, by simp [execOp, go_sem, h27, hidx], Below.refl _ _, rfl⟩
            refine OweAll.cons (owesK rfl rfl fun a w1 ha hG hV => ?_) ?_
            · skip
              have h28 : a.tmps.getD 28 undef = .pointer (some ⟨cb, co, none⟩) := hV.get 28 (by decide +kernel)
              have cc := HC0.out w1 hG
              exact ⟨.int .i64 c0, w1, wanted_free rfl, by simp [execOp, go_sem, h28, cc], Below.refl _ _, rfl⟩
            refine OweAll.cons (owesK rfl rfl fun a w1 ha hG hV => ?_) ?_
            · skip
              have h29 : a.tmps.getD 29 undef = .int .i64 c0 := hV.get 29 (by decide +kernel)
              exact ⟨.int .i64 (max c0 0), w1, wanted_free rfl, by simp [execOp, go_sem, h29], Below.refl _ _, rfl⟩
            refine OweAll.cons (owesK rfl rfl fun a w1 ha hG hV => ?_) ?_
            · skip
              have h6 := ha.outer 6 (by decide +kernel)
              simp only [Act.eval] at h6
              have hh : w1.heap[g]? = some (.cells #[.slice p yb.length c, .int .i64 (ys : Int)] 63 (0, 0)) := (hG.block g (Array.getElem?_eq_some_iff.1 H4.out).1).trans H4.out
              exact ⟨.agg #[.slice p yb.length c, .int .i64 (ys : Int)], w1, wanted_free rfl, exec_load_row 63 (.tmp 6) rfl g h6 63 #[.slice p yb.length c, .int .i64 (ys : Int)] (0, 0) _ hh Tryd.underlying63 rfl HI.out, Below.refl _ _, rfl⟩
            refine OweAll.cons (owesK_call rfl rfl 40 fun a w1 ha hG hV => ?_) ?_
            · skip
              have h31 : a.tmps.getD 31 undef = .agg #[.slice p yb.length c, .int .i64 (ys : Int)] := hV.get 31 (by decide +kernel)
              refine ⟨#[.agg #[.slice p yb.length c, .int .i64 (ys : Int)]], wanted_free rfl, by simp [execOp, resolve, invoke, go_sem, h31], ?_⟩
              refine (HLO.out w1).mono ?_
              rintro r' u2 ⟨rfl, hb2⟩; exact ⟨_, rfl, rfl, hb2⟩
            refine OweAll.cons (owesK rfl rfl fun a w1 ha hG hV => ?_) ?_
            · skip
              have h30 : a.tmps.getD 30 undef = .int .i64 (max c0 0) := hV.get 30 (by decide +kernel)
              have h32 : a.tmps.getD 32 undef = .int .i64 (lo : Int) := hV.get 32 (by decide +kernel)
              exact ⟨.int .i64 (st : Int), w1, wanted_free rfl, by simp [execOp, go_sem, h30, h32, hst2], Below.refl _ _, rfl⟩
            refine OweAll.cons (owesK rfl rfl fun a w1 ha hG hV => ?_) ?_
            · skip
              have h33 : a.tmps.getD 33 undef = .int .i64 (st : Int) := hV.get 33 (by decide +kernel)
              exact ⟨.int .i64 (st : Int), w1, wanted_free rfl, by simp [execOp, go_sem, h33], Below.refl _ _, rfl⟩
            exact OweAll.nil
            ) ?_
          intro f wz hG hv
          have e7 : f 7 = .int .i64 (st : Int) := hv 7 _ 7 rfl rfl
          rename_i hK
          refine hK _ _ ?_
          clear hK hv
          simp only [dsts, puts, List.filterMap_cons, List.filterMap_nil, List.foldl_cons, List.foldl_nil, Act.put, List.setIfInBounds_toArray, List.set_cons_succ, List.set_cons_zero, e7]
          clear e7
          have HB6 : Hid (Below wr.heap.size wr wz) := Lib.hid (HB5.out.trans (hG.mono HB5.out.size))
          have H6 : Hid (wz.heap[g]? = some (.cells #[.slice p yb.length c, .int .i64 (ys : Int)] 63 (0, 0))) := Lib.hid ((hG.block g (Array.getElem?_eq_some_iff.1 H4.out).1).trans H4.out)
          clear hG H4 HB5
          have H4 := H6
          have HB5 := HB6
          clear H6 HB6
          go_upto_region 9 with fail
          obtain ⟨cp2, hcp2⟩ : ∃ x : Option Addr, x = (if c' = 1 then some ⟨cb, co, none⟩ else some ⟨cb, co + 1, none⟩) := ⟨_, rfl⟩
          rw [← hcp2]
          have HRD2 : Hid (∀ w', Mod F W w' → Rd encI w' cp2 ch'.tail) := Lib.hid (fun w' hm => by
            by_cases h1 : c' = 1
            · have e : ch'.tail = [] := List.eq_nil_of_length_eq_zero (by have := HR.out.cl; rw [List.length_tail]; omega)
              rw [e]; exact Rd.nil _ _
            · rw [hcp2, if_neg h1]; exact HTL.out w' hm)
          have HCL2 : Hid (n' - 1 = ch'.tail.length) := Lib.hid (by have := HR.out.cl; rw [List.length_tail, ← this])
          clear hcp2
          have HF9 : Hid (∀ w1, Calls Tryd.prog 42 #[.agg #[.slice p yb.length c, .int .i64 (ys : Int)], .int .i64 (m : Int)] w1 fun e w' => e = .returned (.agg #[.slice p m c, .int .i64 ((min ys m : Nat) : Int)]) ∧ Below w1.heap.size w1 w') := Lib.hid (fun w1 => by
            have := dffirst_any ⟨yk, yb, ys, p, c⟩ m w1 HM.out HCL.out
            unfold Fl.v at this
            simpa only [HML.out] using this)
          have HS9 : Hid (∀ w1, Calls Tryd.prog 43 #[.agg #[.slice p m c, .int .i64 ((min ys m : Nat) : Int)]] w1 fun e w' => e = .returned (.agg #[.slice p m c, .int .i64 (m : Int)]) ∧ Below w1.heap.size w1 w') := Lib.hid (fun w1 => by
            have := dfsure_any ⟨yk, yb.take m, min ys m, p, c⟩ w1
            unfold Fl.v at this
            simpa only [HML.out] using this)
          generalize ((min ys m : Nat) : Int) = sm at HF9 HS9
          have hysb : ys ≤ 2000000000 := by have h1 := HYS.out; have h2 := HYL.out; omega
          have h4 := H4.out
          have c41 : wz.cell? ⟨g, 1, none⟩ = some (.int .i64 (ys : Int)) := by unfold World.cell?; rw [h4]; rfl
          go_wp2_with (refine wpList_load_row rfl 63 (.tmp 6) rfl g rfl 63 #[.slice p yb.length c, .int .i64 (ys : Int)] (0, 0) _ h4 Tryd.underlying63 rfl HI2 ?_; clear h4)
          refine (HF9.out _).mono ?_
          rintro r w6 ⟨rfl, hb6⟩
          have HB6 := Lib.hid (HB5.out.trans (hb6.mono HB5.out.size))
          clear hb6
          go_wp2_with fail
          refine (HS9.out _).mono ?_
          rintro r w7 ⟨rfl, hb7⟩
          have HB7 := Lib.hid (HB6.out.trans (hb7.mono HB6.out.size))
          clear hb7 HB6
          go_wp2_with fail
          refine (HPUT.out m m HM.out (Nat.le_refl _) w7 (by have := HB7.out; rwa [HGG.out] at this)).mono ?_
          rintro r w8 ⟨rfl, hE⟩
          have HE8 := Lib.hid (HTR.out _ _ hE)
          clear hE
          go_wp2_with fail
          refine ⟨⟨i + 1, cp2, n' - 1, c' - 1, by omega, by simp, rfl, Lib.hid ⟨D ++ [(yk, yb.take m, m)], R', ch'.tail, ?_⟩⟩, ?_⟩
          · refine ⟨?_, ?_, ?_, ?_, HCL2.out, by omega, HRD2.out, List.IsSuffix.trans (List.suffix_cons _ _) HR.out.sf⟩
            · have := HE8.out
              rwa [List.append_assoc, List.singleton_append]
            · rw [List.length_append, HR.out.nd]; rfl
            · rw [← HR.out.nm, List.append_assoc, List.singleton_append, List.map_append, List.map_append]; rfl
            · rw [HR.out.cr, List.append_assoc, List.singleton_append]
              congr 1
              have e : crX ch' ((yk, yb, ys) :: R') = if yb.length - ys = 0 then (yk, yb, ys) :: crX ch' R' else (yk, yb.take (ys + stN (yk, yb, ys) (ch'.headD 0)), ys + stN (yk, yb, ys) (ch'.headD 0)) :: crX ch'.tail R' := rfl
              rw [e, ← HLE.out, if_neg HZ.out, ← HST.out, ← HMM.out]
              all_goals rfl
          · show n - ((i : Int) + 1).toNat < n - ((i : Int)).toNat
            omega
    · have hR0 : R = [] := by
        have h1 := HR.out.nd
        have h2 := HLEN.out
        cases R with
        | nil => rfl
        | cons y l => simp at h2; omega
      subst hR0
      have hE := HR.out.ef
      rw [List.append_nil] at hE
      have hX : crX ch S.X = D := by
        rw [HR.out.cr]
        have e : crX ch' [] = [] := by unfold crX; rfl
        rw [e, List.append_nil]
      obtain ⟨F', hA, hF', hmW⟩ := Eff.trans ((Mod.of_below HBW.out).mono (fun i hi h => by omega)) hE
      obtain ⟨_, k3, k4, _, kf⟩ := hA.cells
      have f3 := kf 3
      have f4 := kf 4
      have s1 := hA.setF (S' := { S with X := D, dn := false }) 4 (.bool false) (fun _ => rfl) rfl
      have s2 := s1.1.setF (S' := { S with X := D, lf := -1, dn := false }) 3 (.int .i64 (-1)) (fun _ => rfl) rfl
      obtain ⟨_, j3, _, _, jf⟩ := s1.1.cells
      have g3 := jf 3
      have HE : Hid (Eff w ((wr.setCell ⟨d, 4, none⟩ (.bool false)).setCell ⟨d, 3, none⟩ (.int .i64 (-1))) d { S with X := crX ch S.X, lf := -1, dn := false } F) := Lib.hid (by rw [hX]; exact ⟨F', s2.1, hF', hmW.trans (s1.2.trans s2.2 (fun _ _ h => h)) (fun i hi h => (hF' i h).elim id (fun h' => by omega))⟩)
      have hend2 : decide ((i : Int) < (n : Int)) = false := by simp; omega
      clear hA hF' hmW kf s1 s2 jf hE hX hR
      go_wp2_with fail
      go_end0
      exact ⟨rfl, HE.out⟩
end Go.Proofs.YtippakeemfldfaaDoor

namespace Go.Proofs.YtippakeemfldfaaDoor
open Go.RowKit

/-! ## What files a deed leaves -/
theorem usedX_wo {X : List FX} (h : SrtX X) (k : List UInt8) : usedX (wo k X) + (fiX k X).2.1.length = usedX X := by
  induction X with
  | nil => rfl
  | cons y l ih =>
    obtain ⟨h1, h2⟩ := List.pairwise_cons.1 h
    by_cases e : y.1 = k
    · have hw : wo k (y :: l) = wo k l := by unfold wo; rw [List.filter_cons_of_neg (by simp [e])]
      have hl : wo k l = l := wo_not (fun x hx e' => by have := h1 x hx; rw [e', ← e] at this; exact List.lt_irrefl _ this)
      have hf : fiX k (y :: l) = y := by unfold fiX; rw [List.find?_cons_of_pos (by simp [e])]
      rw [hw, hl, hf]; simp only [usedX]; omega
    · have hw : wo k (y :: l) = y :: wo k l := by unfold wo; rw [List.filter_cons_of_pos (by simp [e])]
      have hf : fiX k (y :: l) = fiX k l := by unfold fiX; rw [List.find?_cons_of_neg (by simp [e])]
      rw [hw, hf]
      have := ih h2
      simp only [usedX]; omega
theorem usedX_with (x : FX) (X : List FX) : usedX (withX x X) = x.2.1.length + usedX (wo x.1 X) := by
  rw [usedX_perm (withX_perm x X)]; rfl
theorem wo_len (k : List UInt8) (X : List FX) : (wo k X).length ≤ X.length := List.length_filter_le _ _
theorem withX_len (x : FX) (X : List FX) : (withX x X).length ≤ X.length + 1 := by
  rw [(withX_perm x X).length_eq, List.length_cons]
  have := wo_len x.1 X
  omega
theorem withX_mem {x y : FX} {X : List FX} (h : y ∈ withX x X) : y = x ∨ y ∈ X := by
  rcases List.mem_cons.1 ((withX_perm x X).mem_iff.1 h) with h | h
  · exact .inl h
  · exact .inr (List.mem_filter.1 h).1
theorem usedX_mem {X : List FX} {x : FX} (h : x ∈ X) : x.2.1.length ≤ usedX X := by
  induction X with
  | nil => cases h
  | cons y l ih =>
    simp only [usedX]
    rcases List.mem_cons.1 h with rfl | h
    · omega
    · have := ih h; omega
theorem fiX_syn {X : List FX} (h : ∀ x ∈ X, x.2.2 ≤ x.2.1.length) (k : List UInt8) : (fiX k X).2.2 ≤ (fiX k X).2.1.length := by
  cases hh : hasX k X with
  | true => exact h _ (fiX_mem hh)
  | false => rw [fiX_none hh]; exact Nat.le_refl _
/-- What a disk's numbers may be behind n deeds. -/
structure Gd (S : St) (n : Nat) : Prop where
  xn : S.X.length ≤ n
  u : ((usedX S.X : Nat) : Int) ≤ S.rm
  k : ∀ x ∈ S.X, x.1.length ≤ 1000000
  r1 : S.rm ≤ 2000000000
  d0 : 0 ≤ S.dd
  d1 : S.dd ≤ n
  l0 : -1 ≤ S.lf
  l1 : S.lf ≤ 9223372036854775807
  so : SrtX S.X
  sy : ∀ x ∈ S.X, x.2.2 ≤ x.2.1.length
theorem Gd.ok {S : St} {n : Nat} (h : Gd S n) (hn : n ≤ 100000) : Ok S :=
  ⟨Nat.le_trans h.xn hn, fun x hx => by have h1 := usedX_mem hx; have h2 := h.u; have h3 := h.r1; omega, h.k, by have := h.u; omega, h.r1, h.d0, by have := h.d1; omega, h.l0, h.l1⟩
theorem Gd.new (r : Int) (h0 : 0 ≤ r) (h1 : r ≤ 2000000000) : Gd ⟨r, 0, -1, false, []⟩ 0 :=
  ⟨Nat.le_refl _, by simpa [usedX] using h0, (fun x hx => by cases hx), h1, Int.le_refl _, Int.le_refl _, Int.le_refl _, (by show (-1 : Int) ≤ _; decide), List.Pairwise.nil, (fun x hx => by cases hx)⟩
theorem Gd.more {S : St} {n m : Nat} (h : Gd S n) (hm : n ≤ m) : Gd S m :=
  ⟨Nat.le_trans h.xn hm, h.u, h.k, h.r1, h.d0, by have := h.d1; omega, h.l0, h.l1, h.so, h.sy⟩
/-- A deed whose files are good. -/
theorem Gd.deed {S : St} {n : Nat} (h : Gd S n) (wr : Int) (X' : List FX) (hX : S.dn = false → wr = 0 → X'.length ≤ n + 1 ∧ ((usedX X' : Nat) : Int) ≤ S.rm ∧ (∀ x ∈ X', x.1.length ≤ 1000000) ∧ SrtX X' ∧ (∀ x ∈ X', x.2.2 ≤ x.2.1.length)) : Gd (dedS S wr X') (n + 1) := by
  unfold dedS
  cases hd : S.dn with
  | true => rw [if_pos rfl]; exact h.more (by omega)
  | false =>
    rw [if_neg (by simp)]
    by_cases hw : wr = 0
    · rw [if_neg (by simpa using hw)]
      by_cases hl : S.lf = 0
      · rw [if_pos hl]
        exact ⟨Nat.le_trans h.xn (by omega), h.u, h.k, h.r1, h.d0, by have := h.d1; show S.dd ≤ _; omega, h.l0, h.l1, h.so, h.sy⟩
      · rw [if_neg hl]
        obtain ⟨a1, a2, a3, a4, a5⟩ := hX hd hw
        have l0 := h.l0
        have l1 := h.l1
        refine ⟨a1, a2, a3, h.r1, by have := h.d0; show 0 ≤ S.dd + 1; omega, by have := h.d1; show S.dd + 1 ≤ _; omega, ?_, ?_, a4, a5⟩
        · show -1 ≤ lfX S.lf; unfold lfX; split <;> omega
        · show lfX S.lf ≤ _; unfold lfX; split <;> omega
    · rw [if_pos (by simpa using hw)]; exact h.more (by omega)
section
variable {S : St} {n : Nat}
theorem Gd.app (h : Gd S n) (k s : List UInt8) (hk : k.length ≤ 1000000) : Gd (dedS S (wrA S s) (apX S k s)) (n + 1) := by
  refine h.deed _ _ (fun _ hw => ?_)
  have hu := usedX_wo h.so k
  unfold wrA at hw
  have hs : ¬ ((s.length : Int) > S.rm - (usedX S.X : Nat)) := by intro hc; rw [if_pos hc] at hw; cases hw
  unfold apX
  refine ⟨Nat.le_trans (withX_len _ _) (by have := h.xn; omega), ?_, fun x hx => ?_, withX_srt h.so _, fun x hx => ?_⟩
  · rw [usedX_with]; simp only [List.length_append]; omega
  · rcases withX_mem hx with rfl | hx
    · exact hk
    · exact h.k x hx
  · rcases withX_mem hx with rfl | hx
    · simp only [List.length_append]; have := fiX_syn h.sy k; omega
    · exact h.sy x hx
theorem Gd.syn (h : Gd S n) (k : List UInt8) (hk : k.length ≤ 1000000) : Gd (dedS S (wrN S k) (syX S k)) (n + 1) := by
  refine h.deed _ _ (fun _ _ => ?_)
  have hu := usedX_wo h.so k
  have h0 := h.u
  unfold syX
  refine ⟨Nat.le_trans (withX_len _ _) (by have := h.xn; omega), ?_, fun x hx => ?_, withX_srt h.so _, fun x hx => ?_⟩
  · rw [usedX_with]; simp only; omega
  · rcases withX_mem hx with rfl | hx
    · exact hk
    · exact h.k x hx
  · rcases withX_mem hx with rfl | hx
    · exact Nat.le_refl _
    · exact h.sy x hx
theorem Gd.cut (h : Gd S n) (k : List UInt8) (m : Int) (hk : k.length ≤ 1000000) : Gd (dedS S (wrC S k m) (cuX S k m.toNat)) (n + 1) := by
  refine h.deed _ _ (fun _ _ => ?_)
  have hu := usedX_wo h.so k
  have h0 := h.u
  unfold cuX
  refine ⟨Nat.le_trans (withX_len _ _) (by have := h.xn; omega), ?_, fun x hx => ?_, withX_srt h.so _, fun x hx => ?_⟩
  · rw [usedX_with]; simp only [List.length_take]; omega
  · rcases withX_mem hx with rfl | hx
    · exact hk
    · exact h.k x hx
  · rcases withX_mem hx with rfl | hx
    · simp only [List.length_take]; have := fiX_syn h.sy k; omega
    · exact h.sy x hx
theorem Gd.ren (h : Gd S n) (k t : List UInt8) (ht : t.length ≤ 1000000) : Gd (dedS S (wrN S k) (rnX S k t)) (n + 1) := by
  refine h.deed _ _ (fun _ _ => ?_)
  have hu := usedX_wo h.so k
  have hu2 := usedX_wo (wo_srt h.so k) t
  have h0 := h.u
  unfold rnX
  refine ⟨Nat.le_trans (withX_len _ _) (by have := h.xn; have := wo_len k S.X; omega), ?_, fun x hx => ?_, withX_srt (wo_srt h.so _) _, fun x hx => ?_⟩
  · rw [usedX_with]; simp only; omega
  · rcases withX_mem hx with rfl | hx
    · exact ht
    · exact h.k x (List.mem_filter.1 hx).1
  · rcases withX_mem hx with rfl | hx
    · exact fiX_syn h.sy k
    · exact h.sy x (List.mem_filter.1 hx).1
theorem Gd.rem (h : Gd S n) (k : List UInt8) : Gd (dedS S (wrN S k) (wo k S.X)) (n + 1) := by
  refine h.deed _ _ (fun _ _ => ?_)
  have hu := usedX_wo h.so k
  have h0 := h.u
  exact ⟨Nat.le_trans (wo_len _ _) (by have := h.xn; omega), by omega, fun x hx => h.k x (List.mem_filter.1 hx).1, wo_srt h.so k, fun x hx => h.sy x (List.mem_filter.1 hx).1⟩
theorem Gd.halt (h : Gd S n) (m : Int) (hm : m ≤ 9223372036854775807) : Gd { S with lf := max m (-1) } n :=
  ⟨h.xn, h.u, h.k, h.r1, h.d0, h.d1, by show -1 ≤ max m (-1); omega, by show max m (-1) ≤ _; omega, h.so, h.sy⟩
theorem crX_map : ∀ (ch : List Int) (X : List FX), (crX ch X).map (·.1) = X.map (·.1)
  | _, [] => by simp [crX]
  | ch, x :: l => by
    unfold crX
    by_cases h : x.2.1.length - x.2.2 = 0
    · rw [if_pos h, List.map_cons, List.map_cons, crX_map ch l]
    · rw [if_neg h, List.map_cons, List.map_cons, crX_map _ l]
/-- A crash leaves each file a beginning, all of it synced. -/
theorem crX_all : ∀ (ch : List Int) (X : List FX), (∀ x ∈ X, x.2.2 ≤ x.2.1.length) → ∀ (j : Nat) (y : FX), (crX ch X)[j]? = some y → ∃ x, X[j]? = some x ∧ y.1 = x.1 ∧ ∃ m, m ≤ x.2.1.length ∧ x.2.2 ≤ m ∧ y.2.1 = x.2.1.take m ∧ y.2.2 = m
  | _, [], _, j, y, h => by simp [crX] at h
  | ch, x :: l, hs, j, y, h => by
    have hx := hs x (List.mem_cons_self ..)
    unfold crX at h
    by_cases h0 : x.2.1.length - x.2.2 = 0
    · rw [if_pos h0] at h
      cases j with
      | zero =>
        obtain rfl : x = y := by simpa using h
        exact ⟨x, rfl, rfl, x.2.1.length, Nat.le_refl _, hx, by rw [List.take_length], by omega⟩
      | succ j => exact crX_all ch l (fun z hz => hs z (List.mem_cons_of_mem _ hz)) j y (by simpa using h)
    · rw [if_neg h0] at h
      cases j with
      | zero =>
        obtain rfl := Option.some.inj (show some _ = some y from h)
        have := stN_le x (ch.headD 0)
        exact ⟨x, rfl, rfl, x.2.2 + stN x (ch.headD 0), by omega, by omega, rfl, rfl⟩
      | succ j => exact crX_all ch.tail l (fun z hz => hs z (List.mem_cons_of_mem _ hz)) j y (by simpa using h)
theorem crX_used : ∀ (ch : List Int) (X : List FX), usedX (crX ch X) ≤ usedX X
  | _, [] => by simp [crX]
  | ch, x :: l => by
    unfold crX
    by_cases h0 : x.2.1.length - x.2.2 = 0
    · rw [if_pos h0]; simp only [usedX]; have := crX_used ch l; omega
    · rw [if_neg h0]; simp only [usedX, List.length_take]; have := crX_used ch.tail l; omega
theorem crX_len (ch : List Int) (X : List FX) : (crX ch X).length = X.length := by
  have := congrArg List.length (crX_map ch X)
  rwa [List.length_map, List.length_map] at this
theorem srt_of_map {A B : List FX} (h : A.map (·.1) = B.map (·.1)) (hB : SrtX B) : SrtX A := by
  unfold SrtX at *
  rw [← List.pairwise_map (f := fun x : FX => x.1) (R := (· < ·))] at hB ⊢
  rw [h]; exact hB
theorem Gd.crash (h : Gd S n) (ch : List Int) : Gd { S with X := crX ch S.X, lf := -1, dn := false } n := by
  have hu := crX_used ch S.X
  have h0 := h.u
  refine ⟨by show (crX ch S.X).length ≤ n; rw [crX_len]; exact h.xn, by show ((usedX (crX ch S.X) : Nat) : Int) ≤ S.rm; omega, fun x hx => ?_, h.r1, h.d0, h.d1, Int.le_refl _, (by show (-1 : Int) ≤ _; decide), srt_of_map (crX_map ch S.X) h.so, fun x hx => ?_⟩
  · have : x.1 ∈ (crX ch S.X).map (·.1) := List.mem_map_of_mem hx
    rw [crX_map] at this
    obtain ⟨y, hy, e⟩ := List.mem_map.1 this
    rw [← e]; exact h.k y hy
  · obtain ⟨j, hj, e⟩ := List.mem_iff_getElem.1 hx
    obtain ⟨y, _, _, m, h1, h2, h3, h4⟩ := crX_all ch S.X h.sy j x (by rw [List.getElem?_eq_getElem hj, e])
    rw [h3, h4, List.length_take]; omega
end
/-! ## A disk that is made since w0 -/
def Dk (w0 w : World) (d : Nat) (S : St) : Prop := ∃ F, DA w d S F ∧ (∀ i, F i → w0.heap.size ≤ i) ∧ Below w0.heap.size w0 w
section
variable {w0 w w' : World} {d : Nat} {S S' : St} {n : Nat}
theorem Dk.b (h : Dk w0 w d S) : Below w0.heap.size w0 w := by obtain ⟨_, _, _, h⟩ := h; exact h
theorem Dk.old (h : Dk w0 w d S) (hb : Below w.heap.size w w') : Dk w0 w' d S := by
  obtain ⟨F, hA, hF, hB⟩ := h
  exact ⟨F, hA.old hb, hF, hB.trans (hb.mono hB.size)⟩
theorem Dk.eff {F : Nat → Prop} (hF : ∀ i, F i → w0.heap.size ≤ i) (hB : Below w0.heap.size w0 w) (hE : Eff w w' d S' F) : Dk w0 w' d S' := by
  obtain ⟨F', hA, hF', hm⟩ := hE
  exact ⟨F', hA, fun i hi => (hF' i hi).elim (hF i) (fun h => Nat.le_trans hB.size h), hB.trans (hm.to_below hB.size (fun k hk h => by have := hF k h; omega))⟩
theorem Dk.new (m m1 r : Int) (w : World) (e1 : max m 0 = m1) (e2 : min m1 1073741824 = r) : Calls Tryd.prog 7 #[.int .i64 m] w fun e w' => ∃ p, e = .returned (.pointer (some ⟨p, 0, none⟩)) ∧ Dk w w' p ⟨r, 0, -1, false, []⟩ :=
  (dknew_any m m1 r w e1 e2).mono (by rintro e w' ⟨p, rfl, F, hA, hb, hF⟩; exact ⟨p, rfl, F, hA, hF, hb⟩)
theorem Dk.append (h : Dk w0 w d S) (ok : Ok S) (k s : List UInt8) (hk : k.length ≤ 1000000) (hs : s.length ≤ 1000000000) :
    Calls Tryd.prog 21 #[.pointer (some ⟨d, 0, none⟩), .string ⟨k.toArray⟩, .string ⟨s.toArray⟩] w fun e w' => e = .returned (.int .i64 (dedR S (wrA S s))) ∧ Dk w0 w' d (dedS S (wrA S s) (apX S k s)) := by
  obtain ⟨F, hA, hF, hB⟩ := h
  exact (dkappend_any hA ok k s hk hs).mono (by rintro e w' ⟨rfl, hE⟩; exact ⟨rfl, Dk.eff hF hB hE⟩)
theorem Dk.sync (h : Dk w0 w d S) (ok : Ok S) (k : List UInt8) (hk : k.length ≤ 1000000) :
    Calls Tryd.prog 34 #[.pointer (some ⟨d, 0, none⟩), .string ⟨k.toArray⟩] w fun e w' => e = .returned (.int .i64 (dedR S (wrN S k))) ∧ Dk w0 w' d (dedS S (wrN S k) (syX S k)) := by
  obtain ⟨F, hA, hF, hB⟩ := h
  exact (dksync_any hA ok k hk).mono (by rintro e w' ⟨rfl, hE⟩; exact ⟨rfl, Dk.eff hF hB hE⟩)
theorem Dk.crash (h : Dk w0 w d S) (ok : Ok S) (cp : Option Addr) (cc : Nat) (ch : List Int) (hcc : ch.length ≤ cc) (hrd : Rd encI w cp ch) (hcp : ch ≠ [] → ∀ a, cp = some a → a.block < w0.heap.size) :
    Calls Tryd.prog 14 #[.pointer (some ⟨d, 0, none⟩), .slice cp ch.length cc] w fun e w' => e = .returned (.tuple #[]) ∧ Dk w0 w' d { S with X := crX ch S.X, lf := -1, dn := false } := by
  obtain ⟨F, hA, hF, hB⟩ := h
  exact (dkcrash_any hA ok cp cc ch hcc hrd (fun he a e hf => by have h1 := hcp he a e; have h2 := hF _ hf; omega)).mono (by rintro e w' ⟨rfl, hE⟩; exact ⟨rfl, Dk.eff hF hB hE⟩)
theorem Dk.read (h : Dk w0 w d S) (k : List UInt8) (hk : k.length ≤ maxLen) :
    Calls Tryd.prog 22 #[.pointer (some ⟨d, 0, none⟩), .string ⟨k.toArray⟩] w fun e w' => e = .returned (.tuple #[.string ⟨(rdX S k).1.toArray⟩, .int .i64 (rdX S k).2]) ∧ Dk w0 w' d S := by
  have h2 := h
  obtain ⟨F, hA, hF, hB⟩ := h
  exact (dkread_any hA k hk).mono (by rintro e w' ⟨rfl, hE⟩; exact ⟨rfl, h2.old hE⟩)
theorem Dk.used (h : Dk w0 w d S) (ok : Ok S) : Calls Tryd.prog 10 #[.pointer (some ⟨d, 0, none⟩)] w fun e w' => e = .returned (.int .i64 (usedX S.X : Nat)) ∧ Dk w0 w' d S := by
  have h2 := h
  obtain ⟨F, hA, hF, hB⟩ := h
  exact (dkused_any hA (Nat.le_trans ok.n (by decide)) ok.f).mono (by rintro e w' ⟨rfl, hE⟩; exact ⟨rfl, h2.old hE⟩)
end
end Go.Proofs.YtippakeemfldfaaDoor

namespace Go.Proofs.YtippakeemfldfaaDoor
open Go.RowKit

/-- The records of the whole frames that s begins with, and their bytes; none: a bad one. -/
def whoB : Nat → List UInt8 → Option (List (List UInt8) × Nat)
  | 0, _ => some ([], 0)
  | f + 1, s =>
    if (fstB s).2.2 ≠ 0 then none
    else if (fstB s).2.1 then (whoB f (s.drop (8 + (fstB s).1.length))).map fun x => ((fstB s).1 :: x.1, 8 + (fstB s).1.length + x.2)
    else some ([], 0)
theorem fstB_err (s : List UInt8) : (fstB s).2.2 = 0 ∨ fstB s = ([], false, 19) := by
  unfold fstB
  split
  · exact .inl rfl
  · split
    · exact .inr rfl
    · split
      · exact .inl rfl
      · split
        · exact .inr rfl
        · exact .inl rfl
theorem fstB_len (s : List UInt8) (h : (fstB s).2.1 = true) : 8 + (fstB s).1.length ≤ s.length ∧ (fstB s).1.length ≤ 1048576 := by
  unfold fstB at h ⊢
  by_cases h1 : s.length < 8
  · rw [if_pos h1] at h; cases h
  rw [if_neg h1] at h ⊢
  by_cases h2 : numB s > 1048576
  · rw [if_pos h2] at h; cases h
  rw [if_neg h2] at h ⊢
  by_cases h3 : s.length < 8 + numB s
  · rw [if_pos h3] at h; cases h
  rw [if_neg h3] at h ⊢
  by_cases h4 : sumB ((s.drop 8).take (numB s)) ≠ numB (s.drop 4)
  · rw [if_pos h4] at h; cases h
  rw [if_neg h4]
  simp only [List.length_take, List.length_drop]
  omega
theorem jcost_nat (n : Nat) (w : World) (h : n ≤ 2000000000) : Calls Tryd.prog 17 #[.int .i64 (n : Int)] w fun r w' => r = .returned (.int .i64 (8 + (n : Int))) ∧ w = w' :=
  (jcost_any n w (by omega)).mono (by rintro r w' ⟨rfl, rfl⟩; exact ⟨by rw [show max (n : Int) 0 = n by omega], rfl⟩)
def WhoPost (w : World) (s : List UInt8) (e : Ending) (w' : World) : Prop :=
  Below w.heap.size w w' ∧ match whoB (s.length + 1) s with
  | none => e = .returned (.tuple #[.slice none 0 0, .int .i64 0, .int .i64 19])
  | some (L, m) => ∃ p c, e = .returned (.tuple #[.slice p L.length c, .int .i64 (m : Int), .int .i64 0]) ∧ Rw encS 9 w' p c L ∧ ∀ a, p = some a → w.heap.size ≤ a.block
/-- What is gathered so far. -/
structure WhR (w wr : World) (s : List UInt8) (m n : Nat) (p : Option Addr) (c : Nat) : Prop where
  le : m ≤ s.length
  b : Below w.heap.size w wr
  nw : ∀ a, p = some a → w.heap.size ≤ a.block
  ex : ∃ f L, n = L.length ∧ 8 * n ≤ m ∧ s.length < f + m ∧ Rw encS 9 wr p c L ∧ whoB (s.length + 1) s = (whoB f (s.drop m)).map fun x => (L ++ x.1, m + x.2)
set_option maxHeartbeats 2000000 in
set_option maxRecDepth 100000 in
theorem jwhole_any (s : List UInt8) (w : World) (hs : s.length ≤ 2000000000) (hT : TabAt w) :
    Calls Tryd.prog 26 #[.string ⟨s.toArray⟩] w (WhoPost w s) := by
  have H0 : Hid (WhR w w s 0 0 none 0) := Lib.hid ⟨Nat.zero_le _, Below.refl _ _, fun a e => (by cases e), s.length + 1, [], rfl, Nat.le_refl _, by omega, Rw.empty _ _, by simp⟩
  have HT := Lib.hid hT
  clear hT
  go_enter Tryd.func26, Tryd.ntmps26
  go_wp2_with fail
  go_loopw [5, 6] (fun s5 s6 wr => ∃ (m n : Nat) (p : Option Addr) (c : Nat), s5 = .slice p n c ∧ s6 = .int .i64 (m : Int) ∧ Hid (WhR w wr s m n p c)) (fun _ s6 _ => s.length + 1 - (intOf s6).toNat)
  case atStart => exact ⟨0, 0, none, 0, rfl, rfl, H0⟩
  case round =>
    obtain ⟨m, n, p, c, rfl, rfl, HR⟩ := hrel
    clear H0
    have hle := HR.out.le
    have h1 : (m : Int) ≤ s.length := by omega
    have h0 : (0 : Int) ≤ m := by omega
    have hx : (⟨s.toArray⟩ : ByteArray).extract m s.length = ⟨(s.drop m).toArray⟩ := by
      apply ByteArray.ext; simp [List.take_of_length_le]
    obtain ⟨t, ht⟩ : ∃ t, t = s.drop m := ⟨_, rfl⟩
    rw [← ht] at hx
    have htl : t.length = s.length - m := by rw [ht, List.length_drop]
    have HTT := Lib.hid ht
    have HTL := Lib.hid htl
    clear ht htl
    go_wp2_with fail
    refine (jfirst_any t wr (by have := HTL.out; omega) (TabJ.old HT.out HR.out.b)).mono ?_
    rintro e w1 ⟨rfl, hb1⟩
    have HB1 := Lib.hid hb1
    obtain ⟨r, b, er, hz⟩ : ∃ r b er, fstB t = (r, b, er) := ⟨_, _, _, rfl⟩
    have herr := fstB_err t
    have hln := fstB_len t
    rw [hz] at herr hln ⊢
    have hW : ∃ f L, n = L.length ∧ 8 * n ≤ m ∧ s.length < f + 1 + m ∧ Rw encS 9 wr p c L ∧ whoB (s.length + 1) s = (if er ≠ 0 then none else if b then (whoB f (s.drop (m + (8 + r.length)))).map fun x => (L ++ r :: x.1, m + (8 + r.length) + x.2) else some (L, m)) := by
      obtain ⟨f, L, h1, h2, h3, h4, h5⟩ := HR.out.ex
      obtain ⟨f, rfl⟩ : ∃ g, f = g + 1 := ⟨f - 1, by have := HR.out.le; omega⟩
      refine ⟨f, L, h1, h2, h3, h4, h5.trans ?_⟩
      rw [← HTT.out, whoB, hz]
      by_cases he : er ≠ 0
      · rw [if_pos he, if_pos he]; rfl
      · rw [if_neg he, if_neg he]
        cases b with
        | true =>
          rw [if_pos rfl, if_pos rfl, HTT.out, List.drop_drop, Option.map_map]
          congr 1
          funext x
          simp only [Function.comp_def, Prod.mk.injEq, true_and]
          omega
        | false => simp
    have HW := Lib.hid hW
    clear hb1 hz hW
    by_cases he : er ≠ 0
    · obtain ⟨rfl, rfl, rfl⟩ : r = [] ∧ b = false ∧ er = 19 := by
        rcases herr with h | h
        · exact absurd h he
        · simpa using h
      clear herr hln he
      go_wp2_with fail
      go_ret3
      obtain ⟨f, L, _, _, _, _, h5⟩ := HW.out
      refine ⟨HR.out.b.trans (HB1.out.mono HR.out.b.size), ?_⟩
      rw [if_pos (by decide)] at h5
      rw [h5]
      exact rfl
    obtain rfl : er = 0 := Classical.not_not.1 he
    cases b with
    | false =>
      clear herr hln he
      go_wp2_with fail
      go_ret3
      obtain ⟨f, L, h1, _, _, h4, h5⟩ := HW.out
      refine ⟨HR.out.b.trans (HB1.out.mono HR.out.b.size), ?_⟩
      rw [if_neg (by decide), if_neg (by decide)] at h5
      rw [h5]
      exact ⟨p, c, by rw [h1]; rfl, h4.old HB1.out, HR.out.nw⟩
    | true =>
      obtain ⟨hl1, hl2⟩ := hln rfl
      simp only at hl1 hl2
      clear herr hln he
      have hnx : (m : Int) + (8 + (r.length : Int)) ≤ 2000000000 := by have := HTL.out; omega
      have hrc : (r.length : Int) ≤ 1048576 := by omega
      have HC : Hid (∀ w, Calls Tryd.prog 17 #[.int .i64 (r.length : Int)] w fun r' w' => r' = .returned (.int .i64 (8 + (r.length : Int))) ∧ w = w') := Lib.hid (fun w => jcost_nat _ w (by omega))
      have HL1 := Lib.hid hl1
      obtain ⟨f, L, g1, g2, g3, g4, g5⟩ := HW.out
      have HG := Lib.hid (And.intro g2 (And.intro g3 g5))
      have HNN := Lib.hid g1
      have hb3 : Below w1.heap.size w1 (w1.alloc (.cells #[.string ⟨r.toArray⟩] 9)) := (Below.refl _ w1).alloc (Nat.le_refl _) _
      have HS2 : Hid (Rw encS 9 (w1.alloc (.cells #[.string ⟨r.toArray⟩] 9)) p c L ∧ Below w.heap.size w (w1.alloc (.cells #[.string ⟨r.toArray⟩] 9)) ∧ Rd encS (w1.alloc (.cells #[.string ⟨r.toArray⟩] 9)) (some ⟨w1.heap.size, 0, none⟩) [r]) := Lib.hid
        ⟨(g4.old HB1.out).old hb3, (HR.out.b.trans (HB1.out.mono HR.out.b.size)).trans (hb3.mono (Nat.le_trans HR.out.b.size HB1.out.size)), Rd.made encS w1 9 [r] (by simp [maxLen])⟩
      have HNB : Hid (n + 1 ≤ 100000000000) := Lib.hid (by omega)
      clear hl1 hl2 g1 g2 g3 g4 g5 hb3 HW
      go_wp2_with (refine wpList_pushR encS rfl (.tmp 25) (.tmp 27) 27 9 (.string ⟨#[]⟩) 16 rfl Tryd.underlying27 info_str rfl (by decide) p c n L HNN.out.symm rfl HS2.out.1 (some ⟨w1.heap.size, 0, none⟩) 1 1 [r] rfl rfl HS2.out.2.2 HNB.out ?_; intro q2 c2 w4 hP4; have HP4 := Lib.hid hP4; clear hP4; go_frame)
      refine (HC.out _).mono ?_
      rintro e w5 ⟨rfl, hww⟩
      have HP : Hid (PushR encS 9 (w1.alloc (.cells #[.string ⟨r.toArray⟩] 9)) p (L ++ [r]) q2 c2 w5) := Lib.hid (hww ▸ HP4.out)
      clear hww
      go_wp2_with fail
      go_roundw
      case rel =>
        obtain ⟨hRw4, hm4, hor4⟩ := HP.out
        have h3 := HS2.out
        have hqn := HR.out.nw
        refine ⟨m + (8 + r.length), n + 1, q2, c2, rfl, by go_num, Lib.hid ⟨by have := HL1.out; have := HTL.out; omega, ?_, ?_, f, L ++ [r], by rw [List.length_append, ← HNN.out]; rfl, by have := HG.out.1; omega, by have := HG.out.2.1; omega, hRw4, ?_⟩⟩
        · exact h3.2.1.trans (hm4.to_below h3.2.1.size (by rintro k hk ⟨a, e, rfl⟩; have := hqn a e; omega))
        · intro a e
          rcases hor4 a e with h | h
          · exact hqn a h
          · exact Nat.le_trans h3.2.1.size h
        · rw [HG.out.2.2, if_neg (by decide), if_pos trivial]
          simp only [List.append_assoc, List.singleton_append]
      case measure =>
        have := HL1.out
        have := HTL.out
        simp [intOf]
        omega
end Go.Proofs.YtippakeemfldfaaDoor

namespace Go.Proofs.YtippakeemfldfaaDoor
open Go.RowKit

set_option maxHeartbeats 2000000 in
set_option maxRecDepth 100000 in
/-- Deeds in turn: I i holds before deed i; Q r at the end. -/
theorem jinTurn_any (g cap : Nat) (D : List (FuncId × Array Value)) (w : World) (I : Nat → World → Prop) (Q : Int → World → Prop) (hn : D.length ≤ 1000) (h0 : I 0 w)
    (hc : ∀ i (h : i < D.length) wi, I i wi → wi.cell? ⟨g, i, none⟩ = some (.func (.func D[i].1) #[] D[i].2))
    (he : ∀ i (h : i < D.length) w, (callFunc D[i].1 D[i].2).run Tryd.prog w = .ok (.enter D[i].1 D[i].2) w)
    (hd : ∀ i (h : i < D.length) wi, I i wi → Calls Tryd.prog D[i].1 D[i].2 wi fun e w' => ∃ r, e = .returned (.int .i64 r) ∧ (r = 0 → I (i + 1) w') ∧ (r ≠ 0 → Q r w'))
    (hq : ∀ w', I D.length w' → Q 0 w') :
    Calls Tryd.prog 30 #[.slice (some ⟨g, 0, none⟩) D.length cap] w fun e w' => ∃ r, e = .returned (.int .i64 r) ∧ Q r w' := by
  have HC := Lib.hid hc
  have HE := Lib.hid he
  have HD := Lib.hid hd
  have HQ := Lib.hid hq
  have H0 := Lib.hid h0
  clear hc he hd hq h0
  have hn' : (D.length : Int) ≤ 1000 := by omega
  go_enter Tryd.func30, Tryd.ntmps30
  go_wp2_with fail
  go_loopw [8] (fun s8 wr => ∃ i : Nat, i ≤ D.length ∧ s8 = .int .i64 (i : Int) ∧ Hid (I i wr)) (fun s8 _ => D.length - (intOf s8).toNat)
  case atStart => exact ⟨0, by omega, rfl, H0⟩
  case round =>
    clear H0
    obtain ⟨i, hi, rfl, HI⟩ := hrel
    by_cases hlt : i < D.length
    · have cc := HC.out i hlt wr HI.out
      have hee := HE.out i hlt
      have hdd := HD.out i hlt wr HI.out
      generalize D[i] = x at cc hee hdd
      obtain ⟨fn, caps⟩ := x
      simp only at cc hee hdd
      have HDD := Lib.hid hdd
      clear hdd HI
      go_wp2_with fail
      refine HDD.out.mono ?_
      rintro e w1 ⟨r, rfl, hr0, hr1⟩
      by_cases hr : r = 0
      · subst hr
        have HI := Lib.hid (hr0 rfl)
        clear hr0 hr1
        go_wp2_with fail
        go_roundw
        case rel => exact ⟨i + 1, by omega, by go_num, HI⟩
        case measure => simp [intOf]; omega
      · have HR := Lib.hid (hr1 hr)
        clear hr0 hr1
        have hb : (r != 0) = true := by simp [hr]
        go_wp2_with fail
        go_ret
        exact ⟨r, rfl, HR.out⟩
    · obtain rfl : i = D.length := by omega
      have HR := Lib.hid (HQ.out _ HI.out)
      clear HI
      go_wp2_with fail
      go_ret
      exact ⟨0, rfl, HR.out⟩
end Go.Proofs.YtippakeemfldfaaDoor

namespace Go.Proofs.YtippakeemfldfaaDoor
open Go.RowKit

/-- The file that is the journal, and the one that is to take its place. -/
abbrev logN : List UInt8 := [108, 111, 103]
abbrev newN : List UInt8 := [110, 101, 119]
set_option maxRecDepth 20000 in
set_option maxHeartbeats 1000000 in
theorem jappend1_any {w : World} {d : Nat} {S : St} {F : Nat → Prop} (h : DA w d S F) (ok : Ok S) (g0 g1 j : Nat) (b0 : Bx w g0 (.pointer (some ⟨j, 0, none⟩))) (bj : Bx w j (.pointer (some ⟨d, 0, none⟩))) (s : List UInt8) (b1 : Bx w g1 (.string ⟨s.toArray⟩)) (hs : s.length ≤ 1048576) (hT : TabAt w) :
    Calls Tryd.prog 37 #[.pointer (some ⟨g0, 0, none⟩), .pointer (some ⟨g1, 0, none⟩)] w fun e w' => e = .returned (.int .i64 (dedR S (wrA S (frmB s)))) ∧ Eff w w' d (dedS S (wrA S (frmB s)) (apX S logN (frmB s))) F := by
  have C0 : Hid (∀ w1, Below w.heap.size w w1 → w1.cell? ⟨g0, 0, none⟩ = some (.pointer (some ⟨j, 0, none⟩))) := Lib.hid (fun w1 hb => (b0.old hb).cell)
  have CJ : Hid (∀ w1, Below w.heap.size w w1 → w1.cell? ⟨j, 0, none⟩ = some (.pointer (some ⟨d, 0, none⟩))) := Lib.hid (fun w1 hb => (bj.old hb).cell)
  have C1 : Hid (∀ w1, Below w.heap.size w w1 → w1.cell? ⟨g1, 0, none⟩ = some (.string ⟨s.toArray⟩)) := Lib.hid (fun w1 hb => (b1.old hb).cell)
  have HFR : Hid (∀ w1 v, Below w.heap.size w w1 → StrsAt w1 v [s] → Calls Tryd.prog 32 #[v] w1 fun e w' => e = .returned (.string ⟨(frmB s).toArray⟩) ∧ Below w1.heap.size w1 w') := Lib.hid (fun w1 v hb hv =>
    (jframes_any v [s] w1 hv (by simp) (by intro x hx; rw [List.mem_singleton.1 hx]; exact hs) (TabJ.old hT hb)).mono (by rintro r w' ⟨rfl, h2⟩; exact ⟨by simp [frmsB], h2⟩))
  have HAP : Hid (∀ w1, Below w.heap.size w w1 → Calls Tryd.prog 21 #[.pointer (some ⟨d, 0, none⟩), .string ⟨#[108, 111, 103]⟩, .string ⟨(frmB s).toArray⟩] w1 fun e w' => e = .returned (.int .i64 (dedR S (wrA S (frmB s)))) ∧ Eff w w' d (dedS S (wrA S (frmB s)) (apX S logN (frmB s))) F) := Lib.hid (fun w1 hb =>
    (dkappend_any (h.old hb) ok logN (frmB s) (by decide) (by rw [frmB_len]; omega)).mono (by rintro r w' ⟨rfl, hE⟩; exact ⟨rfl, Eff.trans ((Mod.of_below hb).mono (fun i hi h => by omega)) hE⟩))
  generalize frmB s = FB at HFR HAP ⊢
  generalize dedR S (wrA S FB) = R at HAP ⊢
  generalize dedS S (wrA S FB) (apX S logN FB) = S' at HAP ⊢
  have HG0 : Hid ((fun (j : Nat) (v : Value) (w' : World) => (j ≤ 2 → Below w.heap.size w w') ∧ (j = 1 → StrsAt w' v [s]) ∧ (j = 3 → Eff w w' d S' F)) 0 undef w.drew) := Lib.hid ⟨fun _ => (Below.refl _ w).drew, (fun h => absurd h (by omega)), (fun h => absurd h (by omega))⟩
  clear h ok b0 bj b1 hT
  go_enter Tryd.func37, Tryd.ntmps37
  go_upto_region 1 with fail
  refine wp_region_chain (fun t v => match t with
    | 3 => v = .pointer (some ⟨j, 0, none⟩)
    | 4 => v = .pointer (some ⟨j, 0, none⟩)
    | 5 => v = .pointer (some ⟨j, 0, none⟩)
    | 6 => v = .pointer (some ⟨d, 0, none⟩)
    | 7 => v = .string ⟨s.toArray⟩
    | 9 => v = .string ⟨FB.toArray⟩
    | 10 => v = .int .i64 R
    | 2 => v = .int .i64 R
    | _ => True) (fun (j : Nat) (v : Value) (w' : World) => (j ≤ 2 → Below w.heap.size w w') ∧ (j = 1 → StrsAt w' v [s]) ∧ (j = 3 → Eff w w' d S' F)) [5, 6, 7] 11 (by kernel_rfl) (by decide +kernel) rfl (by decide +kernel) (by decide) (by decide) HG0.out (by
    refine OweAllC.cons (owesC_val 2 (by decide +kernel) (by decide) rfl rfl fun k' a w1 x hk ha hG hV => ?_) ?_
    · skip
      have h0 := ha.outer 0 (by decide +kernel)
      simp only [Act.eval] at h0
      have hb := hG.1 (by omega)
      have cc := C0.out w1 hb
      exact ⟨.pointer (some ⟨j, 0, none⟩), wanted_free rfl, by simp [execOp, go_sem, h0, cc], rfl⟩
    refine OweAllC.cons (owesC_val 2 (by decide +kernel) (by decide) rfl rfl fun k' a w1 x hk ha hG hV => ?_) ?_
    · skip
      have h3 : a.tmps.getD 3 undef = .pointer (some ⟨j, 0, none⟩) := hV.get 3 (by decide +kernel)
      exact ⟨.pointer (some ⟨j, 0, none⟩), wanted_free rfl, by simp [execOp, go_sem, h3], rfl⟩
    refine OweAllC.cons (owesC_val 2 (by decide +kernel) (by decide) rfl rfl fun k' a w1 x hk ha hG hV => ?_) ?_
    · skip
      have h4 : a.tmps.getD 4 undef = .pointer (some ⟨j, 0, none⟩) := hV.get 4 (by decide +kernel)
      exact ⟨.pointer (some ⟨j, 0, none⟩), wanted_free rfl, by simp [execOp, go_sem, h4], rfl⟩
    refine OweAllC.cons (owesC_val 2 (by decide +kernel) (by decide) rfl rfl fun k' a w1 x hk ha hG hV => ?_) ?_
    · skip
      have h5 : a.tmps.getD 5 undef = .pointer (some ⟨j, 0, none⟩) := hV.get 5 (by decide +kernel)
      have hb := hG.1 (by omega)
      have cc := CJ.out w1 hb
      exact ⟨.pointer (some ⟨d, 0, none⟩), wanted_free rfl, by simp [execOp, go_sem, h5, cc], rfl⟩
    refine OweAllC.cons (owesC_val 0 (by decide +kernel) (by decide) rfl rfl fun k' a w1 x hk ha hG hV => ?_) ?_
    · skip
      have h1 := ha.outer 1 (by decide +kernel)
      simp only [Act.eval] at h1
      have hb := hG.1 (by omega)
      have cc := C1.out w1 hb
      exact ⟨.string ⟨s.toArray⟩, wanted_free rfl, by simp [execOp, go_sem, h1, cc], rfl⟩
    refine OweAllC.cons (owesC_mem 0 rfl rfl rfl fun a w1 x ha hG hx hV => ?_) ?_
    · skip
      have h7 : a.tmps.getD 7 undef = .string ⟨s.toArray⟩ := hV.get 7 (by decide +kernel)
      have g7 : a.tmps[7]?.getD undef = .string ⟨s.toArray⟩ := by simpa using h7
      have hb := hG.1 (by omega)
      refine ⟨.slice (some ⟨w1.heap.size, 0, none⟩) 1 1, w1.alloc (.cells #[.string ⟨s.toArray⟩] 9), wanted_free rfl, by simp [execOp, go_sem, h7, g7], trivial, fun _ => hb.alloc hb.size _, fun _ => StrsJ.made w1 9 [s], (fun h => absurd h (by omega))⟩
    refine OweAllC.cons (owesC_call 1 rfl rfl rfl 32 fun a w1 x ha hG hx hV => ?_) ?_
    · skip
      have h8 : a.tmps.getD 8 undef = x := hx 0 5 _ 8 rfl rfl rfl rfl
      refine ⟨#[x], wanted_free rfl, by simp [execOp, resolve, invoke, go_sem, h8], ?_⟩
      refine (HFR.out w1 x (hG.1 (by omega)) (hG.2.1 rfl)).mono ?_
      rintro r u2 ⟨rfl, hb2⟩; exact ⟨_, rfl, rfl, (fun _ => (hG.1 (by omega)).trans (hb2.mono (hG.1 (by omega)).size)), (fun h => absurd h (by omega)), (fun h => absurd h (by omega))⟩
    refine OweAllC.cons (owesC_call 2 rfl rfl rfl 21 fun a w1 x ha hG hx hV => ?_) ?_
    · skip
      have h6 : a.tmps.getD 6 undef = .pointer (some ⟨d, 0, none⟩) := hV.get 6 (by decide +kernel)
      have h9 : a.tmps.getD 9 undef = .string ⟨FB.toArray⟩ := hV.get 9 (by decide +kernel)
      refine ⟨#[.pointer (some ⟨d, 0, none⟩), .string ⟨#[108, 111, 103]⟩, .string ⟨FB.toArray⟩], wanted_free rfl, by simp [execOp, resolve, invoke, go_sem, h6, h9], ?_⟩
      refine (HAP.out w1 (hG.1 (by omega))).mono ?_
      rintro r u2 ⟨rfl, hE⟩; exact ⟨_, rfl, rfl, (fun h => absurd h (by omega)), (fun h => absurd h (by omega)), fun _ => hE⟩
    refine OweAllC.cons (owesC_val 3 (by decide +kernel) (by decide) rfl rfl fun k' a w1 x hk ha hG hV => ?_) ?_
    · skip
      have h10 : a.tmps.getD 10 undef = .int .i64 R := hV.get 10 (by decide +kernel)
      exact ⟨.int .i64 R, wanted_free rfl, by simp [execOp, go_sem, h10], rfl⟩
    exact OweAllC.nil
    ) ?_
  intro f wz xz hG hx hv
  have e2 : f 2 = .int .i64 R := hv 8 _ 2 rfl rfl
  first | (rename_i hK; refine hK _ _ ?_; clear hK) | (rename_i hK _; refine hK _ _ ?_; clear hK) | (rename_i hK _ _; refine hK _ _ ?_; clear hK) | (rename_i hK _ _ _; refine hK _ _ ?_; clear hK)
  clear hv hx
  simp only [dsts, puts, List.filterMap_cons, List.filterMap_nil, List.foldl_cons, List.foldl_nil, Act.put, List.setIfInBounds_toArray, List.set_cons_succ, List.set_cons_zero, e2]
  clear e2
  have HE := Lib.hid (hG.2.2 rfl)
  clear hG
  go_wp2_with fail
  go_ret
  exact ⟨rfl, HE.out⟩
set_option maxRecDepth 20000 in
set_option maxHeartbeats 1000000 in
theorem jrewrite1_any {w : World} {d : Nat} {S : St} {F : Nat → Prop} (h : DA w d S F) (ok : Ok S) (g0 g1 j : Nat) (b0 : Bx w g0 (.pointer (some ⟨j, 0, none⟩))) (bj : Bx w j (.pointer (some ⟨d, 0, none⟩))) (l : List (List UInt8)) (p : Option Addr) (n c : Nat) (b1 : Bx w g1 (.slice p n c)) (hv : StrsAt w (.slice p n c) l) (hn : l.length ≤ 900) (hl : ∀ s ∈ l, s.length ≤ 1048576) (hT : TabAt w) :
    Calls Tryd.prog 31 #[.pointer (some ⟨g0, 0, none⟩), .pointer (some ⟨g1, 0, none⟩)] w fun e w' => e = .returned (.int .i64 (dedR S (wrA S (frmsB l)))) ∧ Eff w w' d (dedS S (wrA S (frmsB l)) (apX S newN (frmsB l))) F := by
  have C0 : Hid (∀ w1, Below w.heap.size w w1 → w1.cell? ⟨g0, 0, none⟩ = some (.pointer (some ⟨j, 0, none⟩))) := Lib.hid (fun w1 hb => (b0.old hb).cell)
  have CJ : Hid (∀ w1, Below w.heap.size w w1 → w1.cell? ⟨j, 0, none⟩ = some (.pointer (some ⟨d, 0, none⟩))) := Lib.hid (fun w1 hb => (bj.old hb).cell)
  have C1 : Hid (∀ w1, Below w.heap.size w w1 → w1.cell? ⟨g1, 0, none⟩ = some (.slice p n c)) := Lib.hid (fun w1 hb => (b1.old hb).cell)
  have HFR : Hid (∀ w1, Below w.heap.size w w1 → Calls Tryd.prog 32 #[.slice p n c] w1 fun e w' => e = .returned (.string ⟨(frmsB l).toArray⟩) ∧ Below w1.heap.size w1 w') := Lib.hid (fun w1 hb =>
    jframes_any _ l w1 (StrsJ.old hv hb) (by omega) hl (TabJ.old hT hb))
  have HAP : Hid (∀ w1, Below w.heap.size w w1 → Calls Tryd.prog 21 #[.pointer (some ⟨d, 0, none⟩), .string ⟨#[110, 101, 119]⟩, .string ⟨(frmsB l).toArray⟩] w1 fun e w' => e = .returned (.int .i64 (dedR S (wrA S (frmsB l)))) ∧ Eff w w' d (dedS S (wrA S (frmsB l)) (apX S newN (frmsB l))) F) := Lib.hid (fun w1 hb =>
    (dkappend_any (h.old hb) ok newN (frmsB l) (by decide) (by have := frmsB_len hl; omega)).mono (by rintro r w' ⟨rfl, hE⟩; exact ⟨rfl, Eff.trans ((Mod.of_below hb).mono (fun i hi h => by omega)) hE⟩))
  generalize frmsB l = FB at HFR HAP ⊢
  generalize dedR S (wrA S FB) = R at HAP ⊢
  generalize dedS S (wrA S FB) (apX S newN FB) = S' at HAP ⊢
  have HG0 : Hid ((fun (j : Nat) (_ : Value) (w' : World) => (j ≤ 1 → Below w.heap.size w w') ∧ (j = 2 → Eff w w' d S' F)) 0 undef w.drew) := Lib.hid ⟨fun _ => (Below.refl _ w).drew, (fun h => absurd h (by omega))⟩
  clear h ok b0 bj b1 hT
  go_enter Tryd.func31, Tryd.ntmps31
  go_upto_region 1 with fail
  refine wp_region_chain (fun t v => match t with
    | 3 => v = .pointer (some ⟨j, 0, none⟩)
    | 4 => v = .pointer (some ⟨j, 0, none⟩)
    | 5 => v = .pointer (some ⟨j, 0, none⟩)
    | 6 => v = .pointer (some ⟨d, 0, none⟩)
    | 7 => v = .slice p n c
    | 8 => v = .string ⟨FB.toArray⟩
    | 9 => v = .int .i64 R
    | 2 => v = .int .i64 R
    | _ => True) (fun (j : Nat) (_ : Value) (w' : World) => (j ≤ 1 → Below w.heap.size w w') ∧ (j = 2 → Eff w w' d S' F)) [5, 6] 10 (by kernel_rfl) (by decide +kernel) rfl (by decide +kernel) (by decide) (by decide) HG0.out (by
    refine OweAllC.cons (owesC_val 1 (by decide +kernel) (by decide) rfl rfl fun k' a w1 x hk ha hG hV => ?_) ?_
    · skip
      have h0 := ha.outer 0 (by decide +kernel)
      simp only [Act.eval] at h0
      have hb := hG.1 (by omega)
      have cc := C0.out w1 hb
      exact ⟨.pointer (some ⟨j, 0, none⟩), wanted_free rfl, by simp [execOp, go_sem, h0, cc], rfl⟩
    refine OweAllC.cons (owesC_val 1 (by decide +kernel) (by decide) rfl rfl fun k' a w1 x hk ha hG hV => ?_) ?_
    · skip
      have h3 : a.tmps.getD 3 undef = .pointer (some ⟨j, 0, none⟩) := hV.get 3 (by decide +kernel)
      exact ⟨.pointer (some ⟨j, 0, none⟩), wanted_free rfl, by simp [execOp, go_sem, h3], rfl⟩
    refine OweAllC.cons (owesC_val 1 (by decide +kernel) (by decide) rfl rfl fun k' a w1 x hk ha hG hV => ?_) ?_
    · skip
      have h4 : a.tmps.getD 4 undef = .pointer (some ⟨j, 0, none⟩) := hV.get 4 (by decide +kernel)
      exact ⟨.pointer (some ⟨j, 0, none⟩), wanted_free rfl, by simp [execOp, go_sem, h4], rfl⟩
    refine OweAllC.cons (owesC_val 1 (by decide +kernel) (by decide) rfl rfl fun k' a w1 x hk ha hG hV => ?_) ?_
    · skip
      have h5 : a.tmps.getD 5 undef = .pointer (some ⟨j, 0, none⟩) := hV.get 5 (by decide +kernel)
      have hb := hG.1 (by omega)
      have cc := CJ.out w1 hb
      exact ⟨.pointer (some ⟨d, 0, none⟩), wanted_free rfl, by simp [execOp, go_sem, h5, cc], rfl⟩
    refine OweAllC.cons (owesC_val 0 (by decide +kernel) (by decide) rfl rfl fun k' a w1 x hk ha hG hV => ?_) ?_
    · skip
      have h1 := ha.outer 1 (by decide +kernel)
      simp only [Act.eval] at h1
      have hb := hG.1 (by omega)
      have cc := C1.out w1 hb
      exact ⟨.slice p n c, wanted_free rfl, by simp [execOp, go_sem, h1, cc], rfl⟩
    refine OweAllC.cons (owesC_call 0 rfl rfl rfl 32 fun a w1 x ha hG hx hV => ?_) ?_
    · skip
      have h7 : a.tmps.getD 7 undef = .slice p n c := hV.get 7 (by decide +kernel)
      refine ⟨#[.slice p n c], wanted_free rfl, by simp [execOp, resolve, invoke, go_sem, h7], ?_⟩
      refine (HFR.out w1 (hG.1 (by omega))).mono ?_
      rintro r u2 ⟨rfl, hb2⟩; exact ⟨_, rfl, rfl, (fun _ => (hG.1 (by omega)).trans (hb2.mono (hG.1 (by omega)).size)), (fun h => absurd h (by omega))⟩
    refine OweAllC.cons (owesC_call 1 rfl rfl rfl 21 fun a w1 x ha hG hx hV => ?_) ?_
    · skip
      have h6 : a.tmps.getD 6 undef = .pointer (some ⟨d, 0, none⟩) := hV.get 6 (by decide +kernel)
      have h8 : a.tmps.getD 8 undef = .string ⟨FB.toArray⟩ := hV.get 8 (by decide +kernel)
      refine ⟨#[.pointer (some ⟨d, 0, none⟩), .string ⟨#[110, 101, 119]⟩, .string ⟨FB.toArray⟩], wanted_free rfl, by simp [execOp, resolve, invoke, go_sem, h6, h8], ?_⟩
      refine (HAP.out w1 (hG.1 (by omega))).mono ?_
      rintro r u2 ⟨rfl, hE⟩; exact ⟨_, rfl, rfl, (fun h => absurd h (by omega)), fun _ => hE⟩
    refine OweAllC.cons (owesC_val 2 (by decide +kernel) (by decide) rfl rfl fun k' a w1 x hk ha hG hV => ?_) ?_
    · skip
      have h9 : a.tmps.getD 9 undef = .int .i64 R := hV.get 9 (by decide +kernel)
      exact ⟨.int .i64 R, wanted_free rfl, by simp [execOp, go_sem, h9], rfl⟩
    exact OweAllC.nil
    ) ?_
  intro f wz xz hG hx hv
  have e2 : f 2 = .int .i64 R := hv 7 _ 2 rfl rfl
  first | (rename_i hK; refine hK _ _ ?_; clear hK) | (rename_i hK _; refine hK _ _ ?_; clear hK) | (rename_i hK _ _; refine hK _ _ ?_; clear hK) | (rename_i hK _ _ _; refine hK _ _ ?_; clear hK)
  clear hv hx
  simp only [dsts, puts, List.filterMap_cons, List.filterMap_nil, List.foldl_cons, List.foldl_nil, Act.put, List.setIfInBounds_toArray, List.set_cons_succ, List.set_cons_zero, e2]
  clear e2
  have HE := Lib.hid (hG.2 rfl)
  clear hG
  go_wp2_with fail
  go_ret
  exact ⟨rfl, HE.out⟩
end Go.Proofs.YtippakeemfldfaaDoor

namespace Go.Proofs.YtippakeemfldfaaDoor
open Go.RowKit

def td1 (S : St) : Int × St := (if dedR S (wrN S newN) = 7 then 0 else dedR S (wrN S newN), dedS S (wrN S newN) (wo newN S.X))
def td2 (S : St) (size all : Int) : Int × St := if size = all then (0, S) else (dedR S (wrC S logN size), dedS S (wrC S logN size) (cuX S logN size.toNat))
def td3 (S : St) : Int × St := if (fiX logN S.X).2.1.length - (fiX logN S.X).2.2 = 0 then (0, S) else (dedR S (wrN S logN), dedS S (wrN S logN) (syX S logN))
/-- What an opening puts right. -/
def tidyX (S : St) (size all : Int) : Int × St :=
  if (td1 S).1 ≠ 0 then td1 S else if (td2 (td1 S).2 size all).1 ≠ 0 then td2 (td1 S).2 size all else td3 (td2 (td1 S).2 size all).2
section
variable {w : World} {d : Nat} {S : St} {F : Nat → Prop}
set_option maxRecDepth 20000
set_option maxHeartbeats 1000000
theorem jsyncA_any (h : DA w d S F) (ok : Ok S) (g0 j : Nat) (b0 : Bx w g0 (.pointer (some ⟨j, 0, none⟩))) (bj : Bx w j (.pointer (some ⟨d, 0, none⟩))) :
    Calls Tryd.prog 38 #[.pointer (some ⟨g0, 0, none⟩)] w fun e w' => e = .returned (.int .i64 (dedR S (wrN S logN))) ∧ Eff w w' d (dedS S (wrN S logN) (syX S logN)) F := by
  have c0 := b0.cell
  have cj := bj.cell
  have H := Lib.hid (dksync_any h ok logN (by decide))
  clear h ok b0 bj
  go_enter Tryd.func38, Tryd.ntmps38
  go_wp2_with fail
  refine H.out.mono ?_
  rintro e w1 ⟨rfl, hE⟩
  have HE := Lib.hid hE
  clear hE
  go_wp2_with fail
  go_ret
  exact ⟨rfl, HE.out⟩
theorem jsyncR_any (h : DA w d S F) (ok : Ok S) (g0 j : Nat) (b0 : Bx w g0 (.pointer (some ⟨j, 0, none⟩))) (bj : Bx w j (.pointer (some ⟨d, 0, none⟩))) :
    Calls Tryd.prog 33 #[.pointer (some ⟨g0, 0, none⟩)] w fun e w' => e = .returned (.int .i64 (dedR S (wrN S newN))) ∧ Eff w w' d (dedS S (wrN S newN) (syX S newN)) F := by
  have c0 := b0.cell
  have cj := bj.cell
  have H := Lib.hid (dksync_any h ok newN (by decide))
  clear h ok b0 bj
  go_enter Tryd.func33, Tryd.ntmps33
  go_wp2_with fail
  refine H.out.mono ?_
  rintro e w1 ⟨rfl, hE⟩
  have HE := Lib.hid hE
  clear hE
  go_wp2_with fail
  go_ret
  exact ⟨rfl, HE.out⟩
theorem jrenR_any (h : DA w d S F) (ok : Ok S) (g0 j : Nat) (b0 : Bx w g0 (.pointer (some ⟨j, 0, none⟩))) (bj : Bx w j (.pointer (some ⟨d, 0, none⟩))) :
    Calls Tryd.prog 35 #[.pointer (some ⟨g0, 0, none⟩)] w fun e w' => e = .returned (.int .i64 (dedR S (wrN S newN))) ∧ Eff w w' d (dedS S (wrN S newN) (rnX S newN logN)) F := by
  have c0 := b0.cell
  have cj := bj.cell
  have H := Lib.hid (dkrename_any h ok newN logN (by decide) (by decide))
  clear h ok b0 bj
  go_enter Tryd.func35, Tryd.ntmps35
  go_wp2_with fail
  refine H.out.mono ?_
  rintro e w1 ⟨rfl, hE⟩
  have HE := Lib.hid hE
  clear hE
  go_wp2_with fail
  go_ret
  exact ⟨rfl, HE.out⟩
theorem jtidy1_any (h : DA w d S F) (ok : Ok S) (g0 : Nat) (b0 : Bx w g0 (.pointer (some ⟨d, 0, none⟩))) :
    Calls Tryd.prog 51 #[.pointer (some ⟨g0, 0, none⟩)] w fun e w' => e = .returned (.int .i64 (td1 S).1) ∧ Eff w w' d (td1 S).2 F := by
  have c0 := b0.cell
  have H := Lib.hid (dkremove_any h ok newN (by decide))
  unfold td1
  generalize dedR S (wrN S newN) = R at H ⊢
  generalize dedS S (wrN S newN) (wo newN S.X) = S' at H ⊢
  clear h ok b0
  go_enter Tryd.func51, Tryd.ntmps51
  go_wp2_with fail
  refine H.out.mono ?_
  rintro e w1 ⟨rfl, hE⟩
  have HE := Lib.hid hE
  clear hE
  by_cases hR : R = 7
  · subst hR
    go_wp2_with fail
    go_ret
    exact ⟨rfl, HE.out⟩
  · have hb : (R != 7) = true := by simp [hR]
    go_wp2_with fail
    go_ret
    exact ⟨rfl, HE.out⟩
theorem jtidy2_any (h : DA w d S F) (ok : Ok S) (g0 g1 g2 : Nat) (size all : Int) (b0 : Bx w g0 (.int .i64 size)) (b1 : Bx w g1 (.int .i64 all)) (b2 : Bx w g2 (.pointer (some ⟨d, 0, none⟩))) :
    Calls Tryd.prog 53 #[.pointer (some ⟨g0, 0, none⟩), .pointer (some ⟨g1, 0, none⟩), .pointer (some ⟨g2, 0, none⟩)] w fun e w' => e = .returned (.int .i64 (td2 S size all).1) ∧ Eff w w' d (td2 S size all).2 F := by
  have c0 := b0.cell
  have c1 := b1.cell
  have c2 := b2.cell
  unfold td2
  by_cases hs : size = all
  · rw [if_pos hs]
    have hb : (size == all) = true := by simp [hs]
    have HE := Lib.hid (Eff.of h (Mod.refl F w))
    clear h ok b0 b1 b2 hs
    go_enter Tryd.func53, Tryd.ntmps53
    go_wp2_with fail
    go_ret
    exact ⟨rfl, HE.out⟩
  · rw [if_neg hs]
    have hb : (size == all) = false := by simp [hs]
    have H := Lib.hid (dkcut_any h ok logN size (by decide))
    generalize dedR S (wrC S logN size) = R at H ⊢
    generalize dedS S (wrC S logN size) (cuX S logN size.toNat) = S' at H ⊢
    clear h ok b0 b1 b2 hs
    go_enter Tryd.func53, Tryd.ntmps53
    go_wp2_with fail
    refine H.out.mono ?_
    rintro e w1 ⟨rfl, hE⟩
    have HE := Lib.hid hE
    clear hE
    go_wp2_with fail
    go_ret
    exact ⟨rfl, HE.out⟩
theorem jtidy3_any (h : DA w d S F) (ok : Ok S) (g0 : Nat) (b0 : Bx w g0 (.pointer (some ⟨d, 0, none⟩))) :
    Calls Tryd.prog 55 #[.pointer (some ⟨g0, 0, none⟩)] w fun e w' => e = .returned (.int .i64 (td3 S).1) ∧ Eff w w' d (td3 S).2 F := by
  have c0 := b0.cell
  have HL := Lib.hid (dkloose_any h logN (by decide) ok.f)
  have HD := Lib.hid h
  have HO := Lib.hid ok
  have HB := Lib.hid b0
  unfold td3
  obtain ⟨z, hz⟩ : ∃ z, z = (fiX logN S.X).2.1.length - (fiX logN S.X).2.2 := ⟨_, rfl⟩
  rw [← hz] at HL ⊢
  obtain ⟨p, hp⟩ : ∃ p, p = (if z = 0 then ((0 : Int), S) else (dedR S (wrN S logN), dedS S (wrN S logN) (syX S logN))) := ⟨_, rfl⟩
  rw [← hp]
  have HP := Lib.hid hp
  clear h ok b0 hz hp
  go_enter Tryd.func55, Tryd.ntmps55
  go_wp2_with fail
  refine HL.out.mono ?_
  rintro e w1 ⟨rfl, hb1⟩
  have HB1 := Lib.hid hb1
  have c1 := (HB.out.old hb1).cell
  clear hb1 c0
  by_cases h0 : z = 0
  · subst h0
    have HE := Lib.hid (Eff.below HD.out HB1.out)
    have hp := HP.out
    rw [if_pos rfl] at hp
    subst hp
    go_wp2_with fail
    go_ret
    exact ⟨rfl, HE.out⟩
  · have hb : ((z : Int) == 0) = false := by simp; omega
    have hp := HP.out
    rw [if_neg h0] at hp
    subst hp
    have H := Lib.hid (dksync_any (HD.out.old HB1.out) HO.out logN (by decide))
    clear h0 HP
    go_wp2_with fail
    refine H.out.mono ?_
    rintro e w2 ⟨rfl, hE⟩
    have HE := Lib.hid (show Eff w w2 d (dedS S (wrN S logN) (syX S logN)) F from Eff.trans ((Mod.of_below HB1.out).mono (fun i hi h => by omega)) hE)
    clear hE
    go_wp2_with fail
    go_ret
    exact ⟨rfl, HE.out⟩
end
end Go.Proofs.YtippakeemfldfaaDoor

namespace Go.Proofs.YtippakeemfldfaaDoor
open Go.RowKit

section
variable {S : St} {n : Nat}
theorem Gd.td1 (h : Gd S n) : Gd (td1 S).2 (n + 1) := h.rem newN
theorem Gd.td2 (h : Gd S n) (size all : Int) : Gd (td2 S size all).2 (n + 1) := by
  unfold YtippakeemfldfaaDoor.td2
  by_cases hs : size = all
  · rw [if_pos hs]; exact h.more (by omega)
  · rw [if_neg hs]; exact h.cut logN size (by decide)
theorem Gd.td3 (h : Gd S n) : Gd (td3 S).2 (n + 1) := by
  unfold YtippakeemfldfaaDoor.td3
  by_cases hs : (fiX logN S.X).2.1.length - (fiX logN S.X).2.2 = 0
  · rw [if_pos hs]; exact h.more (by omega)
  · rw [if_neg hs]; exact h.syn logN (by decide)
theorem Gd.tidy (h : Gd S n) (size all : Int) : Gd (tidyX S size all).2 (n + 3) := by
  unfold tidyX
  split
  · exact h.td1.more (by omega)
  · split
    · exact (h.td1.td2 size all).more (by omega)
    · exact (h.td1.td2 size all).td3
end
/-- Blocks that were made beside a disk stay while it turns. -/
theorem Eff.bx {w w' : World} {d g : Nat} {S : St} {F : Nat → Prop} {v : Value} (h : Eff w w' d S F) (hb : Bx w g v) (hg : ¬ F g) : Bx w' g v := by
  obtain ⟨_, _, _, hm⟩ := h
  exact hb.kept hm hg
theorem Eff.row {w w' : World} {d g : Nat} {S : St} {F : Nat → Prop} {o : Obj} (h : Eff w w' d S F) (hb : w.heap[g]? = some o) (hg : ¬ F g) : w'.heap[g]? = some o := by
  obtain ⟨_, _, _, hm⟩ := h
  exact (hm.block g (Array.getElem?_eq_some_iff.1 hb).1 hg).trans hb
theorem Eff.next {w w1 w2 : World} {d : Nat} {S : St} {F F' : Nat → Prop} (hF : ∀ i, F' i → F i ∨ w.heap.size ≤ i) (hm : Mod F w w1) (h : Eff w1 w2 d S F') : Eff w w2 d S F := by
  obtain ⟨F2, hA2, hF2, hm2⟩ := h
  refine ⟨F2, hA2, fun i hi => ?_, hm.trans hm2 (fun i hi h => (hF i h).elim id (fun h' => by omega))⟩
  rcases hF2 i hi with h' | h'
  · exact hF i h'
  · exact .inr (Nat.le_trans hm.size h')
set_option maxRecDepth 20000 in
set_option maxHeartbeats 2000000 in
theorem jtidy_any {w : World} {d : Nat} {S : St} {F : Nat → Prop} {n : Nat} (h : DA w d S F) (gd : Gd S n) (hn : n ≤ 90000) (size all : Int) :
    Calls Tryd.prog 27 #[.pointer (some ⟨d, 0, none⟩), .int .i64 size, .int .i64 all] w fun e w' => e = .returned (.int .i64 (tidyX S size all).1) ∧ Eff w w' d (tidyX S size all).2 F := by
  obtain ⟨W0, hW0, b0, b1, b2, hb0⟩ := boxes3 w (.pointer (some ⟨d, 0, none⟩)) (.int .i64 size) (.int .i64 all) 24 3 3
  obtain ⟨A, hA⟩ : ∃ A : Array Value, A = #[.func (.func 51) #[] #[.pointer (some ⟨w.heap.size, 0, none⟩)], .func (.func 53) #[] #[.pointer (some ⟨w.heap.size + 1, 0, none⟩), .pointer (some ⟨w.heap.size + 2, 0, none⟩), .pointer (some ⟨w.heap.size, 0, none⟩)], .func (.func 55) #[] #[.pointer (some ⟨w.heap.size, 0, none⟩)]] := ⟨_, rfl⟩
  obtain ⟨W1, hW1⟩ : ∃ W, W = W0.alloc (.cells A 68) := ⟨_, rfl⟩
  have hb1 : Below W0.heap.size W0 W1 := by rw [hW1]; exact (Below.refl _ _).alloc (Nat.le_refl _) _
  have hrow : W1.heap[W0.heap.size]? = some (.cells A 68 (0, 0)) := by rw [hW1]; exact heap_alloc_new _ _
  have hlt := h.lt
  have hsz := hb0.size
  have hsz2 : W0.heap.size = w.heap.size + 3 := by rw [hW0]; simp
  have ng : ∀ i, w.heap.size ≤ i → ¬ F i := fun i hi hf => by have := hlt i hf; omega
  have h1 : DA W1 d S F := (h.old hb0).old hb1
  have hE0 : Eff W1 W1 d S F := Eff.of h1 (Mod.refl F W1)
  have hm : Mod F w W1 := (Mod.of_below (hb0.trans (hb1.mono hsz))).mono (fun i hi h => by omega)
  have c0 := b0.old hb1
  have c1 := b1.old hb1
  have c2 := b2.old hb1
  obtain ⟨D, hD⟩ : ∃ D : List (FuncId × Array Value), D = [(51, #[.pointer (some ⟨w.heap.size, 0, none⟩)]), (53, #[.pointer (some ⟨w.heap.size + 1, 0, none⟩), .pointer (some ⟨w.heap.size + 2, 0, none⟩), .pointer (some ⟨w.heap.size, 0, none⟩)]), (55, #[.pointer (some ⟨w.heap.size, 0, none⟩)])] := ⟨_, rfl⟩
  have hDl : D.length = 3 := by rw [hD]; rfl
  have ok0 : Ok S := gd.ok (by omega)
  have ok1 : Ok (td1 S).2 := gd.td1.ok (by omega)
  have ok2 : Ok (td2 (td1 S).2 size all).2 := (gd.td1.td2 size all).ok (by omega)
  have HT := jinTurn_any W0.heap.size 3 D W1
    (fun i wi => (i = 0 → Eff W1 wi d S F) ∧ (i = 1 → Eff W1 wi d (td1 S).2 F) ∧ (i = 2 → Eff W1 wi d (td2 (td1 S).2 size all).2 F) ∧ (i = 3 → Eff W1 wi d (td3 (td2 (td1 S).2 size all).2).2 F) ∧ (1 ≤ i → (td1 S).1 = 0) ∧ (2 ≤ i → (td2 (td1 S).2 size all).1 = 0) ∧ (3 ≤ i → (td3 (td2 (td1 S).2 size all).2).1 = 0) ∧ wi.heap[W0.heap.size]? = some (.cells A 68 (0, 0)))
    (fun r w' => r = (tidyX S size all).1 ∧ Eff W1 w' d (tidyX S size all).2 F) (by omega)
    ⟨fun _ => hE0, fun h => absurd h (by omega), fun h => absurd h (by omega), fun h => absurd h (by omega), fun h => absurd h (by omega), fun h => absurd h (by omega), fun h => absurd h (by omega), hrow⟩
    ?c ?e ?d ?q
  case c =>
    rintro i hi wi ⟨_, _, _, _, _, _, _, hr⟩
    have : i = 0 ∨ i = 1 ∨ i = 2 := by omega
    subst hD
    rw [hA] at hr
    rcases this with rfl | rfl | rfl <;> (unfold World.cell?; rw [hr]; rfl)
  case e =>
    intro i hi w2
    have : i = 0 ∨ i = 1 ∨ i = 2 := by omega
    subst hD
    rcases this with rfl | rfl | rfl
    · exact enters_of Tryd.func51 (by kernel_rfl) rfl _ w2
    · exact enters_of Tryd.func53 (by kernel_rfl) rfl _ w2
    · exact enters_of Tryd.func55 (by kernel_rfl) rfl _ w2
  case d =>
    rintro i hi wi ⟨e0, e1, e2, _, z1, z2, _, hr⟩
    have hi3 : i = 0 ∨ i = 1 ∨ i = 2 := by omega
    subst hD
    rcases hi3 with rfl | rfl | rfl
    · have hE := e0 rfl
      have k0 := hE.bx c0 (ng _ (by omega))
      obtain ⟨F', hA', hF', hm'⟩ := hE
      refine (jtidy1_any hA' ok0 _ k0).mono ?_
      rintro e w' ⟨rfl, hE2⟩
      have hE3 : Eff W1 w' d (td1 S).2 F := Eff.next hF' hm' hE2
      refine ⟨_, rfl, fun hz => ⟨fun h => absurd h (by omega), fun _ => hE3, fun h => absurd h (by omega), fun h => absurd h (by omega), fun _ => hz, fun h => absurd h (by omega), fun h => absurd h (by omega), hE3.row hrow (ng _ (by omega))⟩, fun hz => ?_⟩
      have e : tidyX S size all = td1 S := by unfold tidyX; rw [if_pos hz]
      rw [e]; exact ⟨rfl, hE3⟩
    · have hE := e1 rfl
      have k0 := hE.bx c0 (ng _ (by omega))
      have k1 := hE.bx c1 (ng _ (by omega))
      have k2 := hE.bx c2 (ng _ (by omega))
      obtain ⟨F', hA', hF', hm'⟩ := hE
      refine (jtidy2_any hA' ok1 _ _ _ size all k1 k2 k0).mono ?_
      rintro e w' ⟨rfl, hE2⟩
      have hE3 : Eff W1 w' d (td2 (td1 S).2 size all).2 F := Eff.next hF' hm' hE2
      have z1 := z1 (by omega)
      refine ⟨_, rfl, fun hz => ⟨fun h => absurd h (by omega), fun h => absurd h (by omega), fun _ => hE3, fun h => absurd h (by omega), fun _ => z1, fun _ => hz, fun h => absurd h (by omega), hE3.row hrow (ng _ (by omega))⟩, fun hz => ?_⟩
      have e : tidyX S size all = td2 (td1 S).2 size all := by unfold tidyX; rw [if_neg (by simp [z1]), if_pos hz]
      rw [e]; exact ⟨rfl, hE3⟩
    · have hE := e2 rfl
      have k0 := hE.bx c0 (ng _ (by omega))
      obtain ⟨F', hA', hF', hm'⟩ := hE
      refine (jtidy3_any hA' ok2 _ k0).mono ?_
      rintro e w' ⟨rfl, hE2⟩
      have hE3 : Eff W1 w' d (td3 (td2 (td1 S).2 size all).2).2 F := Eff.next hF' hm' hE2
      have z1 := z1 (by omega)
      have z2 := z2 (by omega)
      refine ⟨_, rfl, fun hz => ⟨fun h => absurd h (by omega), fun h => absurd h (by omega), fun h => absurd h (by omega), fun _ => hE3, fun _ => z1, fun _ => z2, fun _ => hz, hE3.row hrow (ng _ (by omega))⟩, fun hz => ?_⟩
      have e : tidyX S size all = td3 (td2 (td1 S).2 size all).2 := by unfold tidyX; rw [if_neg (by simp [z1]), if_neg (by simp [z2])]
      rw [e]; exact ⟨rfl, hE3⟩
  case q =>
    rintro w' ⟨_, _, _, e3, z1, z2, z3, _⟩
    rw [hDl] at e3 z1 z2 z3
    have e : tidyX S size all = td3 (td2 (td1 S).2 size all).2 := by unfold tidyX; rw [if_neg (by simp [z1]), if_neg (by simp [z2])]
    rw [e]
    exact ⟨(z3 (by omega)).symm, e3 rfl⟩
  rw [hDl] at HT
  have HQ := Lib.hid HT
  have HM := Lib.hid hm
  rw [hA] at hW1
  clear HT h gd b0 b1 b2 hb0 hb1 hrow hlt ng h1 hE0 hm c0 c1 c2 hD hDl ok0 ok1 ok2 hA
  go_enter Tryd.func27, Tryd.ntmps27
  go_wp2_with fail
  rw [← hW0]
  rw [show w.heap.size + 1 + 1 = w.heap.size + 2 from rfl, show w.heap.size + 1 + 1 + 1 = W0.heap.size by omega, ← hW1]
  refine HQ.out.mono ?_
  rintro e w1 ⟨r, rfl, rfl, hE⟩
  have HE := Lib.hid (Eff.trans HM.out hE)
  clear hE hW0 hW1
  go_wp2_with fail
  go_ret
  exact ⟨rfl, HE.out⟩
end Go.Proofs.YtippakeemfldfaaDoor

namespace Go.Proofs.YtippakeemfldfaaDoor
open Go.RowKit

/-- What an opening answers, and leaves. -/
def opnX (S : St) : Option (List (List UInt8)) × Int × St :=
  if S.dn then (none, 6, S)
  else match whoB ((rdX S logN).1.length + 1) (rdX S logN).1 with
  | none => (none, 19, S)
  | some (L, m) => if (tidyX S (m : Nat) ((rdX S logN).1.length : Nat)).1 ≠ 0 then (none, tidyX S (m : Nat) ((rdX S logN).1.length : Nat)) else (some L, 0, (tidyX S (m : Nat) ((rdX S logN).1.length : Nat)).2)
theorem Gd.opn {S : St} {n : Nat} (h : Gd S n) : Gd (opnX S).2.2 (n + 3) := by
  unfold opnX
  split
  · exact h.more (by omega)
  · split
    · exact h.more (by omega)
    · split
      · exact h.tidy _ _
      · exact h.tidy _ _
def OpenPost (w : World) (d : Nat) (S : St) (F : Nat → Prop) (e : Ending) (w' : World) : Prop :=
  ∃ F', DA w' d (opnX S).2.2 F' ∧ (∀ i, F' i → F i ∨ w.heap.size ≤ i) ∧ Mod F w w' ∧
    match (opnX S).1 with
    | none => e = .returned (.tuple #[.pointer none, .slice none 0 0, .int .i64 (opnX S).2.1]) ∧ (opnX S).2.1 ≠ 0
    | some L => ∃ j p c, e = .returned (.tuple #[.pointer (some ⟨j, 0, none⟩), .slice p L.length c, .int .i64 0]) ∧ Bx w' j (.pointer (some ⟨d, 0, none⟩)) ∧ w.heap.size ≤ j ∧ ¬ F' j ∧ Rw encS 9 w' p c L ∧ ∀ a, p = some a → w.heap.size ≤ a.block ∧ ¬ F' a.block
theorem OpenPost.eff {w w' : World} {d : Nat} {S : St} {F : Nat → Prop} {e : Ending} (h : OpenPost w d S F e w') : Eff w w' d (opnX S).2.2 F := by
  obtain ⟨F', h1, h2, h3, _⟩ := h
  exact ⟨F', h1, h2, h3⟩
set_option maxRecDepth 20000 in
set_option maxHeartbeats 2000000 in
theorem jopen_any {w : World} {d : Nat} {S : St} {F : Nat → Prop} {n : Nat} (h : DA w d S F) (gd : Gd S n) (hn : n ≤ 90000) (hT : TabAt w) :
    Calls Tryd.prog 8 #[.pointer (some ⟨d, 0, none⟩)] w (OpenPost w d S F) := by
  have ok := gd.ok (by omega)
  have HR := Lib.hid (dkread_any h logN (by decide))
  have HD := Lib.hid h
  have HG := Lib.hid gd
  have HT := Lib.hid hT
  by_cases hdn : S.dn = true
  · have hr : rdX S logN = ([], 6) := by unfold rdX; rw [if_pos hdn]
    have ho : opnX S = (none, 6, S) := by unfold opnX; rw [if_pos hdn]
    rw [hr] at HR
    have HO := Lib.hid ho
    clear hr ho h gd hT ok
    go_enter Tryd.func8, Tryd.ntmps8
    go_wp2_with fail
    refine HR.out.mono ?_
    rintro e w1 ⟨rfl, hb⟩
    have HB := Lib.hid hb
    clear hb
    go_wp2_with fail
    go_ret3
    unfold OpenPost
    rw [HO.out]
    exact ⟨F, HD.out.old HB.out, fun i hi => .inl hi, (Mod.of_below HB.out).mono (fun i hi h => by omega), rfl, (show (6 : Int) ≠ 0 from by decide)⟩
  have hsl : (rdX S logN).1.length ≤ 2000000000 := by
    unfold rdX
    rw [if_neg hdn]
    by_cases hh : hasX logN S.X = true
    · rw [if_pos hh]; exact ok.f _ (fiX_mem hh)
    · rw [if_neg hh]; decide
  have ho : opnX S = (match whoB ((rdX S logN).1.length + 1) (rdX S logN).1 with
    | none => (none, 19, S)
    | some (L, m) => if (tidyX S (m : Nat) ((rdX S logN).1.length : Nat)).1 ≠ 0 then (none, tidyX S (m : Nat) ((rdX S logN).1.length : Nat)) else (some L, 0, (tidyX S (m : Nat) ((rdX S logN).1.length : Nat)).2)) := by unfold opnX; rw [if_neg hdn]
  obtain ⟨s, er, hr⟩ : ∃ s er, rdX S logN = (s, er) := ⟨_, _, rfl⟩
  have her : er = 0 ∨ er = 7 := by
    unfold rdX at hr
    rw [if_neg hdn] at hr
    by_cases hh : hasX logN S.X = true
    · rw [if_pos hh] at hr; exact .inl (Prod.mk.inj hr).2.symm
    · rw [if_neg hh] at hr; exact .inr (Prod.mk.inj hr).2.symm
  rw [hr] at HR hsl ho
  simp only at hsl
  have HO := Lib.hid ho
  have hlt := Lib.hid h.lt
  clear hr ho h gd hT ok hdn
  rcases her with rfl | rfl
  · go_enter Tryd.func8, Tryd.ntmps8
    go_wp2_with fail
    refine HR.out.mono ?_
    rintro e w1 ⟨rfl, hb⟩
    have HB := Lib.hid hb
    clear hb HR
    go_wp2_with fail
    refine (jwhole_any s w1 hsl (TabJ.old HT.out HB.out)).mono ?_
    rintro e w2 ⟨hb2, hp⟩
    have HB2 := Lib.hid (HB.out.trans (hb2.mono HB.out.size))
    cases hw : whoB (s.length + 1) s with
    | none =>
      rw [hw] at hp
      subst hp
      have ho := HO.out
      simp only [hw] at ho
      have HO2 := Lib.hid ho
      clear hw hb2 ho HO HB
      go_wp2_with fail
      go_ret3
      unfold OpenPost
      rw [HO2.out]
      exact ⟨F, HD.out.old HB2.out, fun i hi => .inl hi, (Mod.of_below HB2.out).mono (fun i hi h => by omega), rfl, (show (19 : Int) ≠ 0 from by decide)⟩
    | some x =>
      obtain ⟨L, m⟩ := x
      rw [hw] at hp
      obtain ⟨p, c, rfl, hR, hpn⟩ := hp
      have ho := HO.out
      simp only [hw] at ho
      have HO2 := Lib.hid ho
      have HRW := Lib.hid hR
      have HPN : Hid (∀ a, p = some a → w.heap.size ≤ a.block) := Lib.hid (fun a e => Nat.le_trans HB.out.size (hpn a e))
      have HTY := Lib.hid (jtidy_any (HD.out.old HB2.out) HG.out hn (m : Nat) (s.length : Nat))
      obtain ⟨t, S', ht⟩ : ∃ t S', tidyX S (m : Nat) (s.length : Nat) = (t, S') := ⟨_, _, rfl⟩
      rw [ht] at HTY HO2
      simp only at HTY HO2
      clear hw hb2 ho HO HB hR hpn ht
      go_wp2_with fail
      refine HTY.out.mono ?_
      rintro e w3 ⟨rfl, hE⟩
      have HE := Lib.hid hE
      clear hE
      by_cases h0 : t = 0
      · subst h0
        have ho := HO2.out
        rw [if_neg (by decide)] at ho
        have HO := Lib.hid ho
        clear ho HO2
        go_wp2_with fail
        go_ret3
        unfold OpenPost
        rw [HO.out]
        obtain ⟨F', hA, hF, hm⟩ := HE.out
        have hb4 : Below w3.heap.size w3 (w3.alloc (.cells #[.pointer (some ⟨d, 0, none⟩)] 61)) := (Below.refl _ _).alloc (Nat.le_refl _) _
        have hl := HD.out.old HB2.out |>.lt
        have hs2 := HB2.out.size
        have hsm := hm.size
        refine ⟨F', hA.old hb4, fun i hi => (hF i hi).imp id (fun h => by omega), (((Mod.of_below HB2.out).mono (T := F) (fun i hi h => by omega)).trans hm (fun _ _ h => h)).trans ((Mod.of_below hb4).mono (T := F) (fun i hi h => by omega)) (fun _ _ h => h), w3.heap.size, p, c, rfl, Bx.new w3 _ _, by omega, fun hf => by have := hA.lt _ hf; omega, ?_, fun a e => ⟨HPN.out a e, fun hf => ?_⟩⟩
        · refine (HRW.out.kept hm (fun a e hf => ?_)).old hb4
          have h1 := HPN.out a e
          have h2 := hlt.out _ hf
          omega
        · have h1 := HPN.out a e
          rcases hF _ hf with h2 | h2
          · have h3 := hlt.out _ h2; omega
          · subst e; have h3 := HRW.out.lt; omega
      · have hb : (t != 0) = true := by simp [h0]
        have ho := HO2.out
        rw [if_pos h0] at ho
        have HO := Lib.hid ho
        have H0 := Lib.hid h0
        clear ho HO2 h0
        go_wp2_with fail
        go_ret3
        unfold OpenPost
        rw [HO.out]
        obtain ⟨F', hA, hF, hm⟩ := Eff.trans ((Mod.of_below HB2.out).mono (T := F) (fun i hi h => by omega)) HE.out
        exact ⟨F', hA, hF, hm, rfl, H0.out⟩
  · go_enter Tryd.func8, Tryd.ntmps8
    go_wp2_with fail
    refine HR.out.mono ?_
    rintro e w1 ⟨rfl, hb⟩
    have HB := Lib.hid hb
    clear hb HR
    go_wp2_with fail
    refine (jwhole_any s w1 hsl (TabJ.old HT.out HB.out)).mono ?_
    rintro e w2 ⟨hb2, hp⟩
    have HB2 := Lib.hid (HB.out.trans (hb2.mono HB.out.size))
    cases hw : whoB (s.length + 1) s with
    | none =>
      rw [hw] at hp
      subst hp
      have ho := HO.out
      simp only [hw] at ho
      have HO2 := Lib.hid ho
      clear hw hb2 ho HO HB
      go_wp2_with fail
      go_ret3
      unfold OpenPost
      rw [HO2.out]
      exact ⟨F, HD.out.old HB2.out, fun i hi => .inl hi, (Mod.of_below HB2.out).mono (fun i hi h => by omega), rfl, (show (19 : Int) ≠ 0 from by decide)⟩
    | some x =>
      obtain ⟨L, m⟩ := x
      rw [hw] at hp
      obtain ⟨p, c, rfl, hR, hpn⟩ := hp
      have ho := HO.out
      simp only [hw] at ho
      have HO2 := Lib.hid ho
      have HRW := Lib.hid hR
      have HPN : Hid (∀ a, p = some a → w.heap.size ≤ a.block) := Lib.hid (fun a e => Nat.le_trans HB.out.size (hpn a e))
      have HTY := Lib.hid (jtidy_any (HD.out.old HB2.out) HG.out hn (m : Nat) (s.length : Nat))
      obtain ⟨t, S', ht⟩ : ∃ t S', tidyX S (m : Nat) (s.length : Nat) = (t, S') := ⟨_, _, rfl⟩
      rw [ht] at HTY HO2
      simp only at HTY HO2
      clear hw hb2 ho HO HB hR hpn ht
      go_wp2_with fail
      refine HTY.out.mono ?_
      rintro e w3 ⟨rfl, hE⟩
      have HE := Lib.hid hE
      clear hE
      by_cases h0 : t = 0
      · subst h0
        have ho := HO2.out
        rw [if_neg (by decide)] at ho
        have HO := Lib.hid ho
        clear ho HO2
        go_wp2_with fail
        go_ret3
        unfold OpenPost
        rw [HO.out]
        obtain ⟨F', hA, hF, hm⟩ := HE.out
        have hb4 : Below w3.heap.size w3 (w3.alloc (.cells #[.pointer (some ⟨d, 0, none⟩)] 61)) := (Below.refl _ _).alloc (Nat.le_refl _) _
        have hl := HD.out.old HB2.out |>.lt
        have hs2 := HB2.out.size
        have hsm := hm.size
        refine ⟨F', hA.old hb4, fun i hi => (hF i hi).imp id (fun h => by omega), (((Mod.of_below HB2.out).mono (T := F) (fun i hi h => by omega)).trans hm (fun _ _ h => h)).trans ((Mod.of_below hb4).mono (T := F) (fun i hi h => by omega)) (fun _ _ h => h), w3.heap.size, p, c, rfl, Bx.new w3 _ _, by omega, fun hf => by have := hA.lt _ hf; omega, ?_, fun a e => ⟨HPN.out a e, fun hf => ?_⟩⟩
        · refine (HRW.out.kept hm (fun a e hf => ?_)).old hb4
          have h1 := HPN.out a e
          have h2 := hlt.out _ hf
          omega
        · have h1 := HPN.out a e
          rcases hF _ hf with h2 | h2
          · have h3 := hlt.out _ h2; omega
          · subst e; have h3 := HRW.out.lt; omega
      · have hb : (t != 0) = true := by simp [h0]
        have ho := HO2.out
        rw [if_pos h0] at ho
        have HO := Lib.hid ho
        have H0 := Lib.hid h0
        clear ho HO2 h0
        go_wp2_with fail
        go_ret3
        unfold OpenPost
        rw [HO.out]
        obtain ⟨F', hA, hF, hm⟩ := Eff.trans ((Mod.of_below HB2.out).mono (T := F) (fun i hi h => by omega)) HE.out
        exact ⟨F', hA, hF, hm, rfl, H0.out⟩
end Go.Proofs.YtippakeemfldfaaDoor

namespace Go.Proofs.YtippakeemfldfaaDoor
open Go.RowKit

def apd1 (S : St) (s : List UInt8) : Int × St := (dedR S (wrA S (frmB s)), dedS S (wrA S (frmB s)) (apX S logN (frmB s)))
def syn1 (S : St) (k : List UInt8) : Int × St := (dedR S (wrN S k), dedS S (wrN S k) (syX S k))
/-- What an Append answers, and leaves. -/
def apdX (S : St) (s : List UInt8) : Int × St :=
  if s.length > 1048576 then (1, S) else if (apd1 S s).1 ≠ 0 then apd1 S s else syn1 (apd1 S s).2 logN
section
variable {S : St} {n : Nat}
theorem Gd.apd1 (h : Gd S n) (s : List UInt8) : Gd (apd1 S s).2 (n + 1) := h.app logN (frmB s) (by decide)
theorem Gd.syn1 (h : Gd S n) (k : List UInt8) (hk : k.length ≤ 1000000) : Gd (syn1 S k).2 (n + 1) := h.syn k hk
theorem Gd.apd (h : Gd S n) (s : List UInt8) : Gd (apdX S s).2 (n + 2) := by
  unfold apdX
  split
  · exact h.more (by omega)
  · split
    · exact (h.apd1 s).more (by omega)
    · exact (h.apd1 s).syn1 logN (by decide)
end
set_option maxRecDepth 20000 in
set_option maxHeartbeats 2000000 in
theorem jappend_any {w : World} {d : Nat} {S : St} {F : Nat → Prop} {n : Nat} (h : DA w d S F) (gd : Gd S n) (hn : n ≤ 90000) (j : Nat) (bj : Bx w j (.pointer (some ⟨d, 0, none⟩))) (hj : ¬ F j) (s : List UInt8) (hs : s.length ≤ 1000000000) (hT : TabAt w) :
    Calls Tryd.prog 13 #[.pointer (some ⟨j, 0, none⟩), .string ⟨s.toArray⟩] w fun e w' => e = .returned (.int .i64 (apdX S s).1) ∧ Eff w w' d (apdX S s).2 F := by
  obtain ⟨W0, hW0, b0, b1, hb0⟩ := boxes2 w (.pointer (some ⟨j, 0, none⟩)) (.string ⟨s.toArray⟩) 26 9
  have hlt := h.lt
  have hsz := hb0.size
  have hsz2 : W0.heap.size = w.heap.size + 2 := by rw [hW0]; simp
  have ng : ∀ i, w.heap.size ≤ i → ¬ F i := fun i hi hf => by have := hlt i hf; omega
  have hsi : (s.length : Int) ≤ 1000000000 := by omega
  have HTL := Lib.hid (fun w => jtooLong_any s w)
  have cs : W0.cell? ⟨w.heap.size + 1, 0, none⟩ = some (.string ⟨s.toArray⟩) := b1.cell
  by_cases hbig : s.length > 1048576
  · have e : apdX S s = (1, S) := by unfold apdX; rw [if_pos hbig]
    have hb : decide ((s.length : Int) > 1048576) = true := by simp; omega
    rw [hb] at HTL
    rw [e]
    have HE : Hid (Eff w W0 d S F) := Lib.hid (Eff.of (h.old hb0) ((Mod.of_below hb0).mono (fun i hi h => by omega)))
    clear h gd bj hj hT b0 b1 hb0 hlt hsz hsz2 ng hbig hb e
    go_enter Tryd.func13, Tryd.ntmps13
    go_upto_region 1 with fail
    rw [← hW0]
    clear hW0
    go_wp2_with fail
    refine (HTL.out _).mono ?_
    rintro e w1 ⟨rfl, hww⟩
    have HE1 : Hid (Eff w w1 d S F) := Lib.hid (hww ▸ HE.out)
    clear hww
    go_wp2_with fail
    go_ret
    exact ⟨rfl, HE1.out⟩
  have hb : decide ((s.length : Int) > 1048576) = false := by simp; omega
  rw [hb] at HTL
  obtain ⟨A, hA⟩ : ∃ A : Array Value, A = #[.func (.func 37) #[] #[.pointer (some ⟨w.heap.size, 0, none⟩), .pointer (some ⟨w.heap.size + 1, 0, none⟩)], .func (.func 38) #[] #[.pointer (some ⟨w.heap.size, 0, none⟩)]] := ⟨_, rfl⟩
  obtain ⟨W1, hW1⟩ : ∃ W, W = W0.alloc (.cells A 68) := ⟨_, rfl⟩
  have hb1 : Below W0.heap.size W0 W1 := by rw [hW1]; exact (Below.refl _ _).alloc (Nat.le_refl _) _
  have hrow : W1.heap[W0.heap.size]? = some (.cells A 68 (0, 0)) := by rw [hW1]; exact heap_alloc_new _ _
  have h1 : DA W1 d S F := (h.old hb0).old hb1
  have hE0 : Eff W1 W1 d S F := Eff.of h1 (Mod.refl F W1)
  have hm : Mod F w W1 := (Mod.of_below (hb0.trans (hb1.mono hsz))).mono (fun i hi h => by omega)
  have c0 := b0.old hb1
  have c1 := b1.old hb1
  have cj := (bj.old hb0).old hb1
  have hT1 := TabJ.old (TabJ.old hT hb0) hb1
  obtain ⟨D, hD⟩ : ∃ D : List (FuncId × Array Value), D = [(37, #[.pointer (some ⟨w.heap.size, 0, none⟩), .pointer (some ⟨w.heap.size + 1, 0, none⟩)]), (38, #[.pointer (some ⟨w.heap.size, 0, none⟩)])] := ⟨_, rfl⟩
  have hDl : D.length = 2 := by rw [hD]; rfl
  have ok0 : Ok S := gd.ok (by omega)
  have ok1 : Ok (apd1 S s).2 := (gd.apd1 s).ok (by omega)
  have HT := jinTurn_any W0.heap.size 2 D W1
    (fun i wi => (i = 0 → wi = W1) ∧ (i = 1 → Eff W1 wi d (apd1 S s).2 F) ∧ (i = 2 → Eff W1 wi d (syn1 (apd1 S s).2 logN).2 F) ∧ (1 ≤ i → (apd1 S s).1 = 0) ∧ (2 ≤ i → (syn1 (apd1 S s).2 logN).1 = 0) ∧ wi.heap[W0.heap.size]? = some (.cells A 68 (0, 0)))
    (fun r w' => r = (apdX S s).1 ∧ Eff W1 w' d (apdX S s).2 F) (by omega)
    ⟨fun _ => rfl, fun h => absurd h (by omega), fun h => absurd h (by omega), fun h => absurd h (by omega), fun h => absurd h (by omega), hrow⟩
    ?c ?e ?d ?q
  case c =>
    rintro i hi wi ⟨_, _, _, _, _, hr⟩
    have : i = 0 ∨ i = 1 := by omega
    subst hD
    rw [hA] at hr
    rcases this with rfl | rfl <;> (unfold World.cell?; rw [hr]; rfl)
  case e =>
    intro i hi w2
    have : i = 0 ∨ i = 1 := by omega
    subst hD
    rcases this with rfl | rfl
    · exact enters_of Tryd.func37 (by kernel_rfl) rfl _ w2
    · exact enters_of Tryd.func38 (by kernel_rfl) rfl _ w2
  case d =>
    rintro i hi wi ⟨e0, e1, _, z1, _, hr⟩
    have hi3 : i = 0 ∨ i = 1 := by omega
    subst hD
    rcases hi3 with rfl | rfl
    · obtain rfl := e0 rfl
      refine (jappend1_any h1 ok0 _ _ j c0 cj s c1 (by omega) hT1).mono ?_
      rintro e w' ⟨rfl, hE3⟩
      refine ⟨_, rfl, fun hz => ⟨fun h => absurd h (by omega), fun _ => hE3, fun h => absurd h (by omega), fun _ => hz, fun h => absurd h (by omega), Eff.row hE3 hrow (ng _ (by omega))⟩, fun hz => ?_⟩
      have e : apdX S s = apd1 S s := by unfold apdX; rw [if_neg hbig, if_pos (show (apd1 S s).1 ≠ 0 from hz)]
      rw [e]; exact ⟨rfl, hE3⟩
    · have hE := e1 rfl
      have k0 := hE.bx c0 (ng _ (by omega))
      have kj := hE.bx cj hj
      obtain ⟨F', hA', hF', hm'⟩ := hE
      refine (jsyncA_any hA' ok1 _ j k0 kj).mono ?_
      rintro e w' ⟨rfl, hE2⟩
      have hE3 : Eff W1 w' d (syn1 (apd1 S s).2 logN).2 F := Eff.next hF' hm' hE2
      have z1 := z1 (by omega)
      have e : apdX S s = syn1 (apd1 S s).2 logN := by unfold apdX; rw [if_neg hbig, if_neg (by simp [z1])]
      refine ⟨_, rfl, fun hz => ⟨fun h => absurd h (by omega), fun h => absurd h (by omega), fun _ => hE3, fun _ => z1, fun _ => hz, hE3.row hrow (ng _ (by omega))⟩, fun hz => ?_⟩
      rw [e]; exact ⟨rfl, hE3⟩
  case q =>
    rintro w' ⟨_, _, e3, z1, z2, _⟩
    rw [hDl] at e3 z1 z2
    have e : apdX S s = syn1 (apd1 S s).2 logN := by unfold apdX; rw [if_neg hbig, if_neg (by simp [z1])]
    rw [e]
    exact ⟨(z2 (by omega)).symm, e3 rfl⟩
  rw [hDl, hsz2] at HT
  have HQ := Lib.hid HT
  have HM := Lib.hid hm
  rw [hA] at hW1
  clear HT h gd b0 b1 hb0 hb1 hrow hlt ng h1 hE0 hm c0 c1 hD hDl ok0 ok1 hA bj hj cj hT hT1 hb hbig
  go_enter Tryd.func13, Tryd.ntmps13
  go_upto_region 1 with fail
  rw [← hW0]
  clear hW0
  go_wp2_with fail
  refine (HTL.out _).mono ?_
  rintro e w1 ⟨rfl, hww⟩
  subst hww
  go_wp2_with fail
  rw [← hW1]
  refine HQ.out.mono ?_
  rintro e w1 ⟨r, rfl, rfl, hE⟩
  have HE := Lib.hid (Eff.trans HM.out hE)
  clear hE hW1
  go_wp2_with fail
  go_ret
  exact ⟨rfl, HE.out⟩
end Go.Proofs.YtippakeemfldfaaDoor
