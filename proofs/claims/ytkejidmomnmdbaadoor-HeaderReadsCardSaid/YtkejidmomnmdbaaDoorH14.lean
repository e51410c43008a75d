/- The program's header out of the reference's. -/
import Derived.Test.YtkejidmomnmdbaaDoorH13
namespace Go.Proofs.YtkejidmomnmdbaaDoor
open Go.RowKit

def nmOf (s : List UInt8) : Nm := ⟨idL s, idL_len s⟩
def ownH (h : Hd (List UInt8)) : Hd Nm := ⟨h.ht, h.mi, h.tk, h.wi, h.pw, h.ps.map nmOf, h.sa⟩
/-- A header at g, a place for a result at r. -/
structure HvSt (W : World) (r g : Nat) (T : TypeId) (C : Array Value) (w : World) : Prop where
  box : w.heap[g]? = some (.cells C T (0, 0))
  m : Below W.heap.size W w
  lo : W.heap.size ≤ r
  lo2 : W.heap.size ≤ g
  ne : r ≠ g
  res : ∃ Z : Array Value, Z.size = 7 ∧ w.heap[r]? = some (.cells Z T (0, 0))
theorem HvSt.put {W w : World} {r g : Nat} {T : TypeId} {C : Array Value} (h : HvSt W r g T C w) (k : Nat) (v : Value) : HvSt W r g T (C.setIfInBounds k v) (w.setCell ⟨g, k, none⟩ v) := by
  have h1 := h.lo
  have h3 := h.lo2
  have h2 := h.ne
  obtain ⟨Z, hz, hZ⟩ := h.res
  refine ⟨heap_setCell_same w g k C T v h.box, ?_, h1, h3, h2, Z, hz, ?_⟩
  · exact h.m.trans (((Mod.refl (· = g) w).setCell (p := ⟨g, k, none⟩) (fun _ => rfl) v).to_below h.m.size (by intro i hi e; omega))
  · rw [Below.heap_setCell _ _ _ _ (by simp only; omega)]; exact hZ
theorem HvSt.cell {W w : World} {r g : Nat} {T : TypeId} {C : Array Value} (h : HvSt W r g T C w) (k : Nat) : w.cell? ⟨g, k, none⟩ = C[k]? := cell_of_row w g k C T (0, 0) h.box
theorem HvSt.froz {W w : World} {r g : Nat} {T : TypeId} {C : Array Value} (h : HvSt W r g T C w) (k : Nat) : w.frozen? ⟨g, k, none⟩ = false := frozen_of_row w g k C T h.box
theorem HvSt.lt {W w : World} {r g : Nat} {T : TypeId} {C : Array Value} (h : HvSt W r g T C w) : g < w.heap.size := (Array.getElem?_eq_some_iff.1 h.box).1
/-- Of what is old only rows above g turn. -/
theorem HvSt.kept {W w w' : World} {r g : Nat} {T : TypeId} {C : Array Value} {S : Nat → Prop} (h : HvSt W r g T C w) (hm : Mod S w w') (hS : ∀ i, S i → g < i ∧ r < i) : HvSt W r g T C w' := by
  obtain ⟨Z, hz, hZ⟩ := h.res
  have h1 := h.lo
  have h3 := h.lo2
  have h2 := h.ne
  exact ⟨(hm.block g h.lt (fun e => by have := hS g e; omega)).trans h.box, h.m.trans (hm.to_below h.m.size (fun i hi e => by have := hS i e; omega)), h1, h3, h2, Z, hz, (hm.block r (Array.getElem?_eq_some_iff.1 hZ).1 (fun e => by have := hS r e; omega)).trans hZ⟩
theorem HvSt.grow {W w w' : World} {r g : Nat} {T : TypeId} {C : Array Value} (h : HvSt W r g T C w) (hb : Below w.heap.size w w') : HvSt W r g T C w' := h.kept (Mod.of_below hb) (fun i hi => ⟨Nat.lt_of_lt_of_le h.lt hi, by obtain ⟨Z, _, hZ⟩ := h.res; exact Nat.lt_of_lt_of_le (Array.getElem?_eq_some_iff.1 hZ).1 hi⟩)

set_option maxRecDepth 20000 in
set_option maxHeartbeats 4000000 in
theorem own_any (h : Hd (List UInt8)) (ao : Option Addr) (cap : Nat) (w : World) (hL : Rd encS w ao h.ps) (hn : h.ps.length ≤ 1000000) :
    Calls Tryd.prog 28 #[.agg (hcells h ao cap)] w fun r w' => ∃ q c, r = .returned (.agg (hcells (ownH h) q c)) ∧ Rw encN 25 w' q c (ownH h).ps ∧ Below w.heap.size w w' ∧ ∀ a, q = some a → w.heap.size ≤ a.block := by
  obtain ⟨ht, mi, tk, wi, pw, ps, sa⟩ := h
  unfold ownH
  unfold hcells
  simp only at hL hn ⊢
  rw [List.length_map]
  obtain ⟨n, hnp⟩ : ∃ n, n = ps.length := ⟨_, rfl⟩
  rw [← hnp] at hn ⊢
  have HL := Lib.hid hL
  obtain ⟨W0, hW0⟩ : ∃ W0, W0 = (w.alloc (.cells #[.int .i64 ht, .int .i64 mi, .string ⟨tk.toArray⟩, .int .i64 wi, .int .u64 (pw : Int), .slice ao n cap, .int .i64 sa] 39)).alloc (.cells #[.int .i64 0, .int .i64 0, .string ⟨#[]⟩, .int .i64 0, .int .u64 0, .slice none 0 0, .int .i64 0] 43) := ⟨_, rfl⟩
  have s0 : W0.heap.size = w.heap.size + 2 := by rw [hW0]; simp
  have b0 : Below w.heap.size w W0 := by rw [hW0]; exact ((Below.refl _ w).alloc (Nat.le_refl _) _).alloc (by simp) _
  have bx0 : W0.heap[w.heap.size]? = some (.cells #[.int .i64 ht, .int .i64 mi, .string ⟨tk.toArray⟩, .int .i64 wi, .int .u64 (pw : Int), .slice ao n cap, .int .i64 sa] 39 (0, 0)) := by rw [hW0, Below.heap_alloc _ _ _ (by simp)]; exact heap_alloc_new w _
  have rs0 : W0.heap[w.heap.size + 1]? = some (.cells #[.int .i64 0, .int .i64 0, .string ⟨#[]⟩, .int .i64 0, .int .u64 0, .slice none 0 0, .int .i64 0] 43 (0, 0)) := by rw [hW0]; have := heap_alloc_new (w.alloc (.cells #[.int .i64 ht, .int .i64 mi, .string ⟨tk.toArray⟩, .int .i64 wi, .int .u64 (pw : Int), .slice ao n cap, .int .i64 sa] 39)) (.cells #[.int .i64 0, .int .i64 0, .string ⟨#[]⟩, .int .i64 0, .int .u64 0, .slice none 0 0, .int .i64 0] 43); simpa using this
  obtain ⟨W3, hW3⟩ : ∃ W3, W3 = W0.alloc (.cells #[.int .i64 ht, .int .i64 mi, .string ⟨tk.toArray⟩, .int .i64 wi, .int .u64 (pw : Int), .slice none 0 0, .int .i64 sa] 43) := ⟨_, rfl⟩
  have b3 : Below W0.heap.size W0 W3 := by rw [hW3]; exact (Below.refl _ _).alloc (Nat.le_refl _) _
  obtain ⟨g, hg⟩ : ∃ g, g = w.heap.size + 1 + 1 := ⟨_, rfl⟩
  have st : HvSt w (w.heap.size + 1) g 43 #[.int .i64 ht, .int .i64 mi, .string ⟨tk.toArray⟩, .int .i64 wi, .int .u64 (pw : Int), .slice none 0 0, .int .i64 sa] W3 := by
    refine ⟨?_, b0.trans (b3.mono b0.size), by omega, by omega, by omega, #[.int .i64 0, .int .i64 0, .string ⟨#[]⟩, .int .i64 0, .int .u64 0, .slice none 0 0, .int .i64 0], rfl, (b3.block _ (by omega)).trans rs0⟩
    rw [hg, hW3, show w.heap.size + 1 + 1 = W0.heap.size by omega]; exact heap_alloc_new W0 _
  rw [hW0] at hW3
  have ST := Lib.hid st
  have HW3 := Lib.hid hW3
  have Hg := Lib.hid hg
  have Hnp := Lib.hid hnp
  clear hL hnp hW0 s0 b0 bx0 rs0 hW3 b3 hg st
  go_enter Tryd.func28, Tryd.ntmps28
  go_wp2_with fail
  rw [← HW3.out, ← Hg.out]
  go_loopw [22] (fun s22 wr => ∃ k q c, k ≤ n ∧ s22 = .int .i64 (k : Int) ∧ Hid (HvSt w (w.heap.size + 1) g 43 #[.int .i64 ht, .int .i64 mi, .string ⟨tk.toArray⟩, .int .i64 wi, .int .u64 (pw : Int), .slice q k c, .int .i64 sa] wr ∧ Rw encN 25 wr q c ((ps.map nmOf).take k) ∧ ∀ a, q = some a → g < a.block)) (fun i _ => n - (intOf i).toNat)
  case atStart => exact ⟨0, none, 0, Nat.zero_le _, rfl, Lib.hid ⟨ST.out, Rw.empty _ _, fun a e => by cases e⟩⟩
  case round =>
    clear ST
    obtain ⟨k, q, c, hk, rfl, hst⟩ := hrel
    by_cases hlt : k < n
    · obtain ⟨st0, rw0, fr0⟩ := hst.out
      clear hst
      have hkp : k < ps.length := by rw [← Hnp.out]; exact hlt
      obtain ⟨bs, off, rfl, hbs, cx⟩ := (HL.out.old st0.m).str k hkp
      have hnx : (ps.map nmOf).take (k + 1) = (ps.map nmOf).take k ++ [nmOf ps[k]] := by rw [List.take_succ_eq_append_getElem (by simpa using hkp), List.getElem_map]
      have hDl : ((ps.map nmOf).take k).length = k := by rw [List.length_take, List.length_map]; omega
      obtain ⟨xx, hx⟩ : ∃ x, x = ps[k] := ⟨_, rfl⟩
      rw [← hx] at cx hnx
      obtain ⟨nm, hnm⟩ : ∃ nm : Nm, nm = nmOf xx := ⟨_, rfl⟩
      have hname : Hid (∀ w, Calls Tryd.prog 40 #[.string ⟨xx.toArray⟩] w fun r w' => r = .returned (.agg (vals nm.1).toArray) ∧ Below w.heap.size w w') := Lib.hid (fun w => by rw [hnm]; exact idof_any xx w)
      rw [← hnm] at hnx
      have Hnx := Lib.hid hnx
      clear hnm hnx hx
      generalize (ps.map nmOf).take k = D at rw0 hDl Hnx
      have HDl := Lib.hid hDl
      have Hst := Lib.hid st0
      have Hrw := Lib.hid rw0
      have Hfr := Lib.hid fr0
      have i0 : (0 : Int) ≤ k := by omega
      have i1 : (k : Int) < n := by omega
      clear hDl st0 rw0 fr0 hkp
      go_wp2_with fail
      clear cx
      have HG0 : Hid ((fun (j : Nat) (x : Value) (w1 : World) => (j ≤ 3 → HvSt w (w.heap.size + 1) g 43 #[.int .i64 ht, .int .i64 mi, .string ⟨tk.toArray⟩, .int .i64 wi, .int .u64 (pw : Int), .slice q k c, .int .i64 sa] w1) ∧ (j ≤ 2 → Rw encN 25 w1 q c D) ∧ (j = 2 → ∃ p, x = .slice (some ⟨p, 0, none⟩) 1 1 ∧ Rd encN w1 (some ⟨p, 0, none⟩) [nm]) ∧ (j = 3 → ∃ q' c', x = .slice q' (k + 1) c' ∧ Rw encN 25 w1 q' c' (D ++ [nm]) ∧ ∀ a, q' = some a → g < a.block) ∧ (j = 4 → ∃ q' c', HvSt w (w.heap.size + 1) g 43 #[.int .i64 ht, .int .i64 mi, .string ⟨tk.toArray⟩, .int .i64 wi, .int .u64 (pw : Int), .slice q' (k + 1) c', .int .i64 sa] w1 ∧ Rw encN 25 w1 q' c' (D ++ [nm]) ∧ ∀ a, q' = some a → g < a.block)) 0 undef wr.drew) := Lib.hid ⟨fun _ => Hst.out.grow ((Below.refl _ _).drew), fun _ => Hrw.out.old ((Below.refl _ _).drew), (fun h => absurd h (by omega)), (fun h => absurd h (by omega)), (fun h => absurd h (by omega))⟩
      clear Hst Hrw
      refine wp_region_chain (fun t v => match t with
        | 26 => v = .pointer (some ⟨g, 5, none⟩)
        | 27 => v = .slice q k c
        | 28 => v = .string ⟨xx.toArray⟩
        | 29 => v = .agg (vals nm.1).toArray
        | 32 => v = .pointer (some ⟨g, 5, none⟩)
        | _ => True) (fun (j : Nat) (x : Value) (w1 : World) => (j ≤ 3 → HvSt w (w.heap.size + 1) g 43 #[.int .i64 ht, .int .i64 mi, .string ⟨tk.toArray⟩, .int .i64 wi, .int .u64 (pw : Int), .slice q k c, .int .i64 sa] w1) ∧ (j ≤ 2 → Rw encN 25 w1 q c D) ∧ (j = 2 → ∃ p, x = .slice (some ⟨p, 0, none⟩) 1 1 ∧ Rd encN w1 (some ⟨p, 0, none⟩) [nm]) ∧ (j = 3 → ∃ q' c', x = .slice q' (k + 1) c' ∧ Rw encN 25 w1 q' c' (D ++ [nm]) ∧ ∀ a, q' = some a → g < a.block) ∧ (j = 4 → ∃ q' c', HvSt w (w.heap.size + 1) g 43 #[.int .i64 ht, .int .i64 mi, .string ⟨tk.toArray⟩, .int .i64 wi, .int .u64 (pw : Int), .slice q' (k + 1) c', .int .i64 sa] w1 ∧ Rw encN 25 w1 q' c' (D ++ [nm]) ∧ ∀ a, q' = some a → g < a.block)) [3, 4, 5, 7] 35 (by kernel_rfl) (by decide +kernel) rfl (by decide +kernel) (by decide) (by decide) HG0.out (by
        refine OweAllC.cons (owesC_val 2 (by decide +kernel) (by decide) rfl rfl fun k' a w1 x hk ha hG hV => ?_) ?_
        · skip
          have h3 := ha.outer 3 (by decide +kernel)
          simp only [Act.eval] at h3
          exact ⟨.pointer (some ⟨g, 5, none⟩), wanted_free rfl, by simp [execOp, go_sem, h3], rfl⟩
        refine OweAllC.cons (owesC_val 2 (by decide +kernel) (by decide) rfl rfl fun k' a w1 x hk ha hG hV => ?_) ?_
        · skip
          have h26 : a.tmps.getD 26 undef = .pointer (some ⟨g, 5, none⟩) := hV.get 26 (by decide +kernel)
          have cc : w1.cell? ⟨g, 5, none⟩ = some (.slice q k c) := (hG.1 (by omega)).cell 5
          exact ⟨.slice q k c, wanted_free rfl, by simp [execOp, go_sem, h26, cc], rfl⟩
        refine OweAllC.cons (owesC_val 0 (by decide +kernel) (by decide) rfl rfl fun k' a w1 x hk ha hG hV => ?_) ?_
        · skip
          have h5 := ha.outer 5 (by decide +kernel)
          simp only [Act.eval] at h5
          exact ⟨.string ⟨xx.toArray⟩, wanted_free rfl, by simp [execOp, go_sem, h5], rfl⟩
        refine OweAllC.cons (owesC_call 0 rfl rfl rfl 40 fun a w1 x ha hG hx hV => ?_) ?_
        · skip
          have h28 : a.tmps.getD 28 undef = .string ⟨xx.toArray⟩ := hV.get 28 (by decide +kernel)
          refine ⟨#[.string ⟨xx.toArray⟩], wanted_free rfl, by simp [execOp, resolve, invoke, go_sem, h28], ?_⟩
          have st1 := hG.1 (by omega)
          have r1 := hG.2.1 (by omega)
          refine (hname.out w1).mono ?_
          rintro r u2 ⟨rfl, hb⟩
          exact ⟨_, rfl, rfl, (fun _ => st1.grow hb), (fun _ => r1.old hb), (fun h => absurd h (by omega)), (fun h => absurd h (by omega)), (fun h => absurd h (by omega))⟩
        refine OweAllC.cons (owesC_mem 1 rfl rfl rfl fun a w1 x ha hG hx hV => ?_) ?_
        · skip
          have h29 : a.tmps.getD 29 undef = .agg (vals nm.1).toArray := hV.get 29 (by decide +kernel)
          have g29 : a.tmps[29]?.getD undef = .agg (vals nm.1).toArray := by simpa using h29
          have st1 := hG.1 (by omega)
          have r1 := hG.2.1 (by omega)
          have hb : Below w1.heap.size w1 (w1.alloc (.cells (vals nm.1).toArray 25)) := (Below.refl _ _).alloc (Nat.le_refl _) _
          have hr : Rd encN (w1.alloc (.cells (vals nm.1).toArray 25)) (some ⟨w1.heap.size, 0, none⟩) [nm] := by have := Rd.made encN w1 25 [nm] (by simp [maxLen]); rw [enc_one] at this; exact this
          exact ⟨_, _, wanted_free rfl, build_name (.tmp 29) rfl nm.1 nm.2 h29, trivial, (fun _ => st1.grow hb), (fun _ => r1.old hb), (fun _ => ⟨_, rfl, hr⟩), (fun h => absurd h (by omega)), (fun h => absurd h (by omega))⟩
        refine OweAllC.cons (owesC_law 2 rfl rfl fun a w1 x ha hG hx hV => ?_) ?_
        · skip
          have h27 : a.tmps.getD 27 undef = .slice q k c := hV.get 27 (by decide +kernel)
          have h30 := hx 1 4 _ 30 rfl rfl rfl rfl
          have st1 := hG.1 (by omega)
          have r1 := hG.2.1 (by omega)
          obtain ⟨p, rfl, hr⟩ := hG.2.2.1 rfl
          refine ⟨wanted_free rfl, fun K hK => ?_⟩
          refine wp_pushR1 encN (.tmp 27) (.tmp 30) 41 25 _ 32 rfl Tryd.underlying41 info_id (id_size (s := zid) rfl) (by decide) q c k D HDl.out h27 r1 (some ⟨p, 0, none⟩) 1 nm h30 hr (by omega) ?_
          rintro q' c' w' ⟨hR, hM, hor⟩
          have hfr : ∀ a, q' = some a → g < a.block := by intro a e; rcases hor a e with h | h; exact Hfr.out a h; have := st1.lt; omega
          have st2 := st1.kept hM (by rintro i ⟨a, e, rfl⟩; have := Hfr.out a e; have := Hg.out; omega)
          exact hK _ _ (fun t ht => by cases ht; trivial) ⟨(fun _ => st2), (fun h => absurd h (by omega)), (fun h => absurd h (by omega)), (fun _ => ⟨q', c', rfl, hR, hfr⟩), (fun h => absurd h (by omega))⟩
        refine OweAllC.cons (owesC_val 3 (by decide +kernel) (by decide) rfl rfl fun k' a w1 x hk ha hG hV => ?_) ?_
        · skip
          have h3 := ha.outer 3 (by decide +kernel)
          simp only [Act.eval] at h3
          exact ⟨.pointer (some ⟨g, 5, none⟩), wanted_free rfl, by simp [execOp, go_sem, h3], rfl⟩
        refine OweAllC.cons (owesC_store 3 rfl rfl rfl fun a w1 x ha hG hx hV => ?_) ?_
        · skip
          have h32 : a.tmps.getD 32 undef = .pointer (some ⟨g, 5, none⟩) := hV.get 32 (by decide +kernel)
          have h31 := hx 2 5 _ 31 rfl rfl rfl rfl
          simp only [Act.eval] at h31
          have st1 := hG.1 (by omega)
          obtain ⟨q', c', rfl, hR, hfr⟩ := hG.2.2.2.1 rfl
          have cc : w1.cell? ⟨g, 5, none⟩ = some (.slice q k c) := st1.cell 5
          have cf := st1.froz 5
          have hR2 : Rw encN 25 (w1.setCell ⟨g, 5, none⟩ (.slice q' (k + 1) c')) q' c' (D ++ [nm]) := hR.kept ((Mod.refl (· = g) w1).setCell (p := ⟨g, 5, none⟩) (fun _ => rfl) _) (fun a e h => by have := hfr a e; omega)
          exact ⟨w1.setCell ⟨g, 5, none⟩ (.slice q' (k + 1) c'), wanted_free rfl, by simp [execOp, go_sem, h32, h31, cc, cf], (fun h => absurd h (by omega)), (fun h => absurd h (by omega)), (fun h => absurd h (by omega)), (fun h => absurd h (by omega)), (fun _ => ⟨q', c', st1.put 5 _, hR2, hfr⟩)⟩
        exact OweAllC.nil
        ) ?_
      intro f wz xz hG hx hv
      first | (rename_i hK; refine hK _ _ ?_; clear hK) | (rename_i hK _; refine hK _ _ ?_; clear hK) | (rename_i hK _ _; refine hK _ _ ?_; clear hK) | (rename_i hK _ _ _; refine hK _ _ ?_; clear hK)
      clear hv hx
      simp only [dsts, puts, List.filterMap_cons, List.filterMap_nil, List.foldl_cons, List.foldl_nil, Act.put, List.setIfInBounds_toArray, List.set_cons_succ, List.set_cons_zero]
      obtain ⟨q', c', st5, rw5, fr5⟩ : ∃ q' c', HvSt w (w.heap.size + 1) g 43 #[.int .i64 ht, .int .i64 mi, .string ⟨tk.toArray⟩, .int .i64 wi, .int .u64 (pw : Int), .slice q' (k + 1) c', .int .i64 sa] wz ∧ Rw encN 25 wz q' c' (D ++ [nm]) ∧ ∀ a, q' = some a → g < a.block := hG.2.2.2.2 rfl
      clear hG HG0
      have S5 : Hid (HvSt w (w.heap.size + 1) g 43 #[.int .i64 ht, .int .i64 mi, .string ⟨tk.toArray⟩, .int .i64 wi, .int .u64 (pw : Int), .slice q' (k + 1) c', .int .i64 sa] wz ∧ Rw encN 25 wz q' c' (D ++ [nm]) ∧ ∀ a, q' = some a → g < a.block) := Lib.hid ⟨st5, rw5, fr5⟩
      clear st5 rw5 fr5
      go_wp2_with fail
      go_roundw
      case rel => exact ⟨k + 1, q', c', by omega, by go_num, Lib.hid (by rw [Hnx.out]; exact S5.out)⟩
      case measure => simp [intOf]; omega
    · obtain rfl : k = n := by omega
      obtain ⟨st0, rw0, fr0⟩ := hst.out
      clear hst
      rw [List.take_of_length_le (by rw [List.length_map, ← Hnp.out]; exact Nat.le_refl _)] at rw0
      have box := st0.box
      obtain ⟨Z, hZs, hZ⟩ := st0.res
      obtain ⟨Y, hY⟩ : ∃ Y : Array Value, Y = #[.int .i64 ht, .int .i64 mi, .string ⟨tk.toArray⟩, .int .i64 wi, .int .u64 (pw : Int), .slice q k c, .int .i64 sa] := ⟨_, rfl⟩
      rw [← hY] at box
      have hYs : Y.size = 7 := by rw [hY]; rfl
      have q3 : (Tryd.prog.info? 43).map (·.size) = some Y.size := by rw [hYs]; exact hinfo
      have q2 : Z.size = Y.size := by rw [hZs, hYs]
      have q4 : ∀ v ∈ Y.toList, v.oneCell' = true := by
        rw [hY]; intro v hv
        simp only [List.mem_cons, List.not_mem_nil, or_false] at hv
        rcases hv with rfl | rfl | rfl | rfl | rfl | rfl | rfl <;> rfl
      have L0 := Lib.hid (setRow_heap wr (w.heap.size + 1) Z Y 43 (0, 0) hZ)
      have hlo := st0.lo
      have hne := st0.ne
      have LM : Hid (Below w.heap.size w (wr.setRow (w.heap.size + 1) Y)) := Lib.hid (st0.m.trans (((Mod.refl (fun _ => False) wr).setRow (g := w.heap.size + 1) Y).to_below st0.m.size (by rintro i hi (h | h) <;> first | exact h | omega)))
      have LR : Hid (Rw encN 25 (wr.setRow (w.heap.size + 1) Y) q c (ps.map nmOf)) := Lib.hid (rw0.kept ((Mod.refl (fun _ => False) wr).setRow (g := w.heap.size + 1) Y) (fun a e h => by have := fr0 a e; have := Hg.out; rcases h with h | h; exact h; omega))
      have Hfr := Lib.hid (fun a (e : q = some a) => by have := fr0 a e; have := Hg.out; (show w.heap.size ≤ a.block); omega)
      have HY := Lib.hid hY
      clear st0 hY rw0 fr0
      go_wp2_with (first | (refine wpList_load_row rfl 43 (.tmp 3) rfl g rfl 43 Y (0, 0) _ box Tryd.underlying43 rfl q3 ?_) | (refine wpList_store_row rfl rfl 43 (.tmp 2) (.tmp 34) rfl (w.heap.size + 1) rfl 43 Z Y rfl hZ q2 q3 q4 ?_))
      exact bodyPost_ret (v := .agg Y) (results_cell_row Tryd.results28 _ _ (w.heap.size + 1) 43 Y (0, 0) _ rfl L0.out Tryd.underlying43 rfl q3) rfl ⟨q, c, by rw [HY.out], LR.out, LM.out, Hfr.out⟩
end Go.Proofs.YtkejidmomnmdbaaDoor
