/- Table: may, with. -/
import Derived.Test.YthmgigojgagpeaaT2
namespace Go.Proofs.Ythmgigojgagpeaa
open Go.RowKit

/-- The slice holds the entries. -/
def EntsAt (w : World) (ao : Option Addr) (E : List (Nat × Nat)) : Prop :=
  ∀ j (h : j < E.length), ∃ bs off, ao = some ⟨bs, off, none⟩ ∧ bs < w.heap.size ∧ w.cell? ⟨bs, off + j * 2, none⟩ = some (.int .i64 ((E[j].1 : Nat) : Int)) ∧ w.cell? ⟨bs, off + j * 2 + 1, none⟩ = some (.int .i64 ((E[j].2 : Nat) : Int))
theorem EntsAt.old {w w' : World} {ao : Option Addr} {E : List (Nat × Nat)} (h : EntsAt w ao E) (hb : Below w.heap.size w w') : EntsAt w' ao E := by
  intro j hj
  obtain ⟨bs, off, e, hlt, c1, c2⟩ := h j hj
  exact ⟨bs, off, e, Nat.lt_of_lt_of_le hlt hb.size, (hb.cell (p := ⟨bs, off + j * 2, none⟩) hlt).trans c1, (hb.cell (p := ⟨bs, off + j * 2 + 1, none⟩) hlt).trans c2⟩
/-- Entries that may be: rising miners, powers from a least one on. -/
structure EntsOk (E : List (Nat × Nat)) (least : Nat) : Prop where
  m : ∀ e ∈ E, e.1 < 64
  p : ∀ e ∈ E, least ≤ e.2 ∧ e.2 ≤ 1099511627776
  up : ∀ j (h : j + 1 < E.length), E[j].1 < E[j + 1].1

set_option maxRecDepth 20000 in
set_option maxHeartbeats 4000000 in
theorem may_yes (ao : Option Addr) (cap least : Nat) (E : List (Nat × Nat)) (w : World) (hS : EntsAt w ao E) (hok : EntsOk E least) (hl : E.length ≤ 64) :
    Calls Try.prog 20 #[.slice ao E.length cap, .int .i64 (least : Int)] w fun r w' => r = .returned (.bool true) ∧ Below w.heap.size w w' := by
  obtain ⟨n, hn⟩ : ∃ n, E.length = n := ⟨_, rfl⟩
  rw [hn] at hl ⊢
  have Hn := Lib.hid hn
  have HS := Lib.hid hS
  have Hok := Lib.hid hok
  clear hn hS hok
  go_enter Try.func20, Try.ntmps20
  go_wp2_with fail
  go_loopw [5, 10] (fun s5 s10 wr => ∃ (i : Nat) (z : Int), i ≤ n ∧ s5 = .int .i64 z ∧ s10 = .int .i64 (i : Int) ∧ Hid (∀ h : i < E.length, z < (E[i].1 : Int)) ∧ Below w.heap.size w wr) (fun _ i _ => n - (intOf i).toNat)
  case atStart => exact ⟨0, -1, by omega, rfl, rfl, Lib.hid (fun h => by omega), Below.refl _ _⟩
  case round =>
    obtain ⟨i, z, hi, rfl, rfl, hz, hB⟩ := hrel
    by_cases hin : i < n
    · have hil : i < E.length := by rw [Hn.out]; exact hin
      obtain ⟨bs, off, rfl, hbs, c1, c2⟩ := (HS.out.old hB) i hil
      have hm := Hok.out.m E[i] (List.getElem_mem hil)
      have hp := Hok.out.p E[i] (List.getElem_mem hil)
      have hzl := hz.out hil
      have hz2 : Hid (∀ h : i + 1 < E.length, ((E[i].1 : Nat) : Int) < (E[i + 1].1 : Int)) := Lib.hid (fun h => by have := Hok.out.up i h; omega)
      obtain ⟨m, hm0⟩ : ∃ m, m = E[i].1 := ⟨_, rfl⟩
      obtain ⟨p, hp0⟩ : ∃ m, m = E[i].2 := ⟨_, rfl⟩
      rw [← hm0] at hm hzl c1
      rw [← hp0] at hp c2
      have hz3 : Hid (∀ h : i + 1 < E.length, (m : Int) < (E[i + 1].1 : Int)) := Lib.hid (fun h => by have := hz2.out h; rw [← hm0] at this; exact this)
      have i1 : (i : Int) < n := by omega
      have i0 : (0 : Int) ≤ i := by omega
      have b1 : ¬ (m : Int) ≤ z := by omega
      have b2 : ¬ (64 : Int) ≤ m := by omega
      have b2' : (m : Int) < 64 := by omega
      have b3 : ¬ (p : Int) < least := by omega
      have b4 : ¬ (1099511627776 : Int) < p := by omega
      have hB2 : Below w.heap.size w (wr.alloc (.cells #[.int .i64 (m : Int), .int .i64 (p : Int)] 48)) := hB.alloc hB.size _
      clear hz hz2 hm0 hp0 hm hp hzl
      go_wp2_with fail
      go_roundw
      case rel => exact ⟨i + 1, (m : Int), by omega, rfl, by go_num, hz3, hB2⟩
      case measure => simp [intOf]; omega
    · obtain rfl : i = n := by omega
      clear hz
      go_wp2_with fail
      go_ret
      exact ⟨rfl, hB⟩

/-- The table in which each miner of E has that power. -/
def wth (P : List Nat) (E : List (Nat × Nat)) : List Nat := E.foldl (fun Q e => Q.set e.1 e.2) P
theorem wth_take (P : List Nat) (E : List (Nat × Nat)) (i : Nat) (hi : i < E.length) : wth P (E.take (i + 1)) = (wth P (E.take i)).set E[i].1 E[i].2 := by
  unfold wth
  rw [← List.take_append_getElem hi, List.foldl_append]; rfl
theorem wth_len (P : List Nat) (E : List (Nat × Nat)) : (wth P E).length = P.length := by
  unfold wth
  induction E generalizing P with
  | nil => rfl
  | cons e E ih => rw [List.foldl_cons, ih]; simp
theorem wth_le {P : List Nat} {E : List (Nat × Nat)} {b : Nat} (hP : ∀ p ∈ P, p ≤ b) (hE : ∀ e ∈ E, e.2 ≤ b) : ∀ p ∈ wth P E, p ≤ b := by
  unfold wth
  induction E generalizing P with
  | nil => exact hP
  | cons e E ih => rw [List.foldl_cons]; exact ih (set_le hP (hE e (by simp))) (fun f hf => hE f (by simp [hf]))
theorem IsTab.wth {P : List Nat} {E : List (Nat × Nat)} {least : Nat} (h : IsTab P) (hok : EntsOk E least) : IsTab (wth P E) := ⟨by rw [wth_len]; exact h.len, wth_le h.le (fun e he => (hok.p e he).2)⟩

structure WthR (w : World) (P : List Nat) (Z : Array Value) (E : List (Nat × Nat)) (i : Nat) (Q : List Nat) (wr : World) : Prop where
  val : Q = wth P (E.take i)
  len : Q.length = 64
  row : RowAt .i64 28 wr w.heap.size Q
  res : wr.heap[w.heap.size + 1]? = some (.cells Z 28 (0, 0))
  m : Below w.heap.size w wr

set_option maxRecDepth 20000 in
set_option maxHeartbeats 8000000 in
theorem with_any (P : List Nat) (ao : Option Addr) (cap least : Nat) (E : List (Nat × Nat)) (w : World) (hP : IsTab P) (hS : EntsAt w ao E) (hok : EntsOk E least) (hl : E.length ≤ 64) :
    Calls Try.prog 21 #[tval P, .slice ao E.length cap] w fun r w' => r = .returned (tval (wth P E)) ∧ Below w.heap.size w w' := by
  obtain ⟨n, hn⟩ : ∃ n, E.length = n := ⟨_, rfl⟩
  rw [hn] at hl ⊢
  have Hn := Lib.hid hn
  have HS := Lib.hid hS
  have Hok := Lib.hid hok
  unfold tval
  obtain ⟨A, hA⟩ : ∃ A, A = (nums .i64 P).toArray := ⟨_, rfl⟩
  rw [← hA]
  have HA := Lib.hid hA
  obtain ⟨Z, hZ⟩ : ∃ Z, Z = (nums .i64 (List.replicate 64 0)).toArray := ⟨_, rfl⟩
  have hz : ∀ w : World, (zeroValue 28).run Try.prog w = .ok (.agg Z) w := by rw [hZ]; exact fun _ => by kernel_rfl
  have hPl := hP.len
  have HZ := Lib.hid hZ
  clear hn hS hok hA hZ
  go_enter Try.func21, Try.ntmps21
  go_upto_region 1 with fail
  obtain ⟨W, hW⟩ : ∃ W, W = (w.alloc (.cells A 28)).alloc (.cells Z 28) := ⟨_, rfl⟩
  have hR0 : WthR w P Z E 0 P W := by
    rw [hW]
    refine ⟨rfl, hPl, ?_, ?_, ((Below.refl _ _).alloc (Nat.le_refl _) _).alloc (by simp) _⟩
    · rw [HA.out]; exact (Below.heap_alloc _ _ _ (by simp)).trans (heap_alloc_new w _)
    · have := heap_alloc_new (w.alloc (.cells A 28)) (.cells Z 28)
      rw [World.size_alloc] at this; exact this
  rw [← hW]
  clear hW hz hP hPl
  go_wp2_with fail
  go_loopw [9] (fun s9 wr => ∃ (i : Nat) (Q : List Nat), i ≤ n ∧ s9 = .int .i64 (i : Int) ∧ WthR w P Z E i Q wr) (fun i _ => n - (intOf i).toNat)
  case atStart => exact ⟨0, _, by omega, rfl, hR0⟩
  case round =>
    clear hR0
    obtain ⟨i, Q, hi, rfl, hR⟩ := hrel
    by_cases hin : i < n
    · have hil : i < E.length := by rw [Hn.out]; exact hin
      obtain ⟨bs, off, rfl, hbs, c1, c2⟩ := (HS.out.old hR.m) i hil
      have hm := Hok.out.m E[i] (List.getElem_mem hil)
      have hv := wth_take P E i hil
      rw [← hR.val] at hv
      obtain ⟨m, hm0⟩ : ∃ m, m = E[i].1 := ⟨_, rfl⟩
      obtain ⟨p, hp0⟩ : ∃ m, m = E[i].2 := ⟨_, rfl⟩
      rw [← hm0] at hm c1 hv
      rw [← hp0] at c2 hv
      have i1 : (i : Int) < n := by omega
      have i0 : (0 : Int) ≤ i := by omega
      have m0 : (0 : Int) ≤ m := by omega
      have m1 : (m : Int) < 64 := by omega
      have hml : m < Q.length := by rw [hR.len]; exact hm
      obtain ⟨W3, hW3⟩ : ∃ W, W = wr.alloc (.cells #[.int .i64 (m : Int), .int .i64 (p : Int)] 48) := ⟨_, rfl⟩
      have hb3 : Below wr.heap.size wr W3 := by rw [hW3]; exact (Below.refl _ _).alloc (Nat.le_refl _) _
      have hrow : RowAt .i64 28 W3 w.heap.size Q := (hb3.block _ hR.row.lt).trans hR.row
      have hres : W3.heap[w.heap.size + 1]? = some (.cells Z 28 (0, 0)) := (hb3.block _ (Array.getElem?_eq_some_iff.1 hR.res).1).trans hR.res
      have hB3 := hR.m.trans (hb3.mono hR.m.size)
      have hrw : wr.heap.size < W3.heap.size := by rw [hW3]; simp
      have hst : W3.heap[wr.heap.size]? = some (.cells #[.int .i64 (m : Int), .int .i64 (p : Int)] 48 (0, 0)) := by rw [hW3]; exact heap_alloc_new _ _
      have s0 : W3.cell? ⟨wr.heap.size, 0, none⟩ = some (.int .i64 (m : Int)) := by rw [cell_of_row W3 wr.heap.size 0 _ 48 (0, 0) hst]; rfl
      have s1 : W3.cell? ⟨wr.heap.size, 1, none⟩ = some (.int .i64 (p : Int)) := by rw [cell_of_row W3 wr.heap.size 1 _ 48 (0, 0) hst]; rfl
      have cS := hrow.cell m hml
      have fS := hrow.froz m
      generalize Q[m] = old at cS
      have hN : Hid (WthR w P Z E (i + 1) (Q.set m p) (W3.setCell ⟨w.heap.size, m, none⟩ (.int .i64 (p : Int)))) := Lib.hid
        ⟨hv.symm, by rw [List.length_set]; exact hR.len, hrow.set m p, (Below.heap_setCell _ _ _ _ (by show w.heap.size + 1 ≠ w.heap.size; omega)).trans hres, hB3.setCell (p := ⟨w.heap.size, m, none⟩) (Nat.le_refl _) _⟩
      clear hm0 hp0 hv hm hR hrow hres hB3 hb3 hml hrw hst
      go_upto_region 4 with fail
      rw [← hW3]
      clear hW3
      go_wp2_with fail
      go_roundw
      case rel => exact ⟨i + 1, _, by omega, by go_num, hN.out⟩
      case measure => simp [intOf]; omega
    · obtain rfl : i = n := by omega
      have hv := hR.val
      rw [List.take_of_length_le (by rw [Hn.out]; exact Nat.le_refl _)] at hv
      subst hv
      obtain ⟨AQ, hAQ⟩ : ∃ AQ, AQ = (nums .i64 (wth P E)).toArray := ⟨_, rfl⟩
      have hQs : AQ.size = 64 := by rw [hAQ]; simp [nums_len, hR.len]
      have hrow : wr.heap[w.heap.size]? = some (.cells AQ 28 (0, 0)) := by rw [hAQ]; exact hR.row
      have hres := hR.res
      have hB := hR.m
      have hZs : Z.size = 64 := by rw [HZ.out]; simp [nums_len]
      have HAQ := Lib.hid hAQ
      clear hR hAQ
      go_wp2_with (first | (refine wpList_load_row rfl 28 (.tmp 2) rfl w.heap.size rfl 28 AQ (0, 0) _ hrow Try.underlying28 rfl ?s1 ?_) | (refine wpList_store_row rfl rfl 28 (.tmp 4) (.tmp 20) rfl (w.heap.size + 1) rfl 28 Z AQ rfl hres ?s2 ?s3 ?s4 ?_))
      case s1 => rw [hQs]; kernel_rfl
      case s2 => rw [hZs, hQs]
      case s3 => rw [hQs]; kernel_rfl
      case s4 => rw [HAQ.out]; intro v hv; exact nums_one .i64 _ v (by simpa using hv)
      have hg := setRow_heap wr (w.heap.size + 1) Z AQ 28 (0, 0) hres
      refine bodyPost_ret (v := .agg AQ) (results_cell_row Try.results21 _ _ (w.heap.size + 1) 28 AQ (0, 0) _ rfl hg Try.underlying28 rfl ?_) rfl ⟨by rw [HAQ.out], ?_⟩
      · rw [hQs]; kernel_rfl
      · exact ((Mod.of_below hB).setRow AQ).to_below (Nat.le_refl _) (by rintro k hk (h | h) <;> omega)
end Go.Proofs.Ythmgigojgagpeaa
