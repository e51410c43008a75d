/- Texts 5: what the laws lean on. -/
import Derived.Test.YtemnebbdaljfbaaGreatDoorZ4
import Derived.Test.YtemnebbdaljfbaaGreatDoorZ2
import Derived.Test.YtemnebbdaljfbaaGreatDoorZ3
import Derived.Maps.RangeWalk
import Derived.Maps.OwnSet
import Derived.WideKeyEntry
import Derived.Test.YtemnebbdaljfbaaGreatDoorZ1
import Derived.DeepKeys4
import Derived.Test.YtemnebbdaljfbaaGreatDoorSortB
set_option linter.unusedVariables false
set_option linter.unusedSimpArgs false
namespace Go.Proofs.YtemnebbdaljfbaaGreatDoor
open Go.RowKit

theorem wpList_field_hd {ops : Array Oper} {rest : List Oper} {o : Oper} {a : Act} {w : World} {Q : Exit → Act → World → Prop} (hgd : o.guard = none) (x : Operand) (ho : o.op = .field 72 x 1) (b : Blk) (hx : a.eval x = .agg b.cells.toArray)
    (h : wpList Tryz.prog ops Q rest (a.put o.dst (.agg #[.int .i64 b.h.ht, .int .i64 b.h.mi, .string ⟨b.h.tk.toArray⟩, .int .i64 b.h.wi, .int .u64 (b.h.pw : Int), .slice b.q b.h.ps.length b.c, .int .i64 b.h.sa])) w) : wpList Tryz.prog ops Q (o :: rest) a w := by
  refine wpList_plain hgd fun K hK => ?_
  have e : List.take 7 (List.drop 32 b.cells) = [.int .i64 b.h.ht, .int .i64 b.h.mi, .string ⟨b.h.tk.toArray⟩, .int .i64 b.h.wi, .int .u64 (b.h.pw : Int), .slice b.q b.h.ps.length b.c, .int .i64 b.h.sa] := by
    simp [Blk.cells, hcells, List.drop_append, vals_len, b.id.2]
  unfold Oper.wp execOp
  simp [ho, hx, Instr.field, run_underlying Tryz.underlying72, part, asAgg, e, Tryz.sizeOf41]
  exact hK _ _ h
theorem wpList_field {P : Program} {ops : Array Oper} {rest : List Oper} {o : Oper} {a : Act} {w : World} {Q : Exit → Act → World → Prop} (hgd : o.guard = none) (T : TypeId) (i : Nat) (x : Operand) (ho : o.op = .field T x i) (y v : Value) (hx : a.eval x = y) (hr : (Instr.field T y i).run P w = .ok v w)
    (h : wpList P ops Q rest (a.put o.dst v) w) : wpList P ops Q (o :: rest) a w := by
  refine wpList_plain hgd fun K hK => ?_
  unfold Oper.wp execOp
  simp only [ho, hx, Sem.run_bind, hr, Result.andThen_ok, Sem.run_pure]
  exact hK _ _ h
theorem run_fields (v0 v1 v2 v3 v4 v5 v6 : Value) (w : World) : (Instr.field 41 (.agg #[v0, v1, v2, v3, v4, v5, v6]) 0).run Tryz.prog w = .ok v0 w ∧ (Instr.field 41 (.agg #[v0, v1, v2, v3, v4, v5, v6]) 2).run Tryz.prog w = .ok v2 w ∧ (Instr.field 41 (.agg #[v0, v1, v2, v3, v4, v5, v6]) 4).run Tryz.prog w = .ok v4 w ∧ (Instr.field 41 (.agg #[v0, v1, v2, v3, v4, v5, v6]) 5).run Tryz.prog w = .ok v5 w := by
  refine ⟨?_, ?_, ?_, ?_⟩
  · simp [Instr.field, run_underlying Tryz.underlying41, part, asAgg, Tryz.isAgg3]
  · simp [Instr.field, run_underlying Tryz.underlying41, part, asAgg, Tryz.isAgg9]
  · simp [Instr.field, run_underlying Tryz.underlying41, part, asAgg, Tryz.isAgg26]
  · simp [Instr.field, run_underlying Tryz.underlying41, part, asAgg, Tryz.isAgg39]
set_option maxRecDepth 20000 in
theorem tsheight_any (p : Option Addr) (c : Nat) (b : Blk) (L : List Blk) (w : World) (hR : Rd encK w p (b :: L)) (hn : L.length ≤ 900000) :
    Calls Tryz.prog 38 #[.agg #[.slice p (L.length + 1) c]] w fun r w' => r = .returned (.int .i64 b.h.ht) ∧ Below w.heap.size w w' := by
  have hb := alloc1 w (.cells #[.slice p (L.length + 1) c] 52)
  have HB := Lib.hid hb
  have HF := Lib.hid (tsfirst_any p c b L _ (hR.old hb) hn)
  obtain ⟨n, hnl⟩ : ∃ n, n = L.length + 1 := ⟨_, rfl⟩
  rw [← hnl] at HF HB ⊢
  clear hR hb hn hnl
  go_enter Tryz.func38, Tryz.ntmps38
  go_wp2_with fail
  refine HF.out.mono ?_
  rintro e w2 ⟨rfl, hb2⟩
  have HB2 := Lib.hid (HB.out.trans (hb2.mono HB.out.size))
  clear hb2
  go_wp2_with (first | (refine wpList_field_hd rfl (.tmp 4) rfl b rfl ?_; go_frame) | (refine wpList_field rfl 41 0 (.tmp 5) rfl _ _ rfl (run_fields _ _ _ _ _ _ _ _).1 ?_; go_frame))
  go_ret
  exact ⟨rfl, HB2.out⟩
set_option maxRecDepth 20000 in
theorem tspower_any (p : Option Addr) (c : Nat) (b : Blk) (L : List Blk) (w : World) (hR : Rd encK w p (b :: L)) (hn : L.length ≤ 900000) :
    Calls Tryz.prog 58 #[.agg #[.slice p (L.length + 1) c]] w fun r w' => r = .returned (.int .u64 (b.h.pw : Int)) ∧ Below w.heap.size w w' := by
  have hb := alloc1 w (.cells #[.slice p (L.length + 1) c] 52)
  have HB := Lib.hid hb
  have HF := Lib.hid (tsfirst_any p c b L _ (hR.old hb) hn)
  obtain ⟨n, hnl⟩ : ∃ n, n = L.length + 1 := ⟨_, rfl⟩
  rw [← hnl] at HF HB ⊢
  clear hR hb hn hnl
  go_enter Tryz.func58, Tryz.ntmps58
  go_wp2_with fail
  refine HF.out.mono ?_
  rintro e w2 ⟨rfl, hb2⟩
  have HB2 := Lib.hid (HB.out.trans (hb2.mono HB.out.size))
  clear hb2
  go_wp2_with (first | (refine wpList_field_hd rfl (.tmp 4) rfl b rfl ?_; go_frame) | (refine wpList_field rfl 41 4 (.tmp 5) rfl _ _ rfl (run_fields _ _ _ _ _ _ _ _).2.2.1 ?_; go_frame))
  go_ret
  exact ⟨rfl, HB2.out⟩
/-- All wins together. -/
def winsK (L : List Blk) : Int := L.foldl (fun s b => wrap64 (s + b.h.wi)) 0
set_option maxRecDepth 20000 in
set_option maxHeartbeats 2000000 in
theorem tswins_any (p : Option Addr) (c : Nat) (L : List Blk) (w : World) (hR : Rd encK w p L) (hn : L.length ≤ 900000) :
    Calls Tryz.prog 52 #[.agg #[.slice p L.length c]] w fun r w' => r = .returned (.int .i64 (winsK L)) ∧ Below w.heap.size w w' := by
  have hb := alloc1 w (.cells #[.slice p L.length c] 52)
  have HR := Lib.hid hR
  obtain ⟨n, hnl⟩ : ∃ n, n = L.length := ⟨_, rfl⟩
  rw [← hnl] at hb hn ⊢
  have HNL := Lib.hid hnl
  have H0 := Lib.hid hb
  clear hR hb hnl
  go_enter Tryz.func52, Tryz.ntmps52
  go_wp2_with fail
  go_loopw [3, 9] (fun s3 s9 wr => ∃ k : Nat, k ≤ n ∧ s9 = .int .i64 (k : Int) ∧ s3 = .int .i64 (winsK (L.take k)) ∧ Hid (Below w.heap.size w wr)) (fun _ s9 _ => n - (intOf s9).toNat)
  case atStart => exact ⟨0, by omega, rfl, rfl, H0⟩
  case round =>
    clear H0
    obtain ⟨k, hkn, rfl, rfl, HS⟩ := hrel
    have k0 : (0 : Int) ≤ k := by omega
    by_cases hlt : k < n
    · have hlt' : (k : Int) < n := by omega
      have hkl : k < L.length := by have := HNL.out; omega
      obtain ⟨bs, off, rfl, hbs, hc⟩ := (HR.out.old HS.out) k hkl
      obtain ⟨b, hb⟩ : ∃ b, b = L[k] := ⟨_, rfl⟩
      rw [← hb] at hc
      have hcc : ∀ i u, b.cells[i]? = some u → wr.cell? ⟨bs, off + k * 39 + i, none⟩ = some u := hc
      have HCC := Lib.hid hcc
      have HNX : Hid (winsK (L.take (k + 1)) = wrap64 (winsK (L.take k) + b.h.wi)) := Lib.hid (by
        rw [List.take_succ_eq_append_getElem hkl, ← hb]
        unfold winsK
        rw [List.foldl_append]; rfl)
      have HSZ : Hid (b.cells.toArray.size = 39) := Lib.hid b.size
      have HQ3 := Lib.hid (blk_info b)
      have HQ4 : Hid (∀ v ∈ b.cells.toArray.toList, v.oneCell' = true) := Lib.hid (by simpa using b.one)
      clear hb hc hcc hbs hkl
      go_upto_region 5 with (first
        | (refine wpList_load_blk rfl (.tmp 11) rfl bs (off + k * 39) rfl b HCC.out ?_; go_frame)
        | (refine wpList_store_row rfl rfl 72 (.tmp 5) (.tmp 12) rfl wr.heap.size rfl 72 _ b.cells.toArray rfl (heap_alloc_new wr _) HSZ.out.symm HQ3.out HQ4.out ?_))
      refine wp_gen (fun W1 => W1.heap[wr.heap.size]? = some (.cells b.cells.toArray 72 (0, 0)) ∧ Below wr.heap.size wr W1) (row_new wr _ _ b.cells.toArray 72 rfl) (fun W1 hW1 => ?_)
      have c35 : W1.cell? ⟨wr.heap.size, 35, none⟩ = some (.int .i64 b.h.wi) := by
        have := blk_hd hW1.1 (i := 3) (u := .int .i64 b.h.wi) rfl
        exact this
      have HN : Hid (Below w.heap.size w W1) := Lib.hid (HS.out.trans (hW1.2.mono HS.out.size))
      clear hW1
      go_wp2_with fail
      go_roundw
      case rel => exact ⟨k + 1, by omega, by go_num, by rw [HNX.out], HN⟩
      case measure => simp [intOf]; omega
    · obtain rfl : k = n := by omega
      have hlt' : ¬ (k : Int) < k := by omega
      have HE : Hid (winsK (L.take k) = winsK L) := Lib.hid (by rw [List.take_of_length_le (by have := HNL.out; omega)])
      rw [HE.out]
      clear hlt HE
      go_wp2_with fail
      go_ret
      exact ⟨rfl, HS.out⟩
end Go.Proofs.YtemnebbdaljfbaaGreatDoor

namespace Go.Proofs.YtemnebbdaljfbaaGreatDoor
open Go.RowKit

/-- The lesser of two texts. -/
def leastS (s t : List UInt8) : List UInt8 := if Op.bytesLess s t then s else t
theorem run_min_str {P : Program} (ts : Array TypeId) (ty : TypeId) (s t : List UInt8) (w : World) : (Builtin.min_ ts ty #[.string ⟨s.toArray⟩, .string ⟨t.toArray⟩]).run P w = .ok (.string ⟨(leastS s t).toArray⟩) w := by
  unfold leastS
  cases h : Op.bytesLess s t <;> simp [Builtin.min_, Builtin.min2, Op.stringOp, asBool, h]
theorem wpList_min_str {P : Program} {ops : Array Oper} {rest : List Oper} {o : Oper} {a : Act} {w : World} {Q : Exit → Act → World → Prop} (hgd : o.guard = none) (x y : Operand) (ts : Array TypeId) (ho : o.op = .call { callee := .builtin .min, args := #[x, y], argTypes := ts }) (s t : List UInt8) (hx : a.eval x = .string ⟨s.toArray⟩) (hy : a.eval y = .string ⟨t.toArray⟩)
    (h : wpList P ops Q rest (a.put o.dst (.string ⟨(leastS s t).toArray⟩)) w) : wpList P ops Q (o :: rest) a w := by
  refine wpList_plain hgd fun K hK => ?_
  unfold Oper.wp execOp
  simp only [ho, resolve, invoke, builtin, Sem.run_bind, Sem.run_pure, Result.andThen_ok, List.map_toArray, List.map_cons, List.map_nil, hx, hy, run_min_str]
  exact hK _ _ h
/-- The least ticket from s on. -/
def tickS (s : List UInt8) (L : List Blk) : List UInt8 := L.foldl (fun s b => leastS s b.h.tk) s
theorem leastS_len (s t : List UInt8) (n : Nat) (h1 : s.length ≤ n) (h2 : t.length ≤ n) : (leastS s t).length ≤ n := by unfold leastS; split <;> assumption
theorem tickS_len (s : List UInt8) (L : List Blk) (n : Nat) (h1 : s.length ≤ n) (h2 : ∀ b ∈ L, b.h.tk.length ≤ n) : (tickS s L).length ≤ n := by
  induction L generalizing s with
  | nil => exact h1
  | cons b L ih => exact ih _ (leastS_len _ _ _ h1 (h2 b (List.mem_cons_self ..))) (fun x hx => h2 x (List.mem_cons_of_mem _ hx))
set_option maxRecDepth 20000 in
set_option maxHeartbeats 2000000 in
theorem tsticket_any (p : Option Addr) (c : Nat) (b0 : Blk) (L0 : List Blk) (w : World) (hR : Rd encK w p (b0 :: L0)) (hn : L0.length ≤ 900000) (hk : ∀ b ∈ b0 :: L0, b.h.tk.length ≤ 1000000000) :
    Calls Tryz.prog 54 #[.agg #[.slice p (L0.length + 1) c]] w fun r w' => r = .returned (.string ⟨(tickS b0.h.tk (b0 :: L0)).toArray⟩) ∧ Below w.heap.size w w' := by
  have hb := alloc1 w (.cells #[.slice p (L0.length + 1) c] 52)
  have HF := Lib.hid (tsfirst_any p c b0 L0 _ (hR.old hb) hn)
  have HCL := Lib.hid (fun w => tsclone_any (tickS b0.h.tk (b0 :: L0)) w (tickS_len _ _ _ (hk _ (List.mem_cons_self ..)) hk))
  obtain ⟨L, hL⟩ : ∃ L, L = b0 :: L0 := ⟨_, rfl⟩
  rw [← hL] at hR HCL ⊢
  have HR := Lib.hid hR
  obtain ⟨n, hnl⟩ : ∃ n, n = L0.length + 1 := ⟨_, rfl⟩
  rw [← hnl] at hb HF ⊢
  have HNL : Hid (n = L.length) := Lib.hid (by rw [hL, hnl]; rfl)
  have hn9 : n ≤ 900001 := by omega
  have hbx : (w.alloc (.cells #[.slice p n c] 52)).heap[w.heap.size]? = some (.cells #[.slice p n c] 52 (0, 0)) := heap_alloc_new w _
  have HBX := Lib.hid hbx
  have HB := Lib.hid hb
  clear hR hb hnl hL hn hk hbx
  go_enter Tryz.func54, Tryz.ntmps54
  go_wp2_with fail
  refine HF.out.mono ?_
  rintro e w2 ⟨rfl, hb2⟩
  have c0 : w2.cell? ⟨w.heap.size, 0, none⟩ = some (.slice p n c) := cell_of_row w2 _ 0 _ _ _ ((hb2.block _ (Array.getElem?_eq_some_iff.1 HBX.out).1).trans HBX.out)
  have H0 := Lib.hid (HB.out.trans (hb2.mono HB.out.size))
  clear hb2 HF
  go_wp2_with (first | (refine wpList_field_hd rfl (.tmp 7) rfl b0 rfl ?_; go_frame) | (refine wpList_field rfl 41 2 (.tmp 8) rfl _ _ rfl (run_fields _ _ _ _ _ _ _ _).2.1 ?_; go_frame))
  clear c0
  go_loopw [3, 13] (fun s3 s13 wr => ∃ k : Nat, k ≤ n ∧ s13 = .int .i64 (k : Int) ∧ s3 = .string ⟨(tickS b0.h.tk (L.take k)).toArray⟩ ∧ Hid (Below w.heap.size w wr)) (fun _ s13 _ => n - (intOf s13).toNat)
  case atStart => exact ⟨0, by omega, rfl, rfl, H0⟩
  case round =>
    clear H0
    obtain ⟨k, hkn, rfl, rfl, HS⟩ := hrel
    have k0 : (0 : Int) ≤ k := by omega
    by_cases hlt : k < n
    · have hlt' : (k : Int) < n := by omega
      have hkl : k < L.length := by have := HNL.out; omega
      obtain ⟨bs, off, rfl, hbs, hc⟩ := (HR.out.old HS.out) k hkl
      obtain ⟨b, hb⟩ : ∃ b, b = L[k] := ⟨_, rfl⟩
      rw [← hb] at hc
      have hcc : ∀ i u, b.cells[i]? = some u → wr.cell? ⟨bs, off + k * 39 + i, none⟩ = some u := hc
      have HCC := Lib.hid hcc
      obtain ⟨s, hs⟩ : ∃ s, s = tickS b0.h.tk (L.take k) := ⟨_, rfl⟩
      have HNX : Hid (tickS b0.h.tk (L.take (k + 1)) = leastS s b.h.tk) := Lib.hid (by
        rw [List.take_succ_eq_append_getElem hkl, ← hb, hs]
        unfold tickS
        rw [List.foldl_append]; rfl)
      have HSZ : Hid (b.cells.toArray.size = 39) := Lib.hid b.size
      have HQ3 := Lib.hid (blk_info b)
      have HQ4 : Hid (∀ v ∈ b.cells.toArray.toList, v.oneCell' = true) := Lib.hid (by simpa using b.one)
      rw [← hs]
      clear hb hc hcc hbs hkl hs
      go_upto_region 5 with (first
        | (refine wpList_load_blk rfl (.tmp 15) rfl bs (off + k * 39) rfl b HCC.out ?_; go_frame)
        | (refine wpList_store_row rfl rfl 72 (.tmp 5) (.tmp 16) rfl wr.heap.size rfl 72 _ b.cells.toArray rfl (heap_alloc_new wr _) HSZ.out.symm HQ3.out HQ4.out ?_))
      refine wp_gen (fun W1 => W1.heap[wr.heap.size]? = some (.cells b.cells.toArray 72 (0, 0)) ∧ Below wr.heap.size wr W1) (row_new wr _ _ b.cells.toArray 72 rfl) (fun W1 hW1 => ?_)
      have c34 : W1.cell? ⟨wr.heap.size, 34, none⟩ = some (.string ⟨b.h.tk.toArray⟩) := by
        have := blk_hd hW1.1 (i := 2) (u := .string ⟨b.h.tk.toArray⟩) rfl
        exact this
      have HN : Hid (Below w.heap.size w W1) := Lib.hid (HS.out.trans (hW1.2.mono HS.out.size))
      clear hW1
      go_wp2_with (refine wpList_min_str rfl (.tmp 17) (.tmp 20) _ rfl s b.h.tk rfl rfl ?_; go_frame)
      go_roundw
      case rel => exact ⟨k + 1, by omega, by go_num, by rw [HNX.out], HN⟩
      case measure => simp [intOf]; omega
    · obtain rfl : k = n := by omega
      have hlt' : ¬ (k : Int) < k := by omega
      have HE : Hid (tickS b0.h.tk (L.take k) = tickS b0.h.tk L) := Lib.hid (by rw [List.take_of_length_le (by have := HNL.out; omega)])
      rw [HE.out]
      clear hlt HE
      go_wp2_with fail
      refine (HCL.out _).mono ?_
      rintro e w4 ⟨rfl, hb4⟩
      have HB4 := Lib.hid (HS.out.trans (hb4.mono HS.out.size))
      clear hb4
      go_wp2_with fail
      go_ret
      exact ⟨rfl, HB4.out⟩
end Go.Proofs.YtemnebbdaljfbaaGreatDoor

namespace Go.Proofs.YtemnebbdaljfbaaGreatDoor
open Go.RowKit

set_option maxRecDepth 20000 in
set_option maxHeartbeats 2000000 in
theorem tsindexH_any (p : Option Addr) (c : Nat) (L : List Blk) (cp : Value) (P : Blk → Bool) (w : World) (hR : Rd encK w p L) (hn : L.length ≤ 900000)
    (hP : ∀ b ∈ L, ∀ w', Below w.heap.size w w' → Calls Tryz.prog 95 #[.agg b.cells.toArray, cp] w' fun r w'' => r = .returned (.bool (P b)) ∧ Below w'.heap.size w' w'') :
    Calls Tryz.prog 122 #[.slice p L.length c, .func (.func 95) #[] #[cp]] w fun r w' => (∃ i : Int, r = .returned (.int .i64 i) ∧ decide (0 ≤ i) = L.any P ∧ -1 ≤ i) ∧ Below w.heap.size w w' := by
  have HR := Lib.hid hR
  have HP := Lib.hid hP
  obtain ⟨n, hnl⟩ : ∃ n, n = L.length := ⟨_, rfl⟩
  rw [← hnl] at hn ⊢
  have HNL := Lib.hid hnl
  have H0 : Hid (Below w.heap.size w w ∧ ∀ j (h : j < 0), (L[j]?.elim false P) = false) := Lib.hid ⟨Below.refl _ _, fun j h => by omega⟩
  clear hR hP hnl
  go_enter Tryz.func122, Tryz.ntmps122
  go_wp2_with fail
  go_loopw [8] (fun s8 wr => ∃ k : Nat, k ≤ n ∧ s8 = .int .i64 (k : Int) ∧ Hid (Below w.heap.size w wr ∧ (L.take k).any P = false)) (fun s8 _ => n - (intOf s8).toNat)
  case atStart => exact ⟨0, by omega, rfl, Lib.hid ⟨H0.out.1, rfl⟩⟩
  case round =>
    clear H0
    obtain ⟨k, hkn, rfl, HS⟩ := hrel
    have k0 : (0 : Int) ≤ k := by omega
    by_cases hlt : k < n
    · have hlt' : (k : Int) < n := by omega
      have hkl : k < L.length := by have := HNL.out; omega
      obtain ⟨bs, off, rfl, hbs, hc⟩ := (HR.out.old HS.out.1) k hkl
      obtain ⟨b, hb⟩ : ∃ b, b = L[k] := ⟨_, rfl⟩
      rw [← hb] at hc
      have hcc : ∀ i u, b.cells[i]? = some u → wr.cell? ⟨bs, off + k * 39 + i, none⟩ = some u := hc
      have HCC := Lib.hid hcc
      have HCA := Lib.hid (HP.out b (hb ▸ List.getElem_mem hkl) wr HS.out.1)
      have HNX : Hid ((L.take (k + 1)).any P = ((L.take k).any P || P b)) := Lib.hid (by
        rw [List.take_succ_eq_append_getElem hkl, ← hb, List.any_append]; simp)
      have HAN : Hid (P b = true → L.any P = true) := Lib.hid (fun h => List.any_eq_true.2 ⟨b, hb ▸ List.getElem_mem hkl, h⟩)
      clear hb hc hcc hbs hkl
      go_wp2_with (refine wpList_load_blk rfl (.tmp 14) rfl bs (off + k * 39) rfl b HCC.out ?_; go_frame)
      refine HCA.out.mono ?_
      rintro e w2 ⟨rfl, hb2⟩
      cases hPb : P b with
      | true =>
        have HE : Hid (decide ((0 : Int) ≤ k) = L.any P) := Lib.hid (by rw [HAN.out hPb]; simp)
        have HB2 := Lib.hid (HS.out.1.trans (hb2.mono HS.out.1.size))
        clear hb2 hPb
        go_wp2_with fail
        go_ret
        exact ⟨⟨(k : Int), rfl, HE.out, by omega⟩, HB2.out⟩
      | false =>
        have HN : Hid (Below w.heap.size w w2 ∧ (L.take (k + 1)).any P = false) := Lib.hid ⟨HS.out.1.trans (hb2.mono HS.out.1.size), by rw [HNX.out, HS.out.2, hPb]; rfl⟩
        clear hb2 hPb
        go_wp2_with fail
        go_roundw
        case rel => exact ⟨k + 1, by omega, by go_num, HN⟩
        case measure => simp [intOf]; omega
    · obtain rfl : k = n := by omega
      have hlt' : ¬ (k : Int) < k := by omega
      have HE : Hid (decide ((0 : Int) ≤ -1) = L.any P) := Lib.hid (by
        have := HS.out.2
        rw [List.take_of_length_le (by have := HNL.out; omega)] at this
        rw [this]; rfl)
      clear hlt
      go_wp2_with fail
      go_ret
      exact ⟨⟨-1, rfl, HE.out, by decide⟩, HS.out.1⟩
set_option maxRecDepth 20000 in
theorem tsanyH_any (p : Option Addr) (c : Nat) (L : List Blk) (cp : Value) (P : Blk → Bool) (w : World) (hR : Rd encK w p L) (hn : L.length ≤ 900000)
    (hP : ∀ b ∈ L, ∀ w', Below w.heap.size w w' → Calls Tryz.prog 95 #[.agg b.cells.toArray, cp] w' fun r w'' => r = .returned (.bool (P b)) ∧ Below w'.heap.size w' w'') :
    Calls Tryz.prog 94 #[.slice p L.length c, .func (.func 95) #[] #[cp]] w fun r w' => r = .returned (.bool (L.any P)) ∧ Below w.heap.size w w' := by
  have HI := Lib.hid (tsindexH_any p c L cp P w hR hn hP)
  obtain ⟨n, hnl⟩ : ∃ n, n = L.length := ⟨_, rfl⟩
  rw [← hnl] at HI ⊢
  obtain ⟨t, ht⟩ : ∃ t, t = L.any P := ⟨_, rfl⟩
  rw [← ht] at HI ⊢
  clear hR hP hn hnl ht
  go_enter Tryz.func94, Tryz.ntmps94
  go_wp2_with fail
  refine HI.out.mono ?_
  rintro e w2 ⟨⟨i, rfl, hi, hi1⟩, hb⟩
  have HB := Lib.hid hb
  clear hb HI
  subst hi
  by_cases h0 : (0 : Int) ≤ i
  · go_wp2_with fail
    go_ret
    exact ⟨by simp [h0], HB.out⟩
  · go_wp2_with fail
    go_ret
    exact ⟨by simp [h0], HB.out⟩
set_option maxRecDepth 20000 in
set_option maxHeartbeats 2000000 in
theorem tsindexF_any (p : Option Addr) (c : Nat) (L : List Blk) (cp : Value) (P : Blk → Bool) (w : World) (hR : Rd encK w p L) (hn : L.length ≤ 900000)
    (hP : ∀ b ∈ L, ∀ w', Below w.heap.size w w' → Calls Tryz.prog 119 #[.agg b.cells.toArray, cp] w' fun r w'' => r = .returned (.bool (P b)) ∧ Below w'.heap.size w' w'') :
    Calls Tryz.prog 122 #[.slice p L.length c, .func (.func 119) #[] #[cp]] w fun r w' => (∃ i : Int, r = .returned (.int .i64 i) ∧ decide (0 ≤ i) = L.any P ∧ -1 ≤ i) ∧ Below w.heap.size w w' := by
  have HR := Lib.hid hR
  have HP := Lib.hid hP
  obtain ⟨n, hnl⟩ : ∃ n, n = L.length := ⟨_, rfl⟩
  rw [← hnl] at hn ⊢
  have HNL := Lib.hid hnl
  have H0 : Hid (Below w.heap.size w w ∧ ∀ j (h : j < 0), (L[j]?.elim false P) = false) := Lib.hid ⟨Below.refl _ _, fun j h => by omega⟩
  clear hR hP hnl
  go_enter Tryz.func122, Tryz.ntmps122
  go_wp2_with fail
  go_loopw [8] (fun s8 wr => ∃ k : Nat, k ≤ n ∧ s8 = .int .i64 (k : Int) ∧ Hid (Below w.heap.size w wr ∧ (L.take k).any P = false)) (fun s8 _ => n - (intOf s8).toNat)
  case atStart => exact ⟨0, by omega, rfl, Lib.hid ⟨H0.out.1, rfl⟩⟩
  case round =>
    clear H0
    obtain ⟨k, hkn, rfl, HS⟩ := hrel
    have k0 : (0 : Int) ≤ k := by omega
    by_cases hlt : k < n
    · have hlt' : (k : Int) < n := by omega
      have hkl : k < L.length := by have := HNL.out; omega
      obtain ⟨bs, off, rfl, hbs, hc⟩ := (HR.out.old HS.out.1) k hkl
      obtain ⟨b, hb⟩ : ∃ b, b = L[k] := ⟨_, rfl⟩
      rw [← hb] at hc
      have hcc : ∀ i u, b.cells[i]? = some u → wr.cell? ⟨bs, off + k * 39 + i, none⟩ = some u := hc
      have HCC := Lib.hid hcc
      have HCA := Lib.hid (HP.out b (hb ▸ List.getElem_mem hkl) wr HS.out.1)
      have HNX : Hid ((L.take (k + 1)).any P = ((L.take k).any P || P b)) := Lib.hid (by
        rw [List.take_succ_eq_append_getElem hkl, ← hb, List.any_append]; simp)
      have HAN : Hid (P b = true → L.any P = true) := Lib.hid (fun h => List.any_eq_true.2 ⟨b, hb ▸ List.getElem_mem hkl, h⟩)
      clear hb hc hcc hbs hkl
      go_wp2_with (refine wpList_load_blk rfl (.tmp 14) rfl bs (off + k * 39) rfl b HCC.out ?_; go_frame)
      refine HCA.out.mono ?_
      rintro e w2 ⟨rfl, hb2⟩
      cases hPb : P b with
      | true =>
        have HE : Hid (decide ((0 : Int) ≤ k) = L.any P) := Lib.hid (by rw [HAN.out hPb]; simp)
        have HB2 := Lib.hid (HS.out.1.trans (hb2.mono HS.out.1.size))
        clear hb2 hPb
        go_wp2_with fail
        go_ret
        exact ⟨⟨(k : Int), rfl, HE.out, by omega⟩, HB2.out⟩
      | false =>
        have HN : Hid (Below w.heap.size w w2 ∧ (L.take (k + 1)).any P = false) := Lib.hid ⟨HS.out.1.trans (hb2.mono HS.out.1.size), by rw [HNX.out, HS.out.2, hPb]; rfl⟩
        clear hb2 hPb
        go_wp2_with fail
        go_roundw
        case rel => exact ⟨k + 1, by omega, by go_num, HN⟩
        case measure => simp [intOf]; omega
    · obtain rfl : k = n := by omega
      have hlt' : ¬ (k : Int) < k := by omega
      have HE : Hid (decide ((0 : Int) ≤ -1) = L.any P) := Lib.hid (by
        have := HS.out.2
        rw [List.take_of_length_le (by have := HNL.out; omega)] at this
        rw [this]; rfl)
      clear hlt
      go_wp2_with fail
      go_ret
      exact ⟨⟨-1, rfl, HE.out, by decide⟩, HS.out.1⟩
set_option maxRecDepth 20000 in
theorem tsanyF_any (p : Option Addr) (c : Nat) (L : List Blk) (cp : Value) (P : Blk → Bool) (w : World) (hR : Rd encK w p L) (hn : L.length ≤ 900000)
    (hP : ∀ b ∈ L, ∀ w', Below w.heap.size w w' → Calls Tryz.prog 119 #[.agg b.cells.toArray, cp] w' fun r w'' => r = .returned (.bool (P b)) ∧ Below w'.heap.size w' w'') :
    Calls Tryz.prog 94 #[.slice p L.length c, .func (.func 119) #[] #[cp]] w fun r w' => r = .returned (.bool (L.any P)) ∧ Below w.heap.size w w' := by
  have HI := Lib.hid (tsindexF_any p c L cp P w hR hn hP)
  obtain ⟨n, hnl⟩ : ∃ n, n = L.length := ⟨_, rfl⟩
  rw [← hnl] at HI ⊢
  obtain ⟨t, ht⟩ : ∃ t, t = L.any P := ⟨_, rfl⟩
  rw [← ht] at HI ⊢
  clear hR hP hn hnl ht
  go_enter Tryz.func94, Tryz.ntmps94
  go_wp2_with fail
  refine HI.out.mono ?_
  rintro e w2 ⟨⟨i, rfl, hi, hi1⟩, hb⟩
  have HB := Lib.hid hb
  clear hb HI
  subst hi
  by_cases h0 : (0 : Int) ≤ i
  · go_wp2_with fail
    go_ret
    exact ⟨by simp [h0], HB.out⟩
  · go_wp2_with fail
    go_ret
    exact ⟨by simp [h0], HB.out⟩
end Go.Proofs.YtemnebbdaljfbaaGreatDoor

namespace Go.Proofs.YtemnebbdaljfbaaGreatDoor
open Go.RowKit

set_option maxRecDepth 20000 in
theorem wpList_eqlN {ops : Array Oper} {rest : List Oper} {o : Oper} {a : Act} {w : World} {Q : Exit → Act → World → Prop} (hgd : o.guard = none) (x y : Operand) (ho : o.op = .binOp .eql 70 x y 70) (s t : Nm) (hx : a.eval x = .agg (vals s.1).toArray) (hy : a.eval y = .agg (vals t.1).toArray)
    (h : wpList Tryz.prog ops Q rest (a.put o.dst (.bool (s.1 == t.1))) w) : wpList Tryz.prog ops Q (o :: rest) a w := by
  refine wpList_plain hgd fun K hK => ?_
  unfold Oper.wp execOp
  simp only [ho, hx, hy, Sem.run_bind, id_eql s.1 t.1 s.2 t.2, Result.andThen_ok, Sem.run_pure]
  exact hK _ _ h
set_option maxRecDepth 20000 in
theorem tshas1_any (b : Blk) (id : Nm) (g : Nat) (w : World) (hg : w.heap[g]? = some (.cells (vals id.1).toArray 70 (0, 0))) :
    Calls Tryz.prog 95 #[.agg b.cells.toArray, .pointer (some ⟨g, 0, none⟩)] w fun r w' => r = .returned (.bool (b.id.1 == id.1)) ∧ Below w.heap.size w w' := by
  have hb := alloc1 w (.cells b.cells.toArray 72)
  have hrow : (w.alloc (.cells b.cells.toArray 72)).heap[w.heap.size]? = some (.cells b.cells.toArray 72 (0, 0)) := heap_alloc_new w _
  have hg2 := (hb.block _ (Array.getElem?_eq_some_iff.1 hg).1).trans hg
  have HID : Hid (∀ i u, (encN.f b.id)[i]? = some u → (w.alloc (.cells b.cells.toArray 72)).cell? ⟨w.heap.size, 0 + i, none⟩ = some u) := Lib.hid (fun i u hu => blk_id hrow hu)
  have HIE : Hid (∀ i u, (encN.f id)[i]? = some u → (w.alloc (.cells b.cells.toArray 72)).cell? ⟨g, 0 + i, none⟩ = some u) := Lib.hid (fun i u hu => by
    rw [cell_of_row _ g (0 + i) _ _ _ hg2, Nat.zero_add, List.getElem?_toArray]; exact hu)
  have HB := Lib.hid hb
  clear hb hrow hg hg2
  go_enter Tryz.func95, Tryz.ntmps95
  go_wp2_with (first
    | (refine wpList_load_mid rfl (.tmp 4) rfl w.heap.size 0 rfl b.id HID.out ?_; go_frame)
    | (refine wpList_load_mid rfl (.tmp 1) rfl g 0 rfl id HIE.out ?_; go_frame)
    | (refine wpList_eqlN rfl (.tmp 5) (.tmp 6) rfl b.id id rfl rfl ?_; go_frame))
  go_ret
  exact ⟨rfl, HB.out⟩
set_option maxRecDepth 20000 in
set_option maxHeartbeats 1000000 in
theorem tshas_any (p : Option Addr) (c : Nat) (L : List Blk) (id : Nm) (w : World) (hR : Rd encK w p L) (hn : L.length ≤ 900000) :
    Calls Tryz.prog 60 #[.agg #[.slice p L.length c], .agg (vals id.1).toArray] w fun r w' => r = .returned (.bool (L.any fun b => b.id.1 == id.1)) ∧ Below w.heap.size w w' := by
  obtain ⟨n, hnl⟩ : ∃ n, n = L.length := ⟨_, rfl⟩
  have HAN : Hid (∀ W1 : World, Below w.heap.size w W1 → W1.heap[w.heap.size + 1]? = some (.cells (vals id.1).toArray 70 (0, 0)) → Calls Tryz.prog 94 #[.slice p n c, .func (.func 95) #[] #[.pointer (some ⟨w.heap.size + 1, 0, none⟩)]] W1 fun r w' => r = .returned (.bool (L.any fun b => b.id.1 == id.1)) ∧ Below W1.heap.size W1 w') := Lib.hid (fun W1 h1 h2 => by
    rw [hnl]
    exact tsanyH_any p c L _ _ W1 (hR.old h1) hn (fun b _ w' hb => tshas1_any b id _ w' ((hb.block _ (Array.getElem?_eq_some_iff.1 h2).1).trans h2)))
  rw [← hnl]
  clear hR hn hnl
  go_enter Tryz.func60, Tryz.ntmps60
  go_wp2_with fail
  have hb2 : Below w.heap.size w ((w.alloc (.cells #[.slice p n c] 52)).alloc (.cells (vals id.1).toArray 70)) := ((Below.refl _ w).alloc (Nat.le_refl _) _).alloc (by simp) _
  have hr2 : ((w.alloc (.cells #[.slice p n c] 52)).alloc (.cells (vals id.1).toArray 70)).heap[w.heap.size + 1]? = some (.cells (vals id.1).toArray 70 (0, 0)) := by have := heap_alloc_new (w.alloc (.cells #[.slice p n c] 52)) (.cells (vals id.1).toArray 70); simpa using this
  refine (HAN.out _ hb2 hr2).mono ?_
  rintro e w3 ⟨rfl, hb3⟩
  have HB := Lib.hid (hb2.trans (hb3.mono hb2.size))
  clear hb2 hr2 hb3
  go_wp2_with fail
  go_ret
  exact ⟨rfl, HB.out⟩
end Go.Proofs.YtemnebbdaljfbaaGreatDoor

namespace Go.Proofs.YtemnebbdaljfbaaGreatDoor
open Go.RowKit Go.Sort

theorem info_u8k : (Tryz.prog.info? 5).map (fun i => (i.zero, i.size, i.bytes)) = some (some (.int .u8 0), 1, 1) := by kernel_rfl
/-- The names, rising, each once. -/
def kset (L : List Nm) : List Nm := cpt (ksort L) (ksort L).length
/-- Their bytes. -/
def kB (M : List Nm) : List UInt8 := M.flatMap (·.1)
theorem kB_app (A : List Nm) (x : Nm) : kB (A ++ [x]) = kB A ++ x.1 := by simp [kB]
theorem kB_len (A : List Nm) : (kB A).length = A.length * 32 := by
  induction A with
  | nil => rfl
  | cons x l ih => rw [show kB (x :: l) = x.1 ++ kB l by simp [kB], List.length_append, ih, x.2, List.length_cons]; omega
theorem ksort_len (L : List Nm) : (ksort L).length = L.length := List.length_mergeSort _
theorem kset_len (L : List Nm) : (kset L).length ≤ L.length := by have := cpt_len (ksort L) _ (Nat.le_refl _); unfold kset; rw [ksort_len] at this ⊢; exact this
theorem ind_one {L : List Nm} (h : L.length < 2) : cpt L L.length = L := by
  rw [cpt_all (Nat.le_refl _) (fun j hj => by obtain rfl : j = 0 := (by omega); rfl), List.take_length]
/-- Compact, of however many. -/
theorem compactN_any (p : Option Addr) (cap : Nat) (L : List Nm) (w : World) (hL : Rw encN 70 w p cap L) (hn : L.length ≤ 1000000) :
    Calls Tryz.prog 67 #[.slice p L.length cap] w fun r w' => r = .returned (.slice p (cpt L L.length).length cap) ∧ Rw encN 70 w' p cap (cpt L L.length) ∧ Mod (fun i => ∃ a, p = some a ∧ i = a.block) w w' := by
  by_cases h2 : L.length < 2
  · rw [ind_one h2]
    refine (compact_few p L.length cap w h2).mono ?_
    rintro r w' ⟨rfl, rfl⟩
    exact ⟨rfl, hL, Mod.refl _ _⟩
  · rcases hL.shape with ⟨_, rfl, _⟩ | ⟨g, rfl, hgl, _⟩
    · exact absurd (by decide) h2
    · refine (compact_any g cap L w hL hn (by omega)).mono ?_
      rintro r w' ⟨rfl, h3, h4⟩
      exact ⟨rfl, h3, h4.mono (fun i _ e => ⟨_, rfl, e⟩)⟩

set_option maxRecDepth 20000 in
set_option maxHeartbeats 4000000 in
theorem key_any (ao : Option Addr) (cap : Nat) (L : List Nm) (w : World) (hL : Rd encN w ao L) (hao : ao = none ∨ ∃ b off, ao = some ⟨b, off, none⟩) (hn : L.length ≤ 1000000) :
    Calls Tryz.prog 37 #[.slice ao L.length cap] w fun r w' => r = .returned (.string ⟨(kB (kset L)).toArray⟩) ∧ Below w.heap.size w w' := by
  have hclone := cloneN_any ao cap L w hL hao hn
  obtain ⟨n, hnL⟩ : ∃ n, n = L.length := ⟨_, rfl⟩
  obtain ⟨F, hF⟩ : ∃ F : Ending → World → Prop, F = fun r w' => r = .returned (.string ⟨(kB (kset L)).toArray⟩) ∧ Below w.heap.size w w' := ⟨_, rfl⟩
  rw [← hF]
  have HF := Lib.hid hF
  rw [← hnL] at hn hclone ⊢
  have HC := Lib.hid hclone
  have Hn := Lib.hid hnL
  have hsort : Hid (∀ p c w, Rw encN 70 w p c L → Calls Tryz.prog 65 #[.slice p n c, .func (.func 79) #[] #[]] w fun r w' => r = .returned (.tuple #[]) ∧ Rw encN 70 w' p c (ksort L) ∧ Mod (fun i => ∃ a, p = some a ∧ i = a.block) w w') := Lib.hid (fun p c w h => by rw [hnL]; exact sort_any p c L w h (by rw [← hnL]; exact hn))
  obtain ⟨M, hM⟩ : ∃ M, M = kset L := ⟨_, rfl⟩
  obtain ⟨N, hN⟩ : ∃ N, N = M.length := ⟨_, rfl⟩
  have hNn : N ≤ n := by rw [hN, hM, hnL]; exact kset_len L
  have hcomp : Hid (∀ p c w, Rw encN 70 w p c (ksort L) → Calls Tryz.prog 67 #[.slice p n c] w fun r w' => r = .returned (.slice p N c) ∧ Rw encN 70 w' p c M ∧ Mod (fun i => ∃ a, p = some a ∧ i = a.block) w w') := Lib.hid (fun p c w h => by
    have := compactN_any p c (ksort L) w h (by rw [ksort_len, ← hnL]; exact hn)
    rw [ksort_len, ← hnL] at this
    rw [hN, hM, kset, ksort_len, ← hnL]; exact this)
  have HM := Lib.hid hM
  have HN := Lib.hid hN
  clear hF hclone hnL hM hN hL hao
  go_enter Tryz.func37, Tryz.ntmps37
  go_wp2_with (first | (refine HC.out.mono ?_; rintro r w1 ⟨p, c, rfl, hr1, hp1, hb1⟩) | (refine (hsort.out p c w1 hr1).mono ?_; rintro r w2 ⟨rfl, hr2, hm2⟩) | (refine (hcomp.out p c w2 hr2).mono ?_; rintro r w3 ⟨rfl, hr3, hm3⟩))
  have Hb : Hid (Below w.heap.size w w3) := Lib.hid (by
    have h1 := (Mod.of_below hb1).trans hm2 (fun i hi h => by obtain ⟨a, e, rfl⟩ := h; exact hp1 a e)
    have h2 := h1.trans hm3 (fun i hi h => by obtain ⟨a, e, rfl⟩ := h; exact hp1 a e)
    exact h2.to_below (Nat.le_refl _) (fun k hk h => by omega))
  have HR3 := Lib.hid hr3
  clear hr1 hp1 hb1 hr2 hm2 hr3 hm3 HC hsort hcomp
  go_loopw [4, 14] (fun s4 s14 wr => ∃ (i : Nat) (q : Option Addr) (d : Nat), i ≤ N ∧ s14 = .int .i64 (i : Int) ∧ s4 = .slice q (i * 32) d ∧ Hid (AccR encB 5 w3 (i * 32) (kB (M.take i)) q d wr)) (fun _ i _ => N - (intOf i).toNat)
  case atStart => exact ⟨0, none, 0, Nat.zero_le _, by go_num, rfl, Lib.hid (by simpa [kB] using AccR.zero encB 5 w3)⟩
  case round =>
    obtain ⟨i, q, d, hi, rfl, rfl, HB⟩ := hrel
    by_cases hlt : i < N
    · have hiM : i < M.length := by rw [← HN.out]; exact hlt
      obtain ⟨bs, off, hp, hbs, c1⟩ := (HR3.out.rd.old HB.out.m) i hiM
      have hnx : M.take (i + 1) = M.take i ++ [M[i]] := List.take_succ_eq_append_getElem hiM
      obtain ⟨x, hx⟩ : ∃ x, x = M[i] := ⟨_, rfl⟩
      rw [← hx] at c1 hnx
      subst hp
      have C1 := Lib.hid c1
      have hrl : wr.heap.size = wr.heap.size := rfl
      obtain ⟨Z, hZ⟩ : ∃ Z, Z = (vals zid).toArray := ⟨_, rfl⟩
      have hz : ∀ w, (zeroValue 70).run Tryz.prog w = .ok (.agg Z) w := by rw [hZ]; exact zid_run
      have hzs : Z.size = 32 := by rw [hZ]; exact zid_len
      have hbx : (wr.alloc (.cells Z 70)).heap[wr.heap.size]? = some (.cells Z 70 (0, 0)) := heap_alloc_new wr _
      have Hid2 : Hid (IdAt ((wr.alloc (.cells Z 70)).setRow wr.heap.size (vals x.1).toArray) wr.heap.size x.1) := Lib.hid (IdAt.stored x.2)
      have HA2 : Hid (AccR encB 5 w3 (i * 32) (kB (M.take i)) q d ((wr.alloc (.cells Z 70)).setRow wr.heap.size (vals x.1).toArray)) := Lib.hid (HB.out.below stored_below)
      have q3 := id_info x.2
      have q4 := id_one x.1
      have q2 : Z.size = (vals x.1).toArray.size := by rw [hzs, id_size x.2]
      have Hnx : Hid (kB (M.take (i + 1)) = kB (M.take i) ++ x.1) := Lib.hid (by rw [hnx, kB_app])
      have HDl : Hid ((kB (M.take i)).length = i * 32) := Lib.hid (by rw [kB_len, List.length_take, Nat.min_eq_left (by omega)])
      have Hxl : Hid (x.1.length = 32) := Lib.hid x.2
      generalize kB (M.take i) = D at HA2 Hnx HDl HB
      have i0 : (0 : Int) ≤ i := by omega
      have i1 : (i : Int) < N := by omega
      have Hlt := Lib.hid hlt
      have hnl : N ≤ 1000000 := Nat.le_trans hNn hn
      clear hx c1 hnx hZ hiM hrl hlt
      go_wp2_with (first | (refine wpList_exec rfl (exec_load_mid (.tmp 16) rfl bs (off + i * 32) rfl x C1.out) ?_) | (refine wpList_store_row rfl rfl 70 (.tmp 6) (.tmp 17) rfl wr.heap.size rfl 70 Z (vals x.1).toArray rfl hbx q2 q3 q4 ?_) | (at_builtin; refine wpList_pushR encB rfl (.tmp 18) (.tmp 19) 68 5 (.int .u8 0) 1 rfl Tryz.underlying68 info_u8k rfl (by decide) q d (i * 32) D HDl.out rfl HA2.out.s (some ⟨wr.heap.size, 0, none⟩) 32 32 x.1 Hxl.out rfl Hid2.out.rd (by omega) ?_; intro q' d' w5 hP))
      have HP : Hid (AccR encB 5 w3 ((i + 1) * 32) (kB (M.take (i + 1))) q' d' w5) := Lib.hid (by
        have h := HA2.out.push hP
        rw [Hxl.out] at h
        rw [Hnx.out, Nat.add_mul, Nat.one_mul]; exact h)
      have hlt := Hlt.out
      clear hP HA2
      go_roundw
      case rel => exact ⟨i + 1, q', d', by omega, by go_num, by rw [Nat.add_mul, Nat.one_mul], HP⟩
      case measure => simp [intOf]; omega
    · have hN : i = N := by omega
      subst hN
      have i1 : ¬ (i : Int) < i := by omega
      have ht : M.take i = M := by rw [HN.out, List.take_length]
      rw [ht] at HB
      have hcv := HB.out.s.text
      rw [HB.out.len] at hcv
      have Hfin : Hid (Below w.heap.size w wr) := Lib.hid (Hb.out.trans (HB.out.m.mono Hb.out.size))
      obtain ⟨S, hS⟩ : ∃ S, S = (⟨(kB M).toArray⟩ : ByteArray) := ⟨_, rfl⟩
      rw [← hS] at hcv
      have HS := Lib.hid hS
      clear ht hS HB
      go_wp2_with fail
      rw [HF.out]
      exact ⟨by rw [HS.out, HM.out], Hfin.out⟩
end Go.Proofs.YtemnebbdaljfbaaGreatDoor

namespace Go.Proofs.YtemnebbdaljfbaaGreatDoor
open Go.RowKit

/-- The bytes of a family, the key's bytes being K. -/
def hfam {α : Type} (h : Hd α) (K : List UInt8) : List UInt8 := numL h.ht ++ numL (pwN h.pw) ++ (numL K.length ++ K)

set_option maxRecDepth 20000 in
set_option maxHeartbeats 8000000 in
theorem hfamily_any (h : Hd Nm) (ao : Option Addr) (cap : Nat) (w : World) (hL : Rd encN w ao h.ps) (hao : ao = none ∨ ∃ b off, ao = some ⟨b, off, none⟩) (hn : h.ps.length ≤ 1000000) (hpw : h.pw < 18446744073709551616)
    (b1 : -9223372036854775808 ≤ h.ht ∧ h.ht ≤ 9223372036854775807) :
    Calls Tryz.prog 81 #[.agg (hcells h ao cap)] w fun r w' => r = .returned (.string ⟨(hfam h (kB (kset h.ps))).toArray⟩) ∧ Below w.heap.size w w' := by
  obtain ⟨ht, mi, tk, wi, pw, ps, sa⟩ := h
  simp only at hL hn hpw b1
  have n1 := numL_len ht (by have := b1.2; omega)
  have hp5 := pwN_bd pw
  have n5 := numL_len (pwN pw) (by omega)
  have hnum := Lib.hid (fun w => hnumber_any pw w hpw)
  obtain ⟨n, hnp⟩ : ∃ n, n = ps.length := ⟨_, rfl⟩
  obtain ⟨K, hK⟩ : ∃ K, K = kB (kset ps) := ⟨_, rfl⟩
  have hKl : K.length ≤ 32000000 := by rw [hK, kB_len]; have := kset_len ps; omega
  have hkey : Hid (∀ w1, Rd encN w1 ao ps → Calls Tryz.prog 37 #[.slice ao n cap] w1 fun r w' => r = .returned (.string ⟨K.toArray⟩) ∧ Below w1.heap.size w1 w') := Lib.hid (fun w1 h => by rw [hK, hnp]; exact key_any ao cap ps w1 h hao hn)
  obtain ⟨B1, hB1⟩ : ∃ B, B = numL ht := ⟨_, rfl⟩
  obtain ⟨B2, hB2⟩ : ∃ B, B = B1 ++ numL (pwN pw) := ⟨_, rfl⟩
  obtain ⟨B3, hB3⟩ : ∃ B, B = B2 ++ (numL K.length ++ K) := ⟨_, rfl⟩
  have l1 : B1.length ≤ 9 := by rw [hB1]; exact n1
  have l2 : B2.length ≤ 18 := by rw [hB2, List.length_append]; omega
  have hfin : hfam (⟨ht, mi, tk, wi, pw, ps, sa⟩ : Hd Nm) K = B3 := by rw [hB3, hB2, hB1]; rfl
  simp only
  rw [← hK, hfin]
  unfold hcells
  simp only
  rw [← hnp]
  obtain ⟨W0, hW0⟩ : ∃ W0, W0 = w.alloc (.cells #[.int .i64 ht, .int .i64 mi, .string ⟨tk.toArray⟩, .int .i64 wi, .int .u64 (pw : Int), .slice ao n cap, .int .i64 sa] 41) := ⟨_, rfl⟩
  have hbox : W0.heap[w.heap.size]? = some (.cells #[.int .i64 ht, .int .i64 mi, .string ⟨tk.toArray⟩, .int .i64 wi, .int .u64 (pw : Int), .slice ao n cap, .int .i64 sa] 41 (0, 0)) := by rw [hW0]; exact heap_alloc_new _ _
  have hbw : Below w.heap.size w W0 := by rw [hW0]; exact (Below.refl _ _).alloc (Nat.le_refl _) _
  obtain ⟨b, hb⟩ : ∃ b, b = W0.heap.size := ⟨_, rfl⟩
  have hgb : w.heap.size < b := by rw [hb]; exact (Array.getElem?_eq_some_iff.1 hbox).1
  have hmade := OutSt.made W0
  rw [← hb] at hmade
  have hread : Hid (∀ (bs : List UInt8) (w1 : World), OutSt W0 b bs w1 → w1.cell? ⟨w.heap.size, 0, none⟩ = some (.int .i64 ht) ∧ w1.cell? ⟨w.heap.size, 4, none⟩ = some (.int .u64 (pw : Int)) ∧ w1.cell? ⟨w.heap.size, 5, none⟩ = some (.slice ao n cap)) := Lib.hid (by
    intro bs w1 h1
    have hh := (h1.below.block _ hgb).trans hbox
    have hc := fun i => cell_of_row w1 w.heap.size i _ 41 (0, 0) hh
    exact ⟨hc 0, hc 4, hc 5⟩)
  have hrd : Hid (∀ (bs : List UInt8) (w1 : World), OutSt W0 b bs w1 → Rd encN w1 ao ps ∧ Below w.heap.size w w1) := Lib.hid (by
    intro bs w1 h1
    have h2 : Below w.heap.size w w1 := hbw.trans (h1.below.mono (Nat.le_of_lt hgb))
    exact ⟨hL.old h2, h2⟩)
  have HB1 := Lib.hid hB1
  have HB2 := Lib.hid hB2
  have HB3 := Lib.hid hB3
  have HW0 := Lib.hid hW0
  have Hb2 : Hid (w.heap.size + 1 = b) := Lib.hid (by rw [hb, hW0, World.size_alloc])
  clear hB1 hB2 hB3 hnp hfin hbox hbw hW0 hb hL n1 n5 hK hao
  go_enter Tryz.func81, Tryz.ntmps81
  go_wp2_with fail
  rw [← HW0.out, Hb2.out]
  have HG0 : Hid ((fun (j : Nat) (_ : Value) (w1 : World) => OutSt W0 b (match j with | 0 => [] | 1 => B1 | 2 => B2 | _ => B3) w1) 0 undef (W0.alloc (.cells #[.slice none 0 0] 146)).drew) := Lib.hid (by
    obtain ⟨v, h1, h2, h3⟩ := hmade
    exact ⟨v, h1.kept (Mod.drew (Mod.refl (fun _ => False) _)) (fun h => h) (fun _ _ h => h), h2, h3.drew⟩)
  clear hmade
  generalize W0.alloc (.cells #[.slice none 0 0] 146) = W1 at HG0 ⊢
  generalize hgg : w.heap.size = g at hread hrd hgb ⊢
  have HGG : Hid (g = w.heap.size) := Lib.hid hgg.symm
  clear hgg
  refine wp_region_chain (fun t v => match t with
    | 4 => v = .pointer (some ⟨g, 0, none⟩)
    | 5 => v = .int .i64 ht
    | 6 => v = .pointer (some ⟨b, 0, none⟩)
    | 7 => v = .pointer (some ⟨g, 4, none⟩)
    | 8 => v = .int .u64 (pw : Int)
    | 9 => v = .int .i64 (pwN pw)
    | 10 => v = .pointer (some ⟨b, 0, none⟩)
    | 11 => v = .pointer (some ⟨g, 5, none⟩)
    | 12 => v = .slice ao n cap
    | 13 => v = .string ⟨K.toArray⟩
    | 14 => v = .pointer (some ⟨b, 0, none⟩)
    | 15 => v = .string ⟨B3.toArray⟩
    | 2 => v = .string ⟨B3.toArray⟩
    | _ => True) (fun (j : Nat) (_ : Value) (w1 : World) => OutSt W0 b (match j with | 0 => [] | 1 => B1 | 2 => B2 | _ => B3) w1) [2, 6, 10, 11] 16 (by kernel_rfl) (by decide +kernel) rfl (by decide +kernel) (by decide) (by decide) HG0.out (by
    refine OweAllC.cons (owesC_val 0 (by decide +kernel) (by decide) rfl rfl fun k' a w1 x hk ha hG hV => ?_) ?_
    · skip
      have h1 := ha.outer 1 (by decide +kernel)
      simp only [Act.eval] at h1
      exact ⟨.pointer (some ⟨g, 0, none⟩), wanted_free rfl, by simp [execOp, go_sem, h1], rfl⟩
    refine OweAllC.cons (owesC_val 0 (by decide +kernel) (by decide) rfl rfl fun k' a w1 x hk ha hG hV => ?_) ?_
    · skip
      have h4 : a.tmps.getD 4 undef = .pointer (some ⟨g, 0, none⟩) := hV.get 4 (by decide +kernel)
      have cc := hread.out _ w1 hG
      exact ⟨.int .i64 ht, wanted_free rfl, by simp [execOp, go_sem, h4, cc.1], rfl⟩
    refine OweAllC.cons (owesC_call 0 rfl rfl rfl 107 fun a w1 x ha hG hx hV => ?_) ?_
    · skip
      have h3 := ha.outer 3 (by decide +kernel)
      simp only [Act.eval] at h3
      have h5 : a.tmps.getD 5 undef = .int .i64 ht := hV.get 5 (by decide +kernel)
      refine ⟨#[.pointer (some ⟨b, 0, none⟩), .int .i64 ht], wanted_free rfl, by simp [execOp, resolve, invoke, go_sem, h3, h5], ?_⟩
      refine (out_num W0 b [] ht w1 hG (by simp) b1.1 b1.2).mono ?_
      rintro r u2 ⟨rfl, hO⟩; exact ⟨_, rfl, rfl, by rw [List.nil_append, ← HB1.out] at hO; exact hO⟩
    refine OweAllC.cons (owesC_val 1 (by decide +kernel) (by decide) rfl rfl fun k' a w1 x hk ha hG hV => ?_) ?_
    · skip
      have h1 := ha.outer 1 (by decide +kernel)
      simp only [Act.eval] at h1
      exact ⟨.pointer (some ⟨g, 4, none⟩), wanted_free rfl, by simp [execOp, go_sem, h1], rfl⟩
    refine OweAllC.cons (owesC_val 1 (by decide +kernel) (by decide) rfl rfl fun k' a w1 x hk ha hG hV => ?_) ?_
    · skip
      have h7 : a.tmps.getD 7 undef = .pointer (some ⟨g, 4, none⟩) := hV.get 7 (by decide +kernel)
      have cc := hread.out _ w1 hG
      exact ⟨.int .u64 (pw : Int), wanted_free rfl, by simp [execOp, go_sem, h7, cc.2.1], rfl⟩
    refine OweAllC.cons (owesC_side 1 (by decide +kernel) (by decide) rfl rfl 109 fun k' a w1 x hk ha hG hV => ?_) ?_
    · skip
      have h8 : a.tmps.getD 8 undef = .int .u64 (pw : Int) := hV.get 8 (by decide +kernel)
      refine ⟨#[.int .u64 (pw : Int)], wanted_free rfl, by simp [execOp, resolve, invoke, go_sem, h8], ?_⟩
      refine (hnum.out w1).mono ?_
      rintro r u2 ⟨rfl, rfl⟩; exact ⟨_, rfl, rfl, hG⟩
    refine OweAllC.cons (owesC_call 1 rfl rfl rfl 107 fun a w1 x ha hG hx hV => ?_) ?_
    · skip
      have h6 : a.tmps.getD 6 undef = .pointer (some ⟨b, 0, none⟩) := hV.get 6 (by decide +kernel)
      have h9 : a.tmps.getD 9 undef = .int .i64 (pwN pw) := hV.get 9 (by decide +kernel)
      refine ⟨#[.pointer (some ⟨b, 0, none⟩), .int .i64 (pwN pw)], wanted_free rfl, by simp [execOp, resolve, invoke, go_sem, h6, h9], ?_⟩
      refine (out_num W0 b B1 (pwN pw) w1 hG (by omega) (by omega) (by omega)).mono ?_
      rintro r u2 ⟨rfl, hO⟩; exact ⟨_, rfl, rfl, by rw [← HB2.out] at hO; exact hO⟩
    refine OweAllC.cons (owesC_val 2 (by decide +kernel) (by decide) rfl rfl fun k' a w1 x hk ha hG hV => ?_) ?_
    · skip
      have h1 := ha.outer 1 (by decide +kernel)
      simp only [Act.eval] at h1
      exact ⟨.pointer (some ⟨g, 5, none⟩), wanted_free rfl, by simp [execOp, go_sem, h1], rfl⟩
    refine OweAllC.cons (owesC_val 2 (by decide +kernel) (by decide) rfl rfl fun k' a w1 x hk ha hG hV => ?_) ?_
    · skip
      have h11 : a.tmps.getD 11 undef = .pointer (some ⟨g, 5, none⟩) := hV.get 11 (by decide +kernel)
      have cc := hread.out _ w1 hG
      exact ⟨.slice ao n cap, wanted_free rfl, by simp [execOp, go_sem, h11, cc.2.2], rfl⟩
    refine OweAllC.cons (owesC_side 2 (by decide +kernel) (by decide) rfl rfl 37 fun k' a w1 x hk ha hG hV => ?_) ?_
    · skip
      have h12 : a.tmps.getD 12 undef = .slice ao n cap := hV.get 12 (by decide +kernel)
      refine ⟨#[.slice ao n cap], wanted_free rfl, by simp [execOp, resolve, invoke, go_sem, h12], ?_⟩
      refine (hkey.out w1 (hrd.out _ w1 hG).1).mono ?_
      rintro r u2 ⟨rfl, hb⟩; exact ⟨_, rfl, rfl, hG.old hb⟩
    refine OweAllC.cons (owesC_call 2 rfl rfl rfl 108 fun a w1 x ha hG hx hV => ?_) ?_
    · skip
      have h10 : a.tmps.getD 10 undef = .pointer (some ⟨b, 0, none⟩) := hV.get 10 (by decide +kernel)
      have h13 : a.tmps.getD 13 undef = .string ⟨K.toArray⟩ := hV.get 13 (by decide +kernel)
      refine ⟨#[.pointer (some ⟨b, 0, none⟩), .string ⟨K.toArray⟩], wanted_free rfl, by simp [execOp, resolve, invoke, go_sem, h10, h13], ?_⟩
      refine (out_text W0 b B2 K w1 hG (by omega) (by omega)).mono ?_
      rintro r u2 ⟨rfl, hO⟩; exact ⟨_, rfl, rfl, by rw [← HB3.out] at hO; exact hO⟩
    refine OweAllC.cons (owesC_call 3 rfl rfl rfl 111 fun a w1 x ha hG hx hV => ?_) ?_
    · skip
      have h14 : a.tmps.getD 14 undef = .pointer (some ⟨b, 0, none⟩) := hV.get 14 (by decide +kernel)
      refine ⟨#[.pointer (some ⟨b, 0, none⟩)], wanted_free rfl, by simp [execOp, resolve, invoke, go_sem, h14], ?_⟩
      refine (out_bytes W0 b B3 w1 hG).mono ?_
      rintro r u2 ⟨rfl, rfl⟩; exact ⟨_, rfl, rfl, hG⟩
    refine OweAllC.cons (owesC_val 4 (by decide +kernel) (by decide) rfl rfl fun k' a w1 x hk ha hG hV => ?_) ?_
    · skip
      have h15 : a.tmps.getD 15 undef = .string ⟨B3.toArray⟩ := hV.get 15 (by decide +kernel)
      exact ⟨.string ⟨B3.toArray⟩, wanted_free rfl, by simp [execOp, go_sem, h15], rfl⟩
    exact OweAllC.nil
    ) ?_
  intro f wz xz hG hx hv
  have e2 : f 2 = .string ⟨B3.toArray⟩ := hv 12 _ 2 rfl rfl
  first | (rename_i hK; refine hK _ _ ?_; clear hK) | (rename_i hK _; refine hK _ _ ?_; clear hK) | (rename_i hK _ _; refine hK _ _ ?_; clear hK) | (rename_i hK _ _ _; refine hK _ _ ?_; clear hK)
  clear hv hx
  simp only [dsts, puts, List.filterMap_cons, List.filterMap_nil, List.foldl_cons, List.foldl_nil, Act.put, List.setIfInBounds_toArray, List.set_cons_succ, List.set_cons_zero, e2]
  clear e2
  have hG5 : OutSt W0 b B3 wz := hG
  have hB5 := Lib.hid (hrd.out _ wz hG5).2
  clear hG HG0 hG5
  go_wp2_with fail
  go_ret
  exact ⟨rfl, HGG.out ▸ hB5.out⟩
end Go.Proofs.YtemnebbdaljfbaaGreatDoor

namespace Go.Proofs.YtemnebbdaljfbaaGreatDoor
open Go.RowKit

theorem Rw.addr {α : Type} {E : Enc α} {T : TypeId} {w : World} {p : Option Addr} {c : Nat} {L : List α} (h : Rw E T w p c L) : p = none ∨ ∃ b off, p = some ⟨b, off, none⟩ := by
  rcases h.shape with ⟨e, _⟩ | ⟨g, e, _⟩
  · exact .inl e
  · exact .inr ⟨g, 0, e⟩
set_option maxRecDepth 20000 in
theorem tsparents_any (p : Option Addr) (c : Nat) (b : Blk) (L : List Blk) (w : World) (hR : Rd encK w p (b :: L)) (hn : L.length ≤ 900000) (hb : okK w b) :
    Calls Tryz.prog 57 #[.agg #[.slice p (L.length + 1) c]] w fun r w' => r = .returned (.string ⟨(kB (kset b.h.ps)).toArray⟩) ∧ Below w.heap.size w w' := by
  have hb1 := alloc1 w (.cells #[.slice p (L.length + 1) c] 52)
  have HB := Lib.hid hb1
  have HF := Lib.hid (tsfirst_any p c b L _ (hR.old hb1) hn)
  have HKY := Lib.hid (fun w' (h : Below w.heap.size w w') => key_any b.q b.c b.h.ps w' (hb.rd.old h) hb.ad hb.n)
  obtain ⟨n, hnl⟩ : ∃ n, n = L.length + 1 := ⟨_, rfl⟩
  rw [← hnl] at HF HB ⊢
  clear hR hb hb1 hn hnl
  go_enter Tryz.func57, Tryz.ntmps57
  go_wp2_with fail
  refine HF.out.mono ?_
  rintro e w2 ⟨rfl, hb2⟩
  have HB2 := Lib.hid (HB.out.trans (hb2.mono HB.out.size))
  clear hb2
  go_wp2_with (first | (refine wpList_field_hd rfl (.tmp 4) rfl b rfl ?_; go_frame) | (refine wpList_field rfl 41 5 (.tmp 5) rfl _ _ rfl (run_fields _ _ _ _ _ _ _ _).2.2.2 ?_; go_frame))
  refine (HKY.out _ HB2.out).mono ?_
  rintro e w3 ⟨rfl, hb3⟩
  have HB3 := Lib.hid (HB2.out.trans (hb3.mono HB2.out.size))
  clear hb3
  go_wp2_with fail
  go_ret
  exact ⟨rfl, HB3.out⟩
/-- The names of blocks gathered. -/
structure NmR (W wr : World) (L : List Blk) (k : Nat) (q : Option Addr) (c : Nat) : Prop where
  rw : Rw encN 70 wr q c ((L.take k).map (·.id))
  b : Below W.heap.size W wr
  f : ∀ a, q = some a → W.heap.size ≤ a.block
set_option maxRecDepth 20000 in
set_option maxHeartbeats 2000000 in
theorem tskey_any (p : Option Addr) (c : Nat) (L : List Blk) (w : World) (hR : Rd encK w p L) (hn : L.length ≤ 900000) :
    Calls Tryz.prog 50 #[.agg #[.slice p L.length c]] w fun r w' => r = .returned (.string ⟨(kB (kset (L.map (·.id)))).toArray⟩) ∧ Below w.heap.size w w' := by
  have hb := alloc1 w (.cells #[.slice p L.length c] 52)
  have HR := Lib.hid hR
  obtain ⟨n, hnl⟩ : ∃ n, n = L.length := ⟨_, rfl⟩
  rw [← hnl] at hb hn ⊢
  have HNL := Lib.hid hnl
  have H0 : Hid (NmR w (w.alloc (.cells #[.slice p n c] 52)) L 0 none 0) := Lib.hid ⟨Rw.empty _ _, hb, fun a e => by cases e⟩
  clear hR hb hnl
  go_enter Tryz.func50, Tryz.ntmps50
  go_wp2_with fail
  go_loopw [3, 9] (fun s3 s9 wr => ∃ (k : Nat) (q : Option Addr) (cq : Nat), k ≤ n ∧ s9 = .int .i64 (k : Int) ∧ s3 = .slice q k cq ∧ Hid (NmR w wr L k q cq)) (fun _ s9 _ => n - (intOf s9).toNat)
  case atStart => exact ⟨0, none, 0, by omega, rfl, rfl, H0⟩
  case round =>
    clear H0
    obtain ⟨k, q, cq, hkn, rfl, rfl, HS⟩ := hrel
    have k0 : (0 : Int) ≤ k := by omega
    by_cases hlt : k < n
    · have hlt' : (k : Int) < n := by omega
      have hkl : k < L.length := by have := HNL.out; omega
      obtain ⟨bs, off, rfl, hbs, hc⟩ := (HR.out.old HS.out.b) k hkl
      obtain ⟨b, hb⟩ : ∃ b, b = L[k] := ⟨_, rfl⟩
      rw [← hb] at hc
      have hcc : ∀ i u, b.cells[i]? = some u → wr.cell? ⟨bs, off + k * 39 + i, none⟩ = some u := hc
      have HCC := Lib.hid hcc
      obtain ⟨D, hD⟩ : ∃ D, D = (L.take k).map (·.id) := ⟨_, rfl⟩
      have HNX : Hid ((L.take (k + 1)).map (·.id) = D ++ [b.id]) := Lib.hid (by
        rw [List.take_succ_eq_append_getElem hkl, ← hb, hD, List.map_append]; rfl)
      have HDL : Hid (D.length = k) := Lib.hid (by rw [hD, List.length_map, List.length_take]; omega)
      have HRW : Hid (Rw encN 70 wr q cq D) := Lib.hid (hD ▸ HS.out.rw)
      have HSZ : Hid (b.cells.toArray.size = 39) := Lib.hid b.size
      have HQ3 := Lib.hid (blk_info b)
      have HQ4 : Hid (∀ v ∈ b.cells.toArray.toList, v.oneCell' = true) := Lib.hid (by simpa using b.one)
      clear hb hc hcc hbs hkl hD
      go_upto_region 5 with (first
        | (refine wpList_load_blk rfl (.tmp 11) rfl bs (off + k * 39) rfl b HCC.out ?_; go_frame)
        | (refine wpList_store_row rfl rfl 72 (.tmp 5) (.tmp 12) rfl wr.heap.size rfl 72 _ b.cells.toArray rfl (heap_alloc_new wr _) HSZ.out.symm HQ3.out HQ4.out ?_))
      refine wp_gen (fun W1 => W1.heap[wr.heap.size]? = some (.cells b.cells.toArray 72 (0, 0)) ∧ Below wr.heap.size wr W1) (row_new wr _ _ b.cells.toArray 72 rfl) (fun W1 hW1 => ?_)
      have HID : Hid (∀ i u, (encN.f b.id)[i]? = some u → W1.cell? ⟨wr.heap.size, 0 + i, none⟩ = some u) := Lib.hid (fun i u hu => blk_id hW1.1 hu)
      have hb5 : Below W1.heap.size W1 (W1.alloc (.cells (vals b.id.1).toArray 70)) := (Below.refl _ _).alloc (Nat.le_refl _) _
      have HRW2 := Lib.hid ((HRW.out.old hW1.2).old hb5)
      have HRD : Hid (Rd encN (W1.alloc (.cells (vals b.id.1).toArray 70)) (some ⟨W1.heap.size, 0, none⟩) [b.id]) := Lib.hid (by have := Rd.made encN W1 70 [b.id] (by simp [maxLen]); rw [enc_one] at this; exact this)
      have HN : Hid (Below w.heap.size w (W1.alloc (.cells (vals b.id.1).toArray 70))) := Lib.hid (by
        have h1 := HS.out.b.trans (hW1.2.mono HS.out.b.size)
        exact h1.trans (hb5.mono h1.size))
      have HNB : Hid (k + 1 ≤ 100000000000) := Lib.hid (by omega)
      clear hW1 hb5
      go_wp2_with (first
        | (refine wpList_load_mid rfl (.tmp 14) rfl wr.heap.size 0 rfl b.id HID.out ?_; go_frame)
        | (refine wpList_exec rfl (build_name (.tmp 15) rfl b.id.1 b.id.2 rfl) ?_; go_frame)
        | (refine wpList_pushR encN rfl (.tmp 13) (.tmp 16) 39 70 (.agg (vals zid).toArray) 32 rfl Tryz.underlying39 info_id (id_size (s := zid) rfl) (by decide) q cq k D HDL.out rfl HRW2.out (some ⟨W1.heap.size, 0, none⟩) 1 1 [b.id] rfl rfl HRD.out HNB.out ?_; intro q2 c2 w4 hP; have HP := Lib.hid hP; clear hP; go_frame))
      have HNN : Hid (NmR w w4 L (k + 1) q2 c2) := Lib.hid ⟨by rw [HNX.out]; exact HP.out.1, HN.out.trans (HP.out.2.1.to_below HN.out.size (by rintro i hi ⟨a, e, rfl⟩; have := HS.out.f a e; omega)), fun a e => (HP.out.2.2 a e).elim (HS.out.f a) (fun q => Nat.le_trans HN.out.size q)⟩
      clear HP HN HRD HRW2 HID
      go_roundw
      case rel => exact ⟨k + 1, q2, c2, by omega, by go_num, rfl, HNN⟩
      case measure => simp [intOf]; omega
    · obtain rfl : k = n := by omega
      have hlt' : ¬ (k : Int) < k := by omega
      have hrw := HS.out.rw
      rw [List.take_of_length_le (by have := HNL.out; omega)] at hrw
      have HKY := Lib.hid (key_any q cq (L.map (·.id)) wr hrw.rd hrw.addr (by rw [List.length_map]; have := HNL.out; omega))
      rw [List.length_map, ← HNL.out] at HKY
      clear hlt hrw
      go_wp2_with fail
      refine HKY.out.mono ?_
      rintro e w4 ⟨rfl, hb4⟩
      have HB4 := Lib.hid (HS.out.b.trans (hb4.mono HS.out.b.size))
      clear hb4
      go_wp2_with fail
      go_ret
      exact ⟨rfl, HB4.out⟩
end Go.Proofs.YtemnebbdaljfbaaGreatDoor

namespace Go.Proofs.YtemnebbdaljfbaaGreatDoor
open Go.RowKit

/-- A block's family. -/
def famK (b : Blk) : List UInt8 := hfam b.h (kB (kset b.h.ps))
set_option maxRecDepth 20000 in
set_option maxHeartbeats 2000000 in
theorem tsfam1_any (b : Blk) (s : List UInt8) (g : Nat) (w : World) (hg : w.heap[g]? = some (.cells #[.string ⟨s.toArray⟩] 9 (0, 0))) (hb : okK w b) (hpw : b.h.pw < 18446744073709551616) (b1 : -9223372036854775808 ≤ b.h.ht ∧ b.h.ht ≤ 9223372036854775807) :
    Calls Tryz.prog 119 #[.agg b.cells.toArray, .pointer (some ⟨g, 0, none⟩)] w fun r w' => r = .returned (.bool (!(famK b == s))) ∧ Below w.heap.size w w' := by
  have HFA := Lib.hid (fun w' (h : Below w.heap.size w w') => hfamily_any b.h b.q b.c w' (hb.rd.old h) hb.ad hb.n hpw b1)
  obtain ⟨fam, hfam⟩ : ∃ f, f = famK b := ⟨_, rfl⟩
  have HFB : Hid (∀ w', Below w.heap.size w w' → Calls Tryz.prog 81 #[.agg (hcells b.h b.q b.c)] w' fun r w'' => r = .returned (.string ⟨fam.toArray⟩) ∧ Below w'.heap.size w' w'') := Lib.hid (by rw [hfam]; exact HFA.out)
  rw [← hfam]
  have HGS := Lib.hid hg
  clear hb hpw b1 HFA hfam hg
  go_enter Tryz.func119, Tryz.ntmps119
  go_wp2_with fail
  refine wp_gen (fun W0 => Below w.heap.size w W0 ∧ W0.heap[w.heap.size]? = some (.cells b.cells.toArray 72 (0, 0))) ⟨alloc1 w _, heap_alloc_new w _⟩ (fun W0 hW0 => ?_)
  obtain ⟨hb0, hrow0⟩ := hW0
  have HB0 := Lib.hid hb0
  have HRO := Lib.hid hrow0
  have HSC : Hid (W0.heap[g]? = some (.cells #[.string ⟨s.toArray⟩] 9 (0, 0))) := Lib.hid ((hb0.block _ (Array.getElem?_eq_some_iff.1 HGS.out).1).trans HGS.out)
  obtain ⟨gb, hgb⟩ : ∃ x, x = w.heap.size := ⟨_, rfl⟩
  rw [← hgb] at HRO
  rw [← hgb]
  clear hb0 hrow0 HGS hgb
  have HG0 : Hid ((fun (_ : Nat) (_ : Value) (w1 : World) => Below W0.heap.size W0 w1) 0 undef W0.drew) := Lib.hid (Below.refl _ W0).drew
  refine wp_region_chain (fun t v => match t with
    | 4 => v = .pointer (some ⟨gb, 32, none⟩)
    | 5 => v = .agg (hcells b.h b.q b.c)
    | 6 => v = .string ⟨fam.toArray⟩
    | 7 => v = .string ⟨s.toArray⟩
    | 8 => v = .bool (!(fam == s))
    | 3 => v = .bool (!(fam == s))
    | _ => True) (fun (_ : Nat) (_ : Value) (w1 : World) => Below W0.heap.size W0 w1) [2] 9 (by kernel_rfl) (by decide +kernel) rfl (by decide +kernel) (by decide) (by decide) HG0.out (by
    refine OweAllC.cons (owesC_val 0 (by decide +kernel) (by decide) rfl rfl fun k' a w1 x hk ha hG hV => ?_) ?_
    · skip
      have h2 := ha.outer 2 (by decide +kernel)
      simp only [Act.eval] at h2
      exact ⟨.pointer (some ⟨gb, 32, none⟩), wanted_free rfl, by simp [execOp, go_sem, h2], rfl⟩
    refine OweAllC.cons (owesC_val 0 (by decide +kernel) (by decide) rfl rfl fun k' a w1 x hk ha hG hV => ?_) ?_
    · skip
      have h4 : a.tmps.getD 4 undef = .pointer (some ⟨gb, 32, none⟩) := hV.get 4 (by decide +kernel)
      have hrow := (hG.block _ (Array.getElem?_eq_some_iff.1 HRO.out).1).trans HRO.out
      exact ⟨.agg (hcells b.h b.q b.c), wanted_free rfl, exec_load_hd (.tmp 4) rfl gb 32 h4 b.h b.q b.c (fun i u hu => blk_hd hrow hu), rfl⟩
    refine OweAllC.cons (owesC_call 0 rfl rfl rfl 81 fun a w1 x ha hG hx hV => ?_) ?_
    · skip
      have h5 : a.tmps.getD 5 undef = .agg (hcells b.h b.q b.c) := hV.get 5 (by decide +kernel)
      refine ⟨#[.agg (hcells b.h b.q b.c)], wanted_free rfl, by simp [execOp, resolve, invoke, go_sem, h5], ?_⟩
      refine (HFB.out w1 (HB0.out.trans (hG.mono HB0.out.size))).mono ?_
      rintro r u2 ⟨rfl, hb⟩
      exact ⟨_, rfl, rfl, hG.trans (hb.mono hG.size)⟩
    refine OweAllC.cons (owesC_val 1 (by decide +kernel) (by decide) rfl rfl fun k' a w1 x hk ha hG hV => ?_) ?_
    · skip
      have h1 := ha.outer 1 (by decide +kernel)
      simp only [Act.eval] at h1
      have cc : w1.cell? ⟨g, 0, none⟩ = some (.string ⟨s.toArray⟩) := cell_of_row w1 g 0 _ _ _ ((hG.block _ (Array.getElem?_eq_some_iff.1 HSC.out).1).trans HSC.out)
      exact ⟨.string ⟨s.toArray⟩, wanted_free rfl, by simp [execOp, go_sem, h1, cc], rfl⟩
    refine OweAllC.cons (owesC_val 1 (by decide +kernel) (by decide) rfl rfl fun k' a w1 x hk ha hG hV => ?_) ?_
    · skip
      have h6 : a.tmps.getD 6 undef = .string ⟨fam.toArray⟩ := hV.get 6 (by decide +kernel)
      have h7 : a.tmps.getD 7 undef = .string ⟨s.toArray⟩ := hV.get 7 (by decide +kernel)
      exact ⟨.bool (!(fam == s)), wanted_free rfl, by simp [execOp, go_sem, h6, h7], rfl⟩
    refine OweAllC.cons (owesC_val 1 (by decide +kernel) (by decide) rfl rfl fun k' a w1 x hk ha hG hV => ?_) ?_
    · skip
      have h8 : a.tmps.getD 8 undef = .bool (!(fam == s)) := hV.get 8 (by decide +kernel)
      exact ⟨.bool (!(fam == s)), wanted_free rfl, by simp [execOp, go_sem, h8], rfl⟩
    exact OweAllC.nil
    ) ?_
  intro f wz xz hG hx hv
  have e3 : f 3 = .bool (!(fam == s)) := hv 5 _ 3 rfl rfl
  first | (rename_i hK; refine hK _ _ ?_; clear hK) | (rename_i hK _; refine hK _ _ ?_; clear hK) | (rename_i hK _ _; refine hK _ _ ?_; clear hK) | (rename_i hK _ _ _; refine hK _ _ ?_; clear hK)
  clear hv hx
  simp only [dsts, puts, List.filterMap_cons, List.filterMap_nil, List.foldl_cons, List.foldl_nil, Act.put, List.setIfInBounds_toArray, List.set_cons_succ, List.set_cons_zero, e3]
  clear e3
  have HE := Lib.hid (HB0.out.trans (hG.mono HB0.out.size))
  clear hG HG0
  go_wp2_with fail
  go_ret
  exact ⟨rfl, HE.out⟩
end Go.Proofs.YtemnebbdaljfbaaGreatDoor

namespace Go.Proofs.YtemnebbdaljfbaaGreatDoor
open Go.RowKit

/-- Whose family can be told. -/
structure famOk (w : World) (b : Blk) : Prop where
  ok : okK w b
  pw : b.h.pw < 18446744073709551616
  b1 : -9223372036854775808 ≤ b.h.ht ∧ b.h.ht ≤ 9223372036854775807
theorem famOk.old {w w' : World} {b : Blk} (h : famOk w b) (hb : Below w.heap.size w w') : famOk w' b := ⟨h.ok.old hb, h.pw, h.b1⟩
theorem Rd.tlK {w : World} {bs off : Nat} {b : Blk} {L : List Blk} (h : Rd encK w (some ⟨bs, off, none⟩) (b :: L)) : Rd encK w (some ⟨bs, off + 39, none⟩) L := by
  intro j hj
  obtain ⟨bs', off', e, hb, hc⟩ := h (j + 1) (by simpa using hj)
  cases e
  refine ⟨bs, off + 39, rfl, hb, fun i u hu => ?_⟩
  have := hc i u (by simpa using hu)
  rw [show off + (j + 1) * encK.k + i = off + 39 + j * encK.k + i by show off + (j + 1) * 39 + i = off + 39 + j * 39 + i; omega] at this
  exact this
set_option maxRecDepth 20000 in
set_option maxHeartbeats 2000000 in
theorem tsfam_any (p : Option Addr) (c : Nat) (b : Blk) (L : List Blk) (w : World) (hR : Rd encK w p (b :: L)) (hn : L.length ≤ 900000) (hc : L.length + 1 ≤ c) (hk : ∀ x ∈ b :: L, famOk w x) :
    Calls Tryz.prog 88 #[.slice p (L.length + 1) c] w fun r w' => r = .returned (.bool (!(L.any fun x => !(famK x == famK b)))) ∧ Below w.heap.size w w' := by
  obtain ⟨bs, off, rfl, hbs, hcc⟩ := hR 0 (by simp)
  have h0 := hk b (List.mem_cons_self ..)
  have HHD : Hid (∀ i u, (hcells b.h b.q b.c).toList[i]? = some u → w.cell? ⟨bs, off + 32 + i, none⟩ = some u) := Lib.hid (fun i u hu => by
    have h1 : b.cells[32 + i]? = some u := by
      unfold Blk.cells
      rw [List.getElem?_append_right (by rw [vals_len, b.id.2]; omega), vals_len, b.id.2, Nat.add_sub_cancel_left]
      exact hu
    have := hcc (32 + i) u h1
    rw [show off + 0 * encK.k + (32 + i) = off + 32 + i by omega] at this
    exact this)
  have HF0 : Hid (Calls Tryz.prog 81 #[.agg (hcells b.h b.q b.c)] w fun r w' => r = .returned (.string ⟨(famK b).toArray⟩) ∧ Below w.heap.size w w') := Lib.hid (hfamily_any b.h b.q b.c w h0.ok.rd h0.ok.ad h0.ok.n h0.pw h0.b1)
  obtain ⟨fam, hfam⟩ : ∃ f, f = famK b := ⟨_, rfl⟩
  obtain ⟨n, hnl⟩ : ∃ n, n = L.length := ⟨_, rfl⟩
  have HAN : Hid (∀ W1 g o2 c2, Rd encK w (some ⟨bs, o2, none⟩) L → Below w.heap.size w W1 → W1.heap[g]? = some (.cells #[.string ⟨fam.toArray⟩] 9 (0, 0)) → Calls Tryz.prog 94 #[.slice (some ⟨bs, o2, none⟩) n c2, .func (.func 119) #[] #[.pointer (some ⟨g, 0, none⟩)]] W1 fun r w' => r = .returned (.bool (L.any fun x => !(famK x == fam))) ∧ Below W1.heap.size W1 w') := Lib.hid (fun W1 g o2 c2 hRL h1 h2 => by
    rw [hnl]
    exact tsanyF_any _ _ L _ _ W1 (hRL.old h1) hn (fun x hx w' hb => by
      have hx' := ((hk x (List.mem_cons_of_mem _ hx)).old h1).old hb
      exact tsfam1_any x fam g w' ((hb.block _ (Array.getElem?_eq_some_iff.1 h2).1).trans h2) hx'.ok hx'.pw hx'.b1))
  have HTL := Lib.hid hR.tlK
  have HNIL : Hid (n = 0 → L = []) := Lib.hid (fun h => List.eq_nil_of_length_eq_zero (by omega))
  rw [← hfam] at HF0 ⊢
  rw [← hnl] at hn hc ⊢
  have hn0 : (0 : Int) < (n + 1 : Nat) := by omega
  have hn1 : (1 : Int) ≤ (n + 1 : Nat) := by omega
  have hnc : ((n + 1 : Nat) : Int) ≤ c := by omega
  clear hR hk hcc h0 hfam hnl hbs
  go_enter Tryz.func88, Tryz.ntmps88
  go_wp2_with (refine wpList_exec rfl (exec_load_hd (.tmp 6) rfl bs (off + 32) rfl b.h b.q b.c HHD.out) ?_; go_frame)
  refine HF0.out.mono ?_
  rintro e w2 ⟨rfl, hb2⟩
  have HB2 := Lib.hid hb2
  clear hb2 HF0
  by_cases hc1 : c = 1
  · subst hc1
    obtain rfl : n = 0 := by omega
    go_wp2_with fail
    have hb3 := alloc1 w2 (.cells #[.string ⟨fam.toArray⟩] 9)
    refine (HAN.out _ w2.heap.size _ _ (by have e : L = [] := HNIL.out (by first | trivial | rfl); intro j hj; rw [e] at hj; exact absurd hj (Nat.not_lt_zero _)) (HB2.out.trans (hb3.mono HB2.out.size)) (heap_alloc_new w2 _)).mono ?_
    rintro e w3 ⟨rfl, hb4⟩
    have HE := Lib.hid ((HB2.out.trans (hb3.mono HB2.out.size)).trans (hb4.mono (HB2.out.trans (hb3.mono HB2.out.size)).size))
    clear hb3 hb4
    go_wp2_with fail
    go_ret
    exact ⟨rfl, HE.out⟩
  · have hc2 : ¬ c - 1 = 0 := by omega
    go_wp2_with fail
    have hb3 := alloc1 w2 (.cells #[.string ⟨fam.toArray⟩] 9)
    refine (HAN.out _ w2.heap.size _ _ HTL.out (HB2.out.trans (hb3.mono HB2.out.size)) (heap_alloc_new w2 _)).mono ?_
    rintro e w3 ⟨rfl, hb4⟩
    have HE := Lib.hid ((HB2.out.trans (hb3.mono HB2.out.size)).trans (hb4.mono (HB2.out.trans (hb3.mono HB2.out.size)).size))
    clear hb3 hb4
    go_wp2_with fail
    go_ret
    exact ⟨rfl, HE.out⟩
end Go.Proofs.YtemnebbdaljfbaaGreatDoor

namespace Go.Proofs.YtemnebbdaljfbaaGreatDoor
open Go.RowKit

/-- These bytes lie at the head of row g. -/
def NmAt8 (w : World) (g : Nat) (s : List UInt8) : Prop := s.length = 32 ∧ g < w.heap.size ∧ ∀ i (hi : i < s.length), w.cell? ⟨g, i, none⟩ = some (.int .u8 (s[i].toNat : Int))
theorem NmAt8.old {w w' : World} {g : Nat} {s : List UInt8} (h : NmAt8 w g s) (hb : Below w.heap.size w w') : NmAt8 w' g s := ⟨h.1, Nat.lt_of_lt_of_le h.2.1 hb.size, fun i hi => (hb.cell (p := ⟨g, i, none⟩) h.2.1).trans (h.2.2 i hi)⟩
theorem NmAt8.blk {w : World} {g : Nat} {b : Blk} (h : w.heap[g]? = some (.cells b.cells.toArray 72 (0, 0))) : NmAt8 w g b.id.1 := by
  refine ⟨b.id.2, (Array.getElem?_eq_some_iff.1 h).1, fun i hi => ?_⟩
  have hv : (encN.f b.id)[i]? = some (.int .u8 (b.id.1[i].toNat : Int)) := by
    show (vals b.id.1)[i]? = _
    unfold vals
    rw [List.getElem?_map, List.getElem?_eq_getElem hi]; rfl
  have := blk_id h hv
  rwa [Nat.zero_add] at this
theorem NmAt8.compare {w : World} {g h : Nat} {s t : List UInt8} (hs : NmAt8 w g s) (ht : NmAt8 w h t) :
    (Extern.BytealgCompare.compare #[.slice (some ⟨g, 0, none⟩) 32 32, .slice (some ⟨h, 0, none⟩) 32 32]).run Tryz.prog w = .ok (.int .i64 (Lib.compareBytes s t)) w := by
  have h1 := run_loadBytes w g s 0 .empty (fun i hi => by rw [Nat.zero_add]; exact hs.2.2 i hi)
  have h2 := run_loadBytes w h t 0 .empty (fun i hi => by rw [Nat.zero_add]; exact ht.2.2 i hi)
  rw [hs.1] at h1
  rw [ht.1] at h2
  have e : Extern.BytealgCompare.compare #[.slice (some ⟨g, 0, none⟩) 32 32, .slice (some ⟨h, 0, none⟩) 32 32] = (do pure (goInt (Extern.BytealgCompare.cmp (← Extern.Bytes.loadBytes ⟨g, 0, none⟩ 32 .empty) (← Extern.Bytes.loadBytes ⟨h, 0, none⟩ 32 .empty)))) := rfl
  rw [e]
  simp only [Sem.run_bind, h1, h2, Result.andThen_ok, Sem.run_pure, Lib.cmp_eq, goInt]
  simp
set_option maxHeartbeats 1000000 in
set_option maxRecDepth 20000 in
theorem bcompare8_any (g h : Nat) (s t : List UInt8) (w : World) (hs : NmAt8 w g s) (ht : NmAt8 w h t) :
    Calls Tryz.prog 93 #[.slice (some ⟨g, 0, none⟩) 32 32, .slice (some ⟨h, 0, none⟩) 32 32] w fun r w' => r = .returned (.int .i64 (Lib.compareBytes s t)) ∧ w = w' := by
  have hc := hs.compare ht
  obtain ⟨x, hx⟩ : ∃ x, x = Lib.compareBytes s t := ⟨_, rfl⟩
  rw [← hx] at hc ⊢
  clear hx hs ht
  go_enter Tryz.func93, Tryz.ntmps93
  go_wp2
  rw [run_callFunc_extern Tryz.func121 (by kernel_rfl) (by kernel_rfl) (by kernel_rfl) (e := Extern.BytealgCompare.compare) (by kernel_rfl), hc]
  simp only [Result.andThen]
  rw [Oper.upon_value]
  go_wp2
  go_ret
  exact ⟨rfl, rfl⟩
set_option maxHeartbeats 1000000 in
set_option maxRecDepth 20000 in
theorem tsnew1_any (x y : Blk) (w : World) :
    Calls Tryz.prog 92 #[.agg x.cells.toArray, .agg y.cells.toArray] w fun r w' => r = .returned (.int .i64 (Lib.compareBytes x.id.1 y.id.1)) ∧ Below w.heap.size w w' := by
  obtain ⟨n1, hn1⟩ : ∃ n, n = x.id.1 := ⟨_, rfl⟩
  obtain ⟨n2, hn2⟩ : ∃ n, n = y.id.1 := ⟨_, rfl⟩
  have hA : NmAt8 ((w.alloc (.cells x.cells.toArray 72)).alloc (.cells y.cells.toArray 72)) w.heap.size n1 := by rw [hn1]; exact NmAt8.blk (by rw [Below.heap_alloc _ _ _ (by simp)]; exact heap_alloc_new w _)
  have hB : NmAt8 ((w.alloc (.cells x.cells.toArray 72)).alloc (.cells y.cells.toArray 72)) (w.heap.size + 1) n2 := by rw [hn2]; exact NmAt8.blk (by have := heap_alloc_new (w.alloc (.cells x.cells.toArray 72)) (.cells y.cells.toArray 72); simpa using this)
  have hb : Below w.heap.size w ((w.alloc (.cells x.cells.toArray 72)).alloc (.cells y.cells.toArray 72)) := ((Below.refl _ w).alloc (Nat.le_refl _) _).alloc (by simp) _
  rw [← hn1, ← hn2]
  have HA := Lib.hid hA
  have HB := Lib.hid hB
  have Hb := Lib.hid hb
  clear hA hB hb hn1 hn2
  go_enter Tryz.func92, Tryz.ntmps92
  go_wp2_with fail
  generalize (w.alloc (.cells x.cells.toArray 72)).alloc (.cells y.cells.toArray 72) = W at HA HB Hb ⊢
  generalize w.heap.size = n0 at HA HB ⊢
  refine wp_region_puts (fun t v w => VK (match t with
    | 5 => .eq (.pointer (some ⟨n0, 0, none⟩))
    | 6 => .eq (.slice (some ⟨n0, 0, none⟩) 32 32)
    | 7 => .eq (.pointer (some ⟨n0 + 1, 0, none⟩))
    | 8 => .eq (.slice (some ⟨n0 + 1, 0, none⟩) 32 32)
    | 9 => .eq (.int .i64 (Lib.compareBytes n1 n2))
    | 4 => .eq (.int .i64 (Lib.compareBytes n1 n2))
    | _ => .any) v w) (fun w' => Below W.heap.size W w') 10 (by kernel_rfl) (by decide +kernel) rfl (Below.refl _ _).drew (by
    refine OweAll.cons (owesK rfl rfl fun a w1 ha hG hV => ?_) ?_
    · skip
      have h2 := ha.outer 2 (by decide +kernel)
      simp only [Act.eval] at h2
      exact ⟨.pointer (some ⟨n0, 0, none⟩), w1, wanted_free rfl, by simp [execOp, go_sem, h2], Below.refl _ _, rfl⟩
    refine OweAll.cons (owesK rfl rfl fun a w1 ha hG hV => ?_) ?_
    · skip
      have h5 : a.tmps.getD 5 undef = .pointer (some ⟨n0, 0, none⟩) := hV.get 5 (by decide +kernel)
      exact ⟨.slice (some ⟨n0, 0, none⟩) 32 32, w1, wanted_free rfl, by simp [execOp, go_sem, h5], Below.refl _ _, rfl⟩
    refine OweAll.cons (owesK rfl rfl fun a w1 ha hG hV => ?_) ?_
    · skip
      have h3 := ha.outer 3 (by decide +kernel)
      simp only [Act.eval] at h3
      exact ⟨.pointer (some ⟨n0 + 1, 0, none⟩), w1, wanted_free rfl, by simp [execOp, go_sem, h3], Below.refl _ _, rfl⟩
    refine OweAll.cons (owesK rfl rfl fun a w1 ha hG hV => ?_) ?_
    · skip
      have h7 : a.tmps.getD 7 undef = .pointer (some ⟨n0 + 1, 0, none⟩) := hV.get 7 (by decide +kernel)
      exact ⟨.slice (some ⟨n0 + 1, 0, none⟩) 32 32, w1, wanted_free rfl, by simp [execOp, go_sem, h7], Below.refl _ _, rfl⟩
    refine OweAll.cons (owesK_call rfl rfl 93 fun a w1 ha hG hV => ?_) ?_
    · skip
      have h6 : a.tmps.getD 6 undef = .slice (some ⟨n0, 0, none⟩) 32 32 := hV.get 6 (by decide +kernel)
      have h8 : a.tmps.getD 8 undef = .slice (some ⟨n0 + 1, 0, none⟩) 32 32 := hV.get 8 (by decide +kernel)
      refine ⟨#[.slice (some ⟨n0, 0, none⟩) 32 32, .slice (some ⟨n0 + 1, 0, none⟩) 32 32], wanted_free rfl, by simp [execOp, resolve, invoke, go_sem, h6, h8], ?_⟩
      refine (bcompare8_any _ _ n1 n2 w1 (HA.out.old hG) (HB.out.old hG)).mono ?_
      rintro r u2 ⟨rfl, rfl⟩; exact ⟨_, rfl, rfl, Below.refl _ _⟩
    refine OweAll.cons (owesK rfl rfl fun a w1 ha hG hV => ?_) ?_
    · skip
      have h9 : a.tmps.getD 9 undef = .int .i64 (Lib.compareBytes n1 n2) := hV.get 9 (by decide +kernel)
      exact ⟨.int .i64 (Lib.compareBytes n1 n2), w1, wanted_free rfl, by simp [execOp, go_sem, h9], Below.refl _ _, rfl⟩
    exact OweAll.nil
    ) ?_
  intro f wz hG hv
  have e4 : f 4 = .int .i64 (Lib.compareBytes n1 n2) := hv 5 _ 4 rfl rfl
  rename_i hK
  refine hK _ _ ?_
  clear hK hv
  simp only [dsts, puts, List.filterMap_cons, List.filterMap_nil, List.foldl_cons, List.foldl_nil, Act.put, List.setIfInBounds_toArray, List.set_cons_succ, List.set_cons_zero, e4]
  clear e4
  have HG := Lib.hid (Hb.out.trans (hG.mono Hb.out.size))
  clear hG
  go_wp2_with fail
  go_ret
  exact ⟨rfl, HG.out⟩
end Go.Proofs.YtemnebbdaljfbaaGreatDoor

namespace Go.Proofs.YtemnebbdaljfbaaGreatDoor
open Go.RowKit

/-- The first that isn't 0. -/
def orI (x y : Int) : Int := if x = 0 then y else x
end Go.Proofs.YtemnebbdaljfbaaGreatDoor

namespace Go.Proofs.YtemnebbdaljfbaaGreatDoor
open Go.RowKit

end Go.Proofs.YtemnebbdaljfbaaGreatDoor

namespace Go.Proofs.YtemnebbdaljfbaaGreatDoor
open Go.RowKit

end Go.Proofs.YtemnebbdaljfbaaGreatDoor

namespace Go.Proofs.YtemnebbdaljfbaaGreatDoor
open Go.RowKit

/-- A zero block. -/
def zBlk : Blk := ⟨⟨zid, rfl⟩, ⟨0, 0, [], 0, 0, [], 0⟩, none, 0⟩
set_option maxRecDepth 20000 in
theorem build_zblk {o : Oper} {a : Act} {w : World} (ho : o.op = .build 72 #[]) : (execOp a.eval o).run Tryz.prog w = .ok (.value (.agg zBlk.cells.toArray)) w := by
  obtain ⟨z, hz, hzs⟩ : ∃ z : Value, (∀ w, (zeroValue 72).run Tryz.prog w = .ok z w) ∧ z.cells = zBlk.cells.toArray := ⟨_, Tryz.zeroValue72, by kernel_rfl⟩
  unfold execOp
  simp [ho, Instr.build, run_underlying Tryz.underlying72, Tryz.sizeOf70, Tryz.sizeOf41, hz, Instr.fill, hzs]
set_option maxRecDepth 20000 in
set_option maxHeartbeats 2000000 in
theorem tsfirst_nil (p : Option Addr) (c : Nat) (w : World) :
    Calls Tryz.prog 80 #[.agg #[.slice p 0 c]] w fun r w' => r = .returned (.agg zBlk.cells.toArray) ∧ Below w.heap.size w w' := by
  have HZ := Lib.hid (fun w => tszero_any p c 0 w (by decide))
  rw [show decide ((0 : Nat) = 0) = true from rfl] at HZ
  go_enter Tryz.func80, Tryz.ntmps80
  go_wp2_with fail
  refine calls_gen (fun W0 => Below w.heap.size w W0 ∧ W0.heap[w.heap.size]? = some (.cells #[.slice p 0 c] 52 (0, 0)) ∧ ∃ ZB : Array Value, ZB.size = 39 ∧ W0.heap[w.heap.size + 1]? = some (.cells ZB 72 (0, 0))) (two_new w _ _ _ _ _ _ rfl rfl rfl) (fun W0 hW0 => ?_)
  obtain ⟨hb0, hbx, ZB, hZs, hZ⟩ := hW0
  refine (HZ.out W0).mono ?_
  rintro e w1 ⟨rfl, hb1⟩
  have hl := (Array.getElem?_eq_some_iff.1 hZ).1
  have hbw := hb0.trans (hb1.mono hb0.size)
  have hZ1 := (hb1.block _ hl).trans hZ
  have HZ1 := Lib.hid hZ1
  have HZS := Lib.hid hZs
  have L0 := Lib.hid (setRow_heap w1 (w.heap.size + 1) ZB zBlk.cells.toArray 72 (0, 0) hZ1)
  have LM : Hid (Below w.heap.size w (w1.setRow (w.heap.size + 1) zBlk.cells.toArray)) := Lib.hid (hbw.trans (((Mod.refl (fun _ => False) w1).setRow (g := w.heap.size + 1) zBlk.cells.toArray).to_below hbw.size (by rintro i hi (h | h); exact h; omega)))
  have HQ3 := Lib.hid (blk_info zBlk)
  have HQ4 : Hid (∀ v ∈ zBlk.cells.toArray.toList, v.oneCell' = true) := Lib.hid (by simpa using zBlk.one)
  have HSZ := Lib.hid zBlk.size
  clear hb0 hbx hZs hZ hb1 hl hbw hZ1
  go_wp2_with (first
    | (refine wpList_exec rfl (build_zblk rfl) ?_; go_frame)
    | (refine wpList_store_row rfl rfl 72 (.tmp 2) (.tmp 5) rfl (w.heap.size + 1) rfl 72 ZB zBlk.cells.toArray rfl HZ1.out (by rw [HZS.out, HSZ.out]) HQ3.out HQ4.out ?_))
  exact bodyPost_ret (v := .agg zBlk.cells.toArray) (results_cell_row Tryz.results80 _ _ (w.heap.size + 1) 72 _ (0, 0) _ rfl L0.out Tryz.underlying72 rfl HQ3.out) rfl ⟨rfl, LM.out⟩
set_option maxRecDepth 20000 in
set_option maxHeartbeats 2000000 in
theorem tsticket_nil (p : Option Addr) (c : Nat) (w : World) :
    Calls Tryz.prog 54 #[.agg #[.slice p 0 c]] w fun r w' => r = .returned (.string ⟨#[]⟩) ∧ Below w.heap.size w w' := by
  have hb := alloc1 w (.cells #[.slice p 0 c] 52)
  have HF := Lib.hid (tsfirst_nil p c (w.alloc (.cells #[.slice p 0 c] 52)))
  have HCL := Lib.hid (fun w => tsclone_any [] w (by decide))
  have hbx : (w.alloc (.cells #[.slice p 0 c] 52)).heap[w.heap.size]? = some (.cells #[.slice p 0 c] 52 (0, 0)) := heap_alloc_new w _
  have HBX := Lib.hid hbx
  have HB := Lib.hid hb
  clear hb hbx
  go_enter Tryz.func54, Tryz.ntmps54
  go_wp2_with fail
  refine HF.out.mono ?_
  rintro e w2 ⟨rfl, hb2⟩
  have c0 : w2.cell? ⟨w.heap.size, 0, none⟩ = some (.slice p 0 c) := cell_of_row w2 _ 0 _ _ _ ((hb2.block _ (Array.getElem?_eq_some_iff.1 HBX.out).1).trans HBX.out)
  have H0 := Lib.hid (HB.out.trans (hb2.mono HB.out.size))
  clear hb2 HF
  go_wp2_with (first | (refine wpList_field_hd rfl (.tmp 7) rfl zBlk rfl ?_; go_frame) | (refine wpList_field rfl 41 2 (.tmp 8) rfl _ _ rfl (run_fields _ _ _ _ _ _ _ _).2.1 ?_; go_frame))
  clear c0
  go_loopw [3, 13] (fun s3 s13 wr => s13 = .int .i64 0 ∧ s3 = .string ⟨#[]⟩ ∧ Hid (Below w.heap.size w wr)) (fun _ _ _ => 0)
  case atStart => exact ⟨rfl, rfl, H0⟩
  case round =>
    clear H0
    obtain ⟨rfl, rfl, HS⟩ := hrel
    go_wp2_with fail
    refine (HCL.out _).mono ?_
    rintro e w4 ⟨rfl, hb4⟩
    have HB4 := Lib.hid (HS.out.trans (hb4.mono HS.out.size))
    clear hb4
    go_wp2_with fail
    go_ret
    exact ⟨rfl, HB4.out⟩
set_option maxRecDepth 20000 in
theorem tsheight_nil (p : Option Addr) (c : Nat) (w : World) :
    Calls Tryz.prog 38 #[.agg #[.slice p 0 c]] w fun r w' => r = .returned (.int .i64 0) ∧ Below w.heap.size w w' := by
  have hb := alloc1 w (.cells #[.slice p 0 c] 52)
  have HB := Lib.hid hb
  have HF := Lib.hid (tsfirst_nil p c (w.alloc (.cells #[.slice p 0 c] 52)))
  clear hb
  go_enter Tryz.func38, Tryz.ntmps38
  go_wp2_with fail
  refine HF.out.mono ?_
  rintro e w2 ⟨rfl, hb2⟩
  have HB2 := Lib.hid (HB.out.trans (hb2.mono HB.out.size))
  clear hb2
  go_wp2_with (first | (refine wpList_field_hd rfl (.tmp 4) rfl zBlk rfl ?_; go_frame) | (refine wpList_field rfl 41 0 (.tmp 5) rfl _ _ rfl (run_fields _ _ _ _ _ _ _ _).1 ?_; go_frame))
  go_ret
  exact ⟨rfl, HB2.out⟩
set_option maxRecDepth 20000 in
theorem tspower_nil (p : Option Addr) (c : Nat) (w : World) :
    Calls Tryz.prog 58 #[.agg #[.slice p 0 c]] w fun r w' => r = .returned (.int .u64 0) ∧ Below w.heap.size w w' := by
  have hb := alloc1 w (.cells #[.slice p 0 c] 52)
  have HB := Lib.hid hb
  have HF := Lib.hid (tsfirst_nil p c (w.alloc (.cells #[.slice p 0 c] 52)))
  clear hb
  go_enter Tryz.func58, Tryz.ntmps58
  go_wp2_with fail
  refine HF.out.mono ?_
  rintro e w2 ⟨rfl, hb2⟩
  have HB2 := Lib.hid (HB.out.trans (hb2.mono HB.out.size))
  clear hb2
  go_wp2_with (first | (refine wpList_field_hd rfl (.tmp 4) rfl zBlk rfl ?_; go_frame) | (refine wpList_field rfl 41 4 (.tmp 5) rfl _ _ rfl (run_fields _ _ _ _ _ _ _ _).2.2.1 ?_; go_frame))
  go_ret
  exact ⟨rfl, HB2.out⟩
end Go.Proofs.YtemnebbdaljfbaaGreatDoor

namespace Go.Proofs.YtemnebbdaljfbaaGreatDoor
open Go.RowKit Go.ChangeMaps Go.WideShapes

/-- Whatever an element is, it reads as itself. -/
abbrev RVE : Value → Option (DataW Value × List MemPlace) := fun v => some (.held v, [])
/-- How keys read. -/
structure KeyE (α : Type) where
  lit : α → Lit
  inj : ∀ {a b : α}, lit a = lit b → a = b
  isK : ∀ a : α, WideAt.IsKeyLit (lit a)
section
variable {α : Type}
def KeyE.ent (E : KeyE α) (x : α × Value) : Lit × DataW Value := (E.lit x.1, .held x.2)
def KeyE.es (E : KeyE α) (L : List (α × Value)) : List (Lit × DataW Value) := (L.map E.ent).foldr DataW.insert []
def KeyE.d (E : KeyE α) (L : List (α × Value)) : DataW Value := .map (E.es L)
def ApartE (L : List (α × Value)) : Prop := L.Pairwise fun x y => x.1 ≠ y.1
theorem ApartE.perm {L L' : List (α × Value)} (h : ApartE L) (hp : L.Perm L') : ApartE L' := (hp.pairwise_iff (fun {_ _} h => Ne.symm h)).1 h
/-- Block b is a map of just these entries. -/
structure MapK (P : Program) (K : TypeId) (E : KeyE α) (w : World) (b : Nat) (L : List (α × Value)) : Prop where
  ap : ApartE L
  ky : ∀ x ∈ L, Maps.KeysOf P K (E.lit x.1)
  own : w.ownsMap P K RVE b L.length (E.d L)
variable {P : Program} {K : TypeId} {E : KeyE α} {w w' : World} {b : Nat} {L : List (α × Value)}
theorem keysE (h : ∀ x ∈ L, Maps.KeysOf P K (E.lit x.1)) : Maps.Keys (Maps.KeysOf P K) (L.map E.ent) := by
  intro p hp; obtain ⟨x, hx, rfl⟩ := List.mem_map.1 hp; exact h x hx
theorem apartE_ent (h : ApartE L) : (L.map E.ent).Pairwise (fun p q => p.1 ≠ q.1) := by
  rw [List.pairwise_map]
  exact h.imp (fun {a b} hn e => hn (E.inj e))
theorem esE_perm (kd : Maps.Keyed P K) {L' : List (α × Value)} (hk : ∀ x ∈ L, Maps.KeysOf P K (E.lit x.1)) (h : ApartE L) (hp : L.Perm L') : E.es L = E.es L' := by
  refine eq_of_perm_sorted ?_ (Maps.sorted_sorted kd.one _ (keysE hk) (apartE_ent h)) (Maps.sorted_sorted kd.one _ (keysE fun x hx => hk x (hp.mem_iff.2 hx)) (apartE_ent (h.perm hp)))
  exact (sorted_perm _).trans ((hp.map E.ent).trans (sorted_perm _).symm)
theorem anyE (f : Lit × DataW Value → Bool) (L : List (α × Value)) : (E.es L).any f = L.any fun x => f (E.ent x) := by
  induction L with
  | nil => rfl
  | cons x l ih => show (DataW.insert (E.ent x) (E.es l)).any f = _; rw [Maps.any_insert, ih]; rfl
theorem size_dE (L : List (α × Value)) : Maps.size (E.d L) = L.length := by
  show (E.es L).length = _
  unfold KeyE.es
  rw [length_sorted, List.length_map]
theorem ownsMapE_tight {n : Nat} (h : w.ownsMap P K RVE b n (E.d L)) : w.ownsMap P K RVE b L.length (E.d L) := by
  obtain ⟨es, clock, hb, F, hs, hD⟩ := h
  refine ⟨es, clock, hb, F, ?_, hD⟩
  have := congrArg Maps.size hD
  rw [size_dE] at this
  simp [Maps.size, length_sorted] at this
  omega
theorem MapK.lt (h : MapK P K E w b L) : b < w.heap.size := h.own.lt
theorem MapK.perm (h : MapK P K E w b L) (kd : Maps.Keyed P K) {L' : List (α × Value)} (hp : L.Perm L') : MapK P K E w b L' :=
  ⟨h.ap.perm hp, fun x hx => h.ky x (hp.mem_iff.2 hx), by have := h.own; unfold KeyE.d at this ⊢; rw [← esE_perm kd h.ky h.ap hp, ← hp.length_eq]; exact this⟩
theorem MapK.same (h : MapK P K E w b L) (hb : w'.heap[b]? = w.heap[b]?) : MapK P K E w' b L := by
  refine ⟨h.ap, h.ky, ?_⟩
  obtain ⟨es, clock, hh, r⟩ := h.own
  exact ⟨es, clock, hb.trans hh, r⟩
theorem MapK.kept {S : Nat → Prop} (h : MapK P K E w b L) (hm : Mod S w w') (hb : ¬ S b) : MapK P K E w' b L := h.same (hm.block b h.lt hb)
theorem MapK.old (h : MapK P K E w b L) (hb : Below w.heap.size w w') : MapK P K E w' b L := h.same (hb.block b h.lt)
theorem MapK.notCells (h : MapK P K E w b L) {g : Nat} {cs : Array Value} {T : TypeId} {fr : Nat × Nat} (hg : w.heap[g]? = some (.cells cs T fr)) : g ≠ b := by
  rintro rfl
  obtain ⟨es, clock, hh, _⟩ := h.own
  rw [hh] at hg; cases hg
theorem MapK.made (P : Program) (K : TypeId) (E : KeyE α) (w : World) : MapK P K E (w.alloc (.map #[] 0)) w.heap.size [] :=
  ⟨List.Pairwise.nil, (fun _ h => by cases h), World.ownsMap_made w P K RVE⟩
theorem Mod.turnedE (h : w.mapTurned w' b) : Mod (fun k => k = b) w w' := by
  have hg := h.grown
  exact ⟨hg.os, hg.tape, hg.output, hg.size, fun k hk hn => hg.block k hk (fun e => hn (Option.some.inj e))⟩
variable {t e : TypeId}
theorem MapK.len (h : MapK P K E w b L) (ht : P.underlying t = some (.map K e)) (ty : TypeId) : (Builtin.len_ #[t] ty #[.map (some b)]).run P w = .ok (.int .i64 (L.length : Nat)) w := by
  rw [h.own.len ht ty, size_dE]
end
section
variable {α : Type} [DecidableEq α]
theorem KeyE.same (E : KeyE α) (a b : α) : (E.lit a).sameKey (E.lit b) = decide (a = b) := by
  by_cases h : a = b
  · subst h; rw [WideAt.sameKey_self (E.isK a)]; simp
  · rw [Maps.sameKey_ne (fun e => h (E.inj e))]; simp [h]
/-- Without a key. -/
def woE (k : α) (L : List (α × Value)) : List (α × Value) := L.filter fun x => decide (x.1 ≠ k)
def hasE (k : α) (L : List (α × Value)) : Bool := L.any fun x => decide (x.1 = k)
def getE (k : α) (L : List (α × Value)) (z : Value) : Value := match L.find? fun x => decide (x.1 = k) with | some x => x.2 | none => z
theorem ApartE.wo {L : List (α × Value)} (h : ApartE L) (k : α) : ApartE (woE k L) := h.filter _
theorem ApartE.cons {L : List (α × Value)} (h : ApartE L) (k : α) (v : Value) : ApartE ((k, v) :: woE k L) :=
  List.pairwise_cons.2 ⟨fun y hy => by have := (List.mem_filter.1 hy).2; simp at this; exact fun e => this e.symm, h.wo k⟩
theorem hasE_iff {k : α} {L : List (α × Value)} : hasE k L = true ↔ k ∈ L.map (·.1) := by
  unfold hasE
  rw [List.any_eq_true, List.mem_map]
  constructor
  · rintro ⟨x, hx, h⟩; exact ⟨x, hx, by simpa using h⟩
  · rintro ⟨x, hx, h⟩; exact ⟨x, hx, by simpa using h⟩
theorem getE_no {k : α} {L : List (α × Value)} {z : Value} (h : hasE k L = false) : getE k L z = z := by
  unfold getE
  rw [List.find?_eq_none.2 (fun x hx e => by
    unfold hasE at h
    rw [List.any_eq_false] at h
    exact h x hx e)]
theorem getE_mem {k : α} {L : List (α × Value)} (hL : ApartE L) {v z : Value} (h : (k, v) ∈ L) : getE k L z = v := by
  unfold getE
  induction L with
  | nil => cases h
  | cons y l ih =>
    obtain ⟨h1, h2⟩ := List.pairwise_cons.1 hL
    by_cases e : y.1 = k
    · rw [List.find?_cons_of_pos (by simpa using e)]
      rcases List.mem_cons.1 h with rfl | h
      · rfl
      · exact absurd e (h1 _ h)
    · rw [List.find?_cons_of_neg (by simpa using e)]
      rcases List.mem_cons.1 h with rfl | h
      · exact absurd rfl e
      · exact ih h2 h

variable {P : Program} {K : TypeId} {E : KeyE α} {w w' : World} {b : Nat} {L : List (α × Value)}
theorem notKeyE (k : α) : (L.map E.ent).filter (notKey (E.lit k)) = (woE k L).map E.ent := by
  rw [List.filter_map]
  congr 1
  unfold woE
  congr 1
  funext x
  show (!(E.lit x.1).sameKey (E.lit k)) = _
  rw [E.same]; simp
theorem has_dE (L : List (α × Value)) (k : α) : Maps.has (E.d L) (E.lit k) = hasE k L := by
  show (E.es L).any _ = _
  rw [anyE]
  unfold hasE
  congr 1
  funext x
  exact E.same x.1 k
theorem findE (k : α) : ∀ L : List (α × Value), ApartE L → (E.es L).find? (fun p => p.1.sameKey (E.lit k)) = (L.find? fun x => decide (x.1 = k)).map E.ent
  | [], _ => rfl
  | x :: l, h => by
    obtain ⟨h1, h2⟩ := List.pairwise_cons.1 h
    show (DataW.insert (E.ent x) (E.es l)).find? _ = _
    have hs : ((E.ent x).1).sameKey (E.lit k) = decide (x.1 = k) := E.same x.1 k
    by_cases hk : x.1 = k
    · rw [Maps.find_insert_hit (by rw [hs]; simp [hk])]
      · rw [List.find?_cons_of_pos (by simpa using hk)]; rfl
      · intro p hp
        obtain ⟨y, hy, rfl⟩ := List.mem_map.1 ((sorted_perm _).mem_iff.1 hp)
        have := h1 y hy
        rw [hk] at this
        show (E.lit y.1).sameKey (E.lit k) = false
        rw [E.same]; simp; exact fun e => this e.symm
    · rw [Maps.find_insert_miss (by rw [hs]; simp [hk]), findE k l h2, List.find?_cons_of_neg (by simpa using hk)]
theorem atKey_dE (h : ApartE L) (k : α) (z : Value) : (E.d L).atKey (E.lit k) (.held z) = .held (getE k L z) := by
  unfold DataW.atKey KeyE.d getE
  simp only [findE k L h]
  cases L.find? fun x => decide (x.1 = k) <;> rfl
variable {t e : TypeId} {key : Value} {k : α}
theorem MapK.look (h : MapK P K E w b L) (kd : Maps.Keyed P K) (ht : P.underlying t = some (.map K e)) {z : Value} (hz : (zeroValue e).run P w = .ok z w) (hk : keyOf P K key = some (E.lit k)) :
    (Instr.lookup t (.map (some b)) key false).run P w = .ok (getE k L z) w := by
  obtain ⟨v, ps, hr, hv⟩ := h.own.lookup kd ht hz (zd := .held z) (zp := []) rfl hk
  rw [atKey_dE h.ap] at hv
  simp only [Option.some.injEq, Prod.mk.injEq, DataW.held.injEq] at hv
  rw [hr, hv.1]
theorem MapK.look_ok (h : MapK P K E w b L) (kd : Maps.Keyed P K) (ht : P.underlying t = some (.map K e)) {z : Value} (hz : (zeroValue e).run P w = .ok z w) (hk : keyOf P K key = some (E.lit k)) :
    (Instr.lookup t (.map (some b)) key true).run P w = .ok (.tuple #[getE k L z, .bool (hasE k L)]) w := by
  obtain ⟨v, ps, hr, hv⟩ := h.own.look_ok kd ht hz (zd := .held z) (zp := []) rfl hk
  rw [atKey_dE h.ap] at hv
  simp only [Option.some.injEq, Prod.mk.injEq, DataW.held.injEq] at hv
  rw [hr, hv.1, has_dE]
theorem put_dE (kd : Maps.Keyed P K) (hy : ∀ x ∈ L, Maps.KeysOf P K (E.lit x.1)) (h : ApartE L) (hk : Maps.KeysOf P K (E.lit k)) (v : Value) : (E.d L).put (E.lit k) (.held v) = E.d ((k, v) :: woE k L) := by
  have := (Maps.sorted_put kd.one (k := E.lit k) (d := .held v) (E' := ((k, v) :: woE k L).map E.ent) hk (keysE hy) (apartE_ent h) (by rw [notKeyE]; exact .refl _))
  unfold KeyE.d KeyE.es
  rw [DataW.put_eq, this]
theorem MapK.store (h : MapK P K E w b L) (kd : Maps.Keyed P K) (ht : P.underlying t = some (.map K e)) (hn : L.length < maxLen) (hk : keyOf P K key = some (E.lit k)) (v : Value) :
    ∃ w', (Instr.mapUpdate t (.map (some b)) key v).run P w = .ok () w' ∧ MapK P K E w' b ((k, v) :: woE k L) ∧ Mod (fun i => i = b) w w' := by
  obtain ⟨w', hr, ho, hm⟩ := h.own.store kd ht hn hk (val := v) (d := .held v) (ps := []) rfl
  rw [put_dE kd h.ky h.ap ⟨_, hk⟩ v] at ho
  refine ⟨w', hr, ⟨h.ap.cons k v, ?_, ownsMapE_tight ho⟩, Mod.turnedE hm⟩
  intro x hx
  rcases List.mem_cons.1 hx with rfl | hx
  · exact ⟨_, hk⟩
  · exact h.ky x (List.mem_filter.1 hx).1
/-- An entry is looked up, or made, then stored. -/
theorem MapK.entry (h : MapK P K E w b L) (kd : Maps.Keyed P K) (ht : P.underlying t = some (.map K e)) (hn : L.length < maxLen) {z : Value} (hz : ∀ u : World, (zeroValue e).run P u = .ok z u) (hk : keyOf P K key = some (E.lit k)) :
    ∃ (st : Nat) (w1 : World), (Instr.mapEntry t (.map (some b)) key).run P w = .ok (.tuple #[getE k L z, goInt st]) w1 ∧ Mod (fun i => i = b) w w1 ∧ (∀ w2 : World, w2.heap[b]? = w1.heap[b]? → (Instr.lookup t (.map (some b)) key false).run P w2 = .ok (getE k L z) w2) ∧
      ∀ (w2 : World) (v : Value), w2.heap[b]? = w1.heap[b]? → ∃ w', (Instr.entryStore t (.map (some b)) (goInt st) v).run P w2 = .ok () w' ∧ MapK P K E w' b ((k, v) :: woE k L) ∧ Mod (fun i => i = b) w2 w' := by
  have hlk := h.look kd ht (hz w) hk
  have hst := fun v => h.store kd ht hn hk v
  have hbl := h.lt
  obtain ⟨es, clock, hb, F, _, _⟩ := h.own
  obtain ⟨s1, s2, _⟩ := F.stamped
  have hmod : ∀ o : Obj, Mod (fun i => i = b) w (setBlock w b o) := fun o => ⟨rfl, rfl, rfl, by simp [setBlock], fun i _ hi => heap_setBlock_other hb _ hi⟩
  have fin : ∀ (es1 : Array MapEntry) (c1 : Nat) (f : Value → Obj) (st : Nat), (∀ v, (Instr.mapUpdate t (.map (some b)) key v).run P w = .ok () (setBlock w b (f v))) → (∀ (w2 : World) (v : Value), w2.heap[b]? = some (.map es1 c1) → (Instr.entryStore t (.map (some b)) (goInt st) v).run P w2 = .ok () (setBlock w2 b (f v))) →
      ∀ (w2 : World) (v : Value), w2.heap[b]? = (setBlock w b (.map es1 c1)).heap[b]? → ∃ w', (Instr.entryStore t (.map (some b)) (goInt st) v).run P w2 = .ok () w' ∧ MapK P K E w' b ((k, v) :: woE k L) ∧ Mod (fun i => i = b) w2 w' := by
    intro es1 c1 f st h1 h2 w2 v h3
    rw [heap_setBlock_same hb] at h3
    refine ⟨_, h2 w2 v h3, ?_, ⟨rfl, rfl, rfl, by simp [setBlock], fun i _ hi => heap_setBlock_other h3 _ hi⟩⟩
    obtain ⟨w', hr, hm, _⟩ := hst v
    rw [h1 v] at hr
    cases hr
    exact hm.same ((heap_setBlock_same h3 _).trans (heap_setBlock_same hb _).symm)
  rcases kd.find w hk es.toList F.keys with ⟨h1, h2⟩ | ⟨j, e0, h1, h2, h3⟩
  · have ez : getE k L z = z := by
      have : (Instr.lookup t (.map (some b)) key false).run P w = .ok z w := by simp [Instr.lookup, run_underlying ht, MapKept.run_getObj_map hb, kd.check w _ hk, h1, hz, Result.andThen]
      rw [hlk] at this
      simp only [Result.ok.injEq, and_true] at this; exact this
    rw [ez]
    refine ⟨clock, _, by simp [Instr.mapEntry, run_underlying ht, MapKept.run_getObj_map hb, kd.check w false hk, h1, hz, MapKept.run_setObj_map _ hb, Result.andThen]; rfl, hmod _, fun w2 hw2 => ?_, fin (es.push ⟨key, z, clock⟩) (clock + 1) (fun v => .map (es.push ⟨key, v, clock⟩) (clock + 1)) clock (fun v => by simp [Instr.mapUpdate, run_underlying ht, MapKept.run_getObj_map hb, kd.check w false hk, h1, MapKept.run_setObj_map _ hb, Result.andThen, setBlock]) (fun w2 v hw2 => ?_)⟩
    · rw [heap_setBlock_same hb] at hw2
      rcases kd.find w2 hk (es.push ⟨key, z, clock⟩).toList (fun e he => by
        rw [Array.toList_push, List.mem_append, List.mem_singleton] at he
        rcases he with he | rfl
        · exact F.keys e he
        · exact ⟨_, hk⟩) with ⟨_, q2⟩ | ⟨j, e0, q1, q2, q3⟩
      · exact absurd rfl (q2 ⟨key, z, clock⟩ (by simp))
      · have hv : e0.val = z := by
          have he := List.mem_of_getElem? q2
          rw [Array.toList_push, List.mem_append, List.mem_singleton] at he
          rcases he with he | rfl
          · exact absurd q3 (h2 e0 he)
          · rfl
        simp only [Array.toList_push] at q1
        simp [Instr.lookup, run_underlying ht, MapKept.run_getObj_map hw2, kd.check w2 _ hk, q1, hv, Result.andThen]
    have hx : (es.push ⟨key, z, clock⟩).findIdx? (fun e => ((e.born : Nat) : Int) == ((clock : Nat) : Int)) = some es.size := by
      have hnd : ((es.push ⟨key, z, clock⟩).toList.map (·.born)).Nodup := by
        rw [Array.toList_push, List.map_append]
        refine List.nodup_append.2 ⟨s2, by simp, fun a ha c hc e1 => ?_⟩
        obtain ⟨x, hx, rfl⟩ := List.mem_map.1 ha
        have := s1 x hx
        simp only [List.map_cons, List.map_nil, List.mem_singleton] at hc
        omega
      rw [WideElems.findIdx_arr]
      exact WideElems.findIdx_born (e0 := ⟨key, z, clock⟩) hnd (by simp)
    have hm : (es.push ⟨key, z, clock⟩).modify es.size (fun e => { e with val := v }) = es.push ⟨key, v, clock⟩ := by
      apply Array.ext'
      rw [Array.toList_modify, Array.toList_push, Array.toList_push, ← Array.length_toList, WideElems.modify_last]
    simp [Instr.entryStore, MapKept.run_getObj_map hw2, asInt, asIntOf, goInt, hx, hm, MapKept.run_setObj_map _ hw2, Result.andThen, setBlock]
  · have hj : es[j]? = some e0 := by simpa using h2
    have ez : getE k L z = e0.val := by
      have : (Instr.lookup t (.map (some b)) key false).run P w = .ok e0.val w := by simp [Instr.lookup, run_underlying ht, MapKept.run_getObj_map hb, kd.check w _ hk, h1, Result.andThen]
      rw [hlk] at this
      simp only [Result.ok.injEq, and_true] at this; exact this
    have e1 : ({ e0 with key := key } : MapEntry) = e0 := by rw [← h3]
    have hsame : es.modify j (fun e => { e with key := key }) = es := by
      apply Array.ext'
      rw [Array.toList_modify, modify_eq_set _ _ _ _ h2, e1]
      exact WideElems.set_self _ _ _ h2
    rw [ez]
    refine ⟨e0.born, _, by simp [Instr.mapEntry, run_underlying ht, MapKept.run_getObj_map hb, kd.check w false hk, h1, hj, h3, kd.stays w hk, hsame, MapKept.run_setObj_map _ hb, Result.andThen]; rfl, hmod _, fun w2 hw2 => ?_, fin es clock (fun v => .map (es.modify j fun e' => { e' with key := key, val := v }) clock) e0.born (fun v => by simp [Instr.mapUpdate, run_underlying ht, MapKept.run_getObj_map hb, kd.check w false hk, h1, hj, h3, kd.stays w hk, MapKept.run_setObj_map _ hb, Result.andThen, setBlock]) (fun w2 v hw2 => ?_)⟩
    · rw [heap_setBlock_same hb] at hw2
      have := (h.same (w' := w2) (hw2.trans hb.symm)).look kd ht (hz w2) hk
      rw [ez] at this
      exact this
    have hx : es.findIdx? (fun e => ((e.born : Nat) : Int) == ((e0.born : Nat) : Int)) = some j := by
      rw [WideElems.findIdx_arr]
      exact WideElems.findIdx_born s2 h2
    have hm : es.modify j (fun e => { e with val := v }) = es.modify j (fun e' => { e' with key := key, val := v }) := by
      apply Array.ext'
      rw [Array.toList_modify, Array.toList_modify, modify_eq_set _ _ _ _ h2, modify_eq_set _ _ _ _ h2, ← h3]
    simp [Instr.entryStore, MapKept.run_getObj_map hw2, asInt, asIntOf, goInt, hx, hm, MapKept.run_setObj_map _ hw2, Result.andThen, setBlock]
/-- How many there are without repeats. -/
structure Cnt (A : List α) (M : List (α × Value)) : Prop where
  mem : ∀ a, hasE a M = true ↔ a ∈ A
  le : M.length ≤ A.length
  all : M.length = A.length ↔ A.Nodup
theorem Cnt.zero : Cnt ([] : List α) [] := ⟨fun a => by simp [hasE], Nat.le_refl _, by simp⟩
theorem woE_no {k : α} {M : List (α × Value)} (h : hasE k M = false) : woE k M = M := by
  unfold woE
  refine List.filter_eq_self.2 (fun x hx => ?_)
  unfold hasE at h
  rw [List.any_eq_false] at h
  have := h x hx
  simpa using this
theorem woE_len {k : α} : ∀ {M : List (α × Value)}, ApartE M → hasE k M = true → (woE k M).length + 1 = M.length
  | [], _, h => by simp [hasE] at h
  | x :: l, hM, h => by
    obtain ⟨h1, h2⟩ := List.pairwise_cons.1 hM
    by_cases e : x.1 = k
    · have hn : hasE k l = false := by
        unfold hasE
        rw [List.any_eq_false]
        intro y hy q
        have := h1 y hy
        simp only [decide_eq_true_eq] at q
        exact this (e.trans q.symm)
      have : woE k (x :: l) = woE k l := by unfold woE; rw [List.filter_cons_of_neg (by simpa using e)]
      rw [this, woE_no hn]; rfl
    · have hl : hasE k l = true := by
        unfold hasE at h ⊢
        simpa [e] using h
      have : woE k (x :: l) = x :: woE k l := by unfold woE; rw [List.filter_cons_of_pos (by simpa using e)]
      rw [this, List.length_cons, woE_len h2 hl]; rfl
theorem hasE_cons {k : α} {v : Value} {M : List (α × Value)} (a : α) : hasE a ((k, v) :: woE k M) = true ↔ a = k ∨ hasE a M = true := by
  rw [hasE_iff, hasE_iff, List.map_cons, List.mem_cons]
  constructor
  · rintro (h | h)
    · exact .inl h
    · obtain ⟨x, hx, rfl⟩ := List.mem_map.1 h
      exact .inr (List.mem_map.2 ⟨x, (List.mem_filter.1 hx).1, rfl⟩)
  · rintro (h | h)
    · exact .inl h
    · by_cases e : a = k
      · exact .inl e
      · obtain ⟨x, hx, rfl⟩ := List.mem_map.1 h
        exact .inr (List.mem_map.2 ⟨x, List.mem_filter.2 ⟨hx, by simpa using e⟩, rfl⟩)
theorem Cnt.push {A : List α} {M : List (α × Value)} (h : Cnt A M) (hM : ApartE M) (k : α) (v : Value) : Cnt (A ++ [k]) ((k, v) :: woE k M) := by
  refine ⟨fun a => by rw [hasE_cons, h.mem, List.mem_append, List.mem_singleton]; exact or_comm, ?_, ?_⟩
  · have := h.le
    have h2 : (woE k M).length ≤ M.length := List.length_filter_le _ _
    simp only [List.length_cons, List.length_append, List.length_nil]; omega
  · have hl := h.le
    by_cases hk : hasE k M = true
    · have h1 := woE_len hM hk
      have h2 := (h.mem k).1 hk
      simp only [List.length_cons, List.length_append, List.length_nil]
      constructor
      · intro e; omega
      · intro e
        exact absurd rfl ((List.nodup_append.1 e).2.2 k h2 k (by simp))
    · have h1 := woE_no (by simpa using hk)
      have h2 : k ∉ A := fun q => hk ((h.mem k).2 q)
      rw [h1]
      simp only [List.length_cons, List.length_append, List.length_nil]
      rw [show (M.length + 1 = A.length + (0 + 1)) ↔ M.length = A.length by omega, h.all, List.nodup_append]
      constructor
      · intro q; exact ⟨q, by simp, fun a ha b hb => by rw [List.mem_singleton.1 hb]; exact fun e => h2 (e ▸ ha)⟩
      · intro q; exact q.1
end
end Go.Proofs.YtemnebbdaljfbaaGreatDoor

namespace Go.Proofs.YtemnebbdaljfbaaGreatDoor
open Go.RowKit

def keyN : KeyE Nm := ⟨fun n => .string n.1, fun h => Subtype.ext (by simpa using h), fun _ => trivial⟩
def keyI : KeyE Int := ⟨fun n => .int .i64 n, fun h => by simpa using h, fun _ => trivial⟩
def keyS : KeyE (List UInt8) := ⟨fun s => .string s, fun h => by simpa using h, fun _ => trivial⟩
theorem mapM_some {α β : Type} {f : α → Option β} {g : α → β} : ∀ l : List α, (∀ x ∈ l, f x = some (g x)) → l.mapM f = some (l.map g)
  | [], _ => rfl
  | x :: l, h => by
    rw [List.mapM_cons, h x (by simp), mapM_some l (fun y hy => h y (by simp [hy]))]; rfl
theorem u8_key (b : UInt8) : (Lit.int .u8 (b.toNat : Int)).keyBytes = [b] := by
  have h : b.toNat < 256 := b.toNat_lt
  have e1 : (((b.toNat : Int) % 2 ^ IntKind.u8.bits).toNat) = b.toNat := by
    show (((b.toNat : Int) % 256).toNat) = _
    omega
  show (bytesLE 1 (((b.toNat : Int) % 2 ^ IntKind.u8.bits).toNat)).reverse = [b]
  rw [e1]
  unfold bytesLE bytesLE
  rw [Nat.mod_eq_of_lt h]
  simp
theorem u8_wf (b : UInt8) : (Lit.int .u8 (b.toNat : Int)).wf = true := by
  have h : b.toNat < 256 := b.toNat_lt
  unfold Lit.wf
  simp only [Bool.and_eq_true, decide_eq_true_eq]
  constructor
  · show (0 : Int) ≤ _; omega
  · show _ ≤ (255 : Int); omega
theorem keyBytes_u8 (s : List UInt8) : keyBytes (s.map fun b => Lit.int .u8 (b.toNat : Int)) = s := by
  unfold keyBytes
  induction s with
  | nil => rfl
  | cons b s ih => rw [List.map_cons, List.flatMap_cons, ih, u8_key]; rfl
/-- A row of 32 bytes as a key. -/
theorem keyOf_bytes {P : Program} {K U : TypeId} (hK : P.underlying K = some (.array 32 U)) (hU : P.underlying U = some (.int .u8)) (c1 : P.cellsOf K = 32) (c2 : P.cellsOf U = 1) (hk : P.keyType K = true) (hs : 2 ≤ P.types.size + 1) (s : List UInt8) (hl : s.length = 32) :
    keyOf P K (.agg (vals s).toArray) = some (.string s) := by
  obtain ⟨d, hd⟩ : ∃ d, P.types.size + 1 = d + 2 := ⟨P.types.size + 1 - 2, by omega⟩
  have hlits : P.keyLits (P.types.size + 1) K (vals s) = some (s.map fun b => Lit.int .u8 (b.toNat : Int)) := by
    rw [hd]
    unfold Program.keyLits
    simp only [hK, c1, vals_len, hl, if_true]
    rw [mapM_some (g := fun i => [Lit.int .u8 ((s[i]!).toNat : Int)]) _ (fun i hi => by
      rw [List.mem_range] at hi
      have e : ((vals s).drop (i * P.cellsOf U)).take (P.cellsOf U) = [.int .u8 ((s[i]!).toNat : Int)] := by
        rw [c2, Nat.mul_one]
        have hlt : i < (vals s).length := by rw [vals_len, hl]; exact hi
        rw [List.drop_eq_getElem_cons hlt, List.take_succ_cons, List.take_zero]
        have : i < s.length := by omega
        simp [vals, getElem!_pos s i this]
      rw [e]
      unfold Program.keyLits
      simp only [hU]
      simp [u8_wf])]
    simp only [Option.map_some, Option.some.injEq]
    rw [← List.flatMap_def]
    have e2 : s.map (fun b => Lit.int .u8 (b.toNat : Int)) = (List.range 32).map fun i => Lit.int .u8 ((s[i]!).toNat : Int) := by
      apply List.ext_getElem
      · simp [hl]
      · intro i h1 h2
        simp only [List.length_map] at h1
        simp only [List.getElem_map, List.getElem_range, getElem!_pos s i h1]
    rw [e2]
    induction List.range 32 with
    | nil => rfl
    | cons a l ih => rw [List.flatMap_cons, ih]; rfl
  unfold keyOf
  simp only [hK]
  rw [if_pos (by rw [hk]; simp [Value.formed, hK, c1, vals_len, hl])]
  show (P.keyLits (P.types.size + 1) K (vals s)).map _ = _
  rw [hlits, Option.map_some, keyBytes_u8]
set_option maxRecDepth 20000 in
theorem tsLaid : laidOutB Tryz.prog = true := by kernel_rfl
set_option maxRecDepth 20000 in
theorem keyedN : Maps.Keyed Tryz.prog 70 := .of_law (deep_law_laid tsLaid (m := 2) (by omega) (of_decide_eq_true (by kernel_rfl)) (by kernel_rfl) (by rw [Tryz.underlying70]))
set_option maxRecDepth 20000 in
theorem keyN_of (n : Nm) : keyOf Tryz.prog 70 (.agg (vals n.1).toArray) = some (keyN.lit n) :=
  keyOf_bytes Tryz.underlying70 Tryz.underlying5 (by kernel_rfl) (by kernel_rfl) (by kernel_rfl) (of_decide_eq_true (by kernel_rfl)) n.1 n.2
theorem keyedI : Maps.Keyed Tryz.prog 3 := Maps.int_keyed Tryz.underlying3
theorem keyI_of (n : Int) (h : -9223372036854775808 ≤ n ∧ n ≤ 9223372036854775807) : keyOf Tryz.prog 3 (.int .i64 n) = some (keyI.lit n) :=
  Maps.keyOf_int_mk Tryz.underlying3 (by unfold Lit.wf; simp only [Bool.and_eq_true, decide_eq_true_eq]; exact h)
theorem keyedS : Maps.Keyed Tryz.prog 9 := Maps.string_keyed Tryz.underlying9
theorem keyS_of (s : List UInt8) (h : s.length ≤ maxLen) : keyOf Tryz.prog 9 (.string ⟨s.toArray⟩) = some (keyS.lit s) := by
  have hb : (ByteArray.mk s.toArray).size ≤ maxLen := h
  unfold keyOf
  simp only [Tryz.underlying9]
  unfold mapKey
  simp only [Tryz.underlying9, hb, if_true]
  rfl
end Go.Proofs.YtemnebbdaljfbaaGreatDoor

namespace Go.Proofs.YtemnebbdaljfbaaGreatDoor
open Go.RowKit

/-- Elements that are numbers. -/
def Nums {α : Type} (M : List (α × Value)) : Prop := ∀ x ∈ M, ∃ c : Int, x.2 = .int .i64 c
theorem Nums.get {α : Type} [DecidableEq α] {M : List (α × Value)} (h : Nums M) (k : α) : ∃ c : Int, getE k M (.int .i64 0) = .int .i64 c := by
  unfold getE
  cases hf : M.find? (fun x => decide (x.1 = k)) with
  | none => exact ⟨0, rfl⟩
  | some x => exact h x (List.mem_of_find?_eq_some hf)
theorem Nums.cons {α : Type} [DecidableEq α] {M : List (α × Value)} (h : Nums M) (k : α) (c : Int) : Nums ((k, .int .i64 c) :: woE k M) := by
  intro x hx
  rcases List.mem_cons.1 hx with rfl | hx
  · exact ⟨c, rfl⟩
  · exact h x (List.mem_filter.1 hx).1
/-- Both maps behind some of the blocks. -/
structure UnR (W wr : World) (L : List Blk) (k : Nat) (bm bn : Nat) (M : List (Int × Value)) (N : List (Nm × Value)) : Prop where
  m : MapK Tryz.prog 3 keyI wr bm M
  n : MapK Tryz.prog 70 keyN wr bn N
  cm : Cnt ((L.take k).map (·.h.mi)) M
  cn : Cnt ((L.take k).map (·.id)) N
  im : Nums M
  iN : Nums N
  b : Below W.heap.size W wr
  lo : W.heap.size ≤ bm
  lo2 : W.heap.size ≤ bn
  ne : bm ≠ bn
/-- What stands while a name's entry is taken and stored. -/
def UG (W2 : World) (bn : Nat) (k : Nm) (N : List (Nm × Value)) (cv : Int) (j : Nat) (x : Value) (w1 : World) : Prop :=
  Mod (fun i => i = bn) W2 w1 ∧
  (j ≤ 2 → (Instr.lookup 158 (.map (some bn)) (.agg (vals k.1).toArray) false).run Tryz.prog w1 = .ok (.int .i64 cv) w1) ∧
  (j = 0 → MapK Tryz.prog 70 keyN w1 bn N) ∧
  (j = 1 → ∃ st : Nat, x = .tuple #[.int .i64 cv, goInt st] ∧ ∀ (w2 : World) (v : Value), w2.heap[bn]? = w1.heap[bn]? → ∃ w', (Instr.entryStore 158 (.map (some bn)) (goInt st) v).run Tryz.prog w2 = .ok () w' ∧ MapK Tryz.prog 70 keyN w' bn ((k, v) :: woE k N) ∧ Mod (fun i => i = bn) w2 w') ∧
  (j = 2 → ∃ st : Nat, x = goInt st ∧ ∀ (w2 : World) (v : Value), w2.heap[bn]? = w1.heap[bn]? → ∃ w', (Instr.entryStore 158 (.map (some bn)) (goInt st) v).run Tryz.prog w2 = .ok () w' ∧ MapK Tryz.prog 70 keyN w' bn ((k, v) :: woE k N) ∧ Mod (fun i => i = bn) w2 w') ∧
  (j = 3 → MapK Tryz.prog 70 keyN w1 bn ((k, .int .i64 (IntKind.i64.wrap (cv + 1))) :: woE k N))
theorem zero_int (w : World) : (zeroValue 3).run Tryz.prog w = .ok (.int .i64 0) w := Tryz.zeroValue3 w
set_option maxRecDepth 20000 in
set_option maxHeartbeats 4000000 in
theorem tsunlike_any (p : Option Addr) (c : Nat) (L : List Blk) (w : World) (hR : Rd encK w p L) (hn : L.length ≤ 1000000) (hm : ∀ b ∈ L, -9223372036854775808 ≤ b.h.mi ∧ b.h.mi ≤ 9223372036854775807) :
    Calls Tryz.prog 89 #[.slice p L.length c] w fun r w' => r = .returned (.bool (decide ((L.map (·.h.mi)).Nodup) && decide ((L.map (·.id)).Nodup))) ∧ Below w.heap.size w w' := by
  obtain ⟨n, hnl⟩ : ∃ n, n = L.length := ⟨_, rfl⟩
  have H0 : Hid (UnR w ((w.alloc (.map #[] 0)).alloc (.map #[] 0)) L 0 w.heap.size (w.heap.size + 1) [] []) := Lib.hid (by
    have h1 := MapK.made Tryz.prog 3 keyI w
    have h2 := MapK.made Tryz.prog 70 keyN (w.alloc (.map #[] 0))
    have b1 : Below (w.alloc (.map #[] 0)).heap.size (w.alloc (.map #[] 0)) ((w.alloc (.map #[] 0)).alloc (.map #[] 0)) := (Below.refl _ _).alloc (Nat.le_refl _) _
    exact ⟨h1.old b1, by simpa using h2, Cnt.zero, Cnt.zero, (fun x h => by cases h), (fun x h => by cases h), ((Below.refl _ w).alloc (Nat.le_refl _) _).alloc (by simp) _, Nat.le_refl _, by omega, by omega⟩)
  obtain ⟨ans, hans⟩ : ∃ a, a = (decide ((L.map (·.h.mi)).Nodup) && decide ((L.map (·.id)).Nodup)) := ⟨_, rfl⟩
  rw [← hans]
  have HANS := Lib.hid hans
  rw [← hnl] at hn ⊢
  have HNL := Lib.hid hnl
  clear hans
  have HR := Lib.hid hR
  have HM := Lib.hid hm
  clear hR hm hnl
  have hmk1 : ∀ w, (Instr.makeMap 157 none).run Tryz.prog w = .ok (.map (some w.heap.size)) (w.alloc (.map #[] 0)) := fun w => run_makeMap _ _
  have hmk2 : ∀ w, (Instr.makeMap 158 none).run Tryz.prog w = .ok (.map (some w.heap.size)) (w.alloc (.map #[] 0)) := fun w => run_makeMap _ _
  go_enter Tryz.func89, Tryz.ntmps89
  go_wp2_with fail
  clear hmk1 hmk2
  go_loopw [11] (fun s11 wr => ∃ (k : Nat) (M : List (Int × Value)) (N : List (Nm × Value)), k ≤ n ∧ s11 = .int .i64 (k : Int) ∧ Hid (UnR w wr L k w.heap.size (w.heap.size + 1) M N)) (fun s11 _ => n - (intOf s11).toNat)
  case atStart => exact ⟨0, [], [], by omega, rfl, H0⟩
  case round =>
    clear H0
    obtain ⟨k, M, N, hkn, rfl, HS⟩ := hrel
    have k0 : (0 : Int) ≤ k := by omega
    obtain ⟨bm, hbm⟩ : ∃ x, x = w.heap.size := ⟨_, rfl⟩
    by_cases hlt : k < n
    · have hlt' : (k : Int) < n := by omega
      have hkl : k < L.length := by have := HNL.out; omega
      obtain ⟨bs, off, rfl, hbs, hc⟩ := (HR.out.old HS.out.b) k hkl
      obtain ⟨b, hb⟩ : ∃ b, b = L[k] := ⟨_, rfl⟩
      rw [← hb] at hc
      have HCC : Hid (∀ i u, b.cells[i]? = some u → wr.cell? ⟨bs, off + k * 39 + i, none⟩ = some u) := Lib.hid hc
      have HMI : Hid (-9223372036854775808 ≤ b.h.mi ∧ b.h.mi ≤ 9223372036854775807) := Lib.hid (hb ▸ HM.out _ (List.getElem_mem hkl))
      have HX : Hid ((L.take (k + 1)) = L.take k ++ [b]) := Lib.hid (by rw [List.take_succ_eq_append_getElem hkl, ← hb])
      have HSZ : Hid (b.cells.toArray.size = 39) := Lib.hid b.size
      have HQ3 := Lib.hid (blk_info b)
      have HQ4 : Hid (∀ v ∈ b.cells.toArray.toList, v.oneCell' = true) := Lib.hid (by simpa using b.one)
      have HML : Hid (M.length < maxLen ∧ N.length < maxLen) := Lib.hid (by
        have h1 := HS.out.cm.le
        have h2 := HS.out.cn.le
        rw [List.length_map, List.length_take] at h1 h2
        have := HNL.out
        unfold maxLen; omega)
      clear hb hc hbs hkl
      go_upto_region 6 with (first
        | (refine wpList_load_blk rfl (.tmp 13) rfl bs (off + k * 39) rfl b HCC.out ?_; go_frame)
        | (refine wpList_store_row rfl rfl 72 (.tmp 6) (.tmp 14) rfl wr.heap.size rfl 72 _ b.cells.toArray rfl (heap_alloc_new wr _) HSZ.out.symm HQ3.out HQ4.out ?_))
      refine wp_gen (fun W1 => W1.heap[wr.heap.size]? = some (.cells b.cells.toArray 72 (0, 0)) ∧ Below wr.heap.size wr W1) (row_new wr _ _ b.cells.toArray 72 rfl) (fun W1 hW1 => ?_)
      have HRW0 := Lib.hid hW1.1
      have HB1 := Lib.hid hW1.2
      clear hW1 HCC HQ3 HQ4 HSZ
      obtain ⟨g, hg⟩ : ∃ g, g = wr.heap.size := ⟨_, rfl⟩
      rw [← hg] at HRW0
      rw [← hg]
      have HG := Lib.hid hg
      clear hg
      obtain ⟨cm, hcm⟩ := HS.out.im.get b.h.mi
      obtain ⟨cv, hcv⟩ := HS.out.iN.get b.id
      have hM1 := HS.out.m.old HB1.out
      have hN1 := HS.out.n.old HB1.out
      have hlk := hM1.look keyedI Tryz.underlying157 (zero_int W1) (keyI_of b.h.mi HMI.out)
      rw [hcm] at hlk
      obtain ⟨W2, hst, hM2, hm2⟩ := hM1.store keyedI Tryz.underlying157 HML.out.1 (keyI_of b.h.mi HMI.out) (.int .i64 (wrap64 (cm + 1)))
      have hbn : w.heap.size + 1 ≠ w.heap.size := by omega
      have HN2 := Lib.hid (hN1.kept hm2 hbn)
      have HM2 := Lib.hid hM2
      have hgW : g < W1.heap.size := (Array.getElem?_eq_some_iff.1 HRW0.out).1
      have hgm : g ≠ w.heap.size := hM1.notCells HRW0.out
      have hgn : g ≠ w.heap.size + 1 := hN1.notCells HRW0.out
      have hRW2 := (hm2.block g hgW hgm).trans HRW0.out
      have c33 : W1.cell? ⟨g, 33, none⟩ = some (.int .i64 b.h.mi) := by
        have : (hcells b.h b.q b.c).toList[1]? = some (.int .i64 b.h.mi) := rfl
        exact blk_hd HRW0.out this
      have HE2 : Hid (Below w.heap.size w W2) := Lib.hid (by
        have h1 := HS.out.b.trans (HB1.out.mono HS.out.b.size)
        exact h1.trans (hm2.to_below h1.size (by rintro i hi rfl; omega)))
      have HCV := Lib.hid hcv
      have HGM : Hid (g ≠ w.heap.size ∧ g ≠ w.heap.size + 1) := Lib.hid ⟨hgm, hgn⟩
      have HRW := Lib.hid hRW2
      have HGL : Hid (g < W2.heap.size) := Lib.hid (Nat.lt_of_lt_of_le hgW hm2.size)
      have HNX : Hid (UnR w W2 L k w.heap.size (w.heap.size + 1) ((b.h.mi, .int .i64 (wrap64 (cm + 1))) :: woE b.h.mi M) N → True) := Lib.hid (fun _ => trivial)
      obtain ⟨mi, hmi⟩ : ∃ x, x = b.h.mi := ⟨_, rfl⟩
      rw [← hmi] at hlk hst c33
      have HMIQ := Lib.hid hmi
      clear hcm hcv hM1 hN1 hm2 hM2 hgW hgm hgn hRW2 hmi hbn HRW0 HNX
      go_upto_region 7 with fail
      clear hlk hst c33
      obtain ⟨bn, hbn⟩ : ∃ x, x = w.heap.size + 1 := ⟨_, rfl⟩
      have HGN : Hid (¬ g = bn) := Lib.hid (by rw [hbn]; exact HGM.out.2)
      rw [← hbn] at HN2
      rw [← hbn]
      have HBN := Lib.hid hbn
      have HEN : Hid (∀ w1 : World, MapK Tryz.prog 70 keyN w1 bn N → ∃ (st : Nat) (w' : World), (Instr.mapEntry 158 (.map (some bn)) (.agg (vals b.id.1).toArray)).run Tryz.prog w1 = .ok (.tuple #[.int .i64 cv, goInt st]) w' ∧ Mod (fun i => i = bn) w1 w' ∧ (Instr.lookup 158 (.map (some bn)) (.agg (vals b.id.1).toArray) false).run Tryz.prog w' = .ok (.int .i64 cv) w' ∧ ∀ (w2 : World) (v : Value), w2.heap[bn]? = w'.heap[bn]? → ∃ w3, (Instr.entryStore 158 (.map (some bn)) (goInt st) v).run Tryz.prog w2 = .ok () w3 ∧ MapK Tryz.prog 70 keyN w3 bn ((b.id, v) :: woE b.id N) ∧ Mod (fun i => i = bn) w2 w3) := Lib.hid (fun w1 h => by
        obtain ⟨st, w', h1, h2, h3, h4⟩ := h.entry keyedN Tryz.underlying158 HML.out.2 zero_int (keyN_of b.id)
        rw [HCV.out] at h1
        have h5 := h3 w' rfl
        rw [HCV.out] at h5
        exact ⟨st, w', h1, h2, h5, h4⟩)
      clear hbn
      have HG0 : Hid (UG W2 bn b.id N cv 0 undef W2.drew) := Lib.hid ⟨(Mod.refl _ W2).drew, (fun _ => by
        have h : MapK Tryz.prog 70 keyN W2.drew bn N := HN2.out.same rfl
        have := h.look keyedN Tryz.underlying158 (zero_int _) (keyN_of b.id)
        rw [HCV.out] at this; exact this), (fun _ => HN2.out.same rfl), (fun h => absurd h (by omega)), (fun h => absurd h (by omega)), (fun h => absurd h (by omega))⟩
      refine wp_region_chain (fun t v => match t with
        | 21 => v = .map (some bn)
        | 22 => v = .pointer (some ⟨g, 0, none⟩)
        | 23 => v = .agg (vals b.id.1).toArray
        | 24 => v = .int .i64 cv
        | 25 => v = .int .i64 (IntKind.i64.wrap (cv + 1))
        | _ => True) (UG W2 bn b.id N cv) [5, 6, 7] 41 (by kernel_rfl) (by decide +kernel) rfl (by decide +kernel) (by decide) (by decide) HG0.out (by
        refine OweAllC.cons (owesC_val 0 (by decide +kernel) (by decide) rfl rfl fun k' a w1 x hk ha hG hV => ?_) ?_
        · skip
          have h4 := ha.outer 4 (by decide +kernel)
          simp only [Act.eval] at h4
          exact ⟨.map (some bn), wanted_free rfl, by simp [execOp, go_sem, h4], rfl⟩
        refine OweAllC.cons (owesC_val 0 (by decide +kernel) (by decide) rfl rfl fun k' a w1 x hk ha hG hV => ?_) ?_
        · skip
          have h6 := ha.outer 6 (by decide +kernel)
          simp only [Act.eval] at h6
          exact ⟨.pointer (some ⟨g, 0, none⟩), wanted_free rfl, by simp [execOp, go_sem, h6], rfl⟩
        refine OweAllC.cons (owesC_val 0 (by decide +kernel) (by decide) rfl rfl fun k' a w1 x hk ha hG hV => ?_) ?_
        · skip
          have h22 : a.tmps.getD 22 undef = .pointer (some ⟨g, 0, none⟩) := hV.get 22 (by decide +kernel)
          have hrow := (hG.1.block _ HGL.out HGN.out).trans HRW.out
          exact ⟨.agg (vals b.id.1).toArray, wanted_free rfl, exec_load_mid (.tmp 22) rfl g 0 h22 b.id (fun i u hu => blk_id hrow hu), rfl⟩
        refine OweAllC.cons (owesC_val 2 (by decide +kernel) (by decide) rfl rfl fun k' a w1 x hk ha hG hV => ?_) ?_
        · skip
          have h21 : a.tmps.getD 21 undef = .map (some bn) := hV.get 21 (by decide +kernel)
          have h23 : a.tmps.getD 23 undef = .agg (vals b.id.1).toArray := hV.get 23 (by decide +kernel)
          have lk := hG.2.1 (by omega)
          exact ⟨.int .i64 cv, wanted_free rfl, by simp [execOp, go_sem, h21, h23, lk], rfl⟩
        refine OweAllC.cons (owesC_val 2 (by decide +kernel) (by decide) rfl rfl fun k' a w1 x hk ha hG hV => ?_) ?_
        · skip
          have h24 : a.tmps.getD 24 undef = .int .i64 cv := hV.get 24 (by decide +kernel)
          exact ⟨.int .i64 (IntKind.i64.wrap (cv + 1)), wanted_free rfl, by simp [execOp, go_sem, h24], rfl⟩
        refine OweAllC.cons (owesC_mem 0 rfl rfl rfl fun a w1 x ha hG hx hV => ?_) ?_
        · skip
          have h21 : a.tmps.getD 21 undef = .map (some bn) := hV.get 21 (by decide +kernel)
          have h23 : a.tmps.getD 23 undef = .agg (vals b.id.1).toArray := hV.get 23 (by decide +kernel)
          obtain ⟨st, w', hr, hm, hl, hf⟩ := HEN.out w1 (hG.2.2.1 rfl)
          exact ⟨_, w', wanted_free rfl, by simp [execOp, go_sem, h21, h23, hr], trivial, hG.1.trans hm (fun i _ h => h), (fun _ => hl), (fun h => absurd h (by omega)), (fun _ => ⟨st, rfl, hf⟩), (fun h => absurd h (by omega)), (fun h => absurd h (by omega))⟩
        refine OweAllC.cons (owesC_mem 1 rfl rfl rfl fun a w1 x ha hG hx hV => ?_) ?_
        · skip
          have h26 := hx 0 5 _ 26 rfl rfl rfl rfl
          obtain ⟨st, rfl, hf⟩ := hG.2.2.2.1 rfl
          simp only [Act.eval] at h26
          exact ⟨_, w1, wanted_free rfl, by simp [execOp, go_sem, h26], trivial, hG.1, (fun _ => hG.2.1 (by omega)), (fun h => absurd h (by omega)), (fun h => absurd h (by omega)), (fun _ => ⟨st, rfl, hf⟩), (fun h => absurd h (by omega))⟩
        refine OweAllC.cons (owesC_store 2 rfl rfl rfl fun a w1 x ha hG hx hV => ?_) ?_
        · skip
          have h21 : a.tmps.getD 21 undef = .map (some bn) := hV.get 21 (by decide +kernel)
          have h25 : a.tmps.getD 25 undef = .int .i64 (IntKind.i64.wrap (cv + 1)) := hV.get 25 (by decide +kernel)
          have h27 := hx 1 6 _ 27 rfl rfl rfl rfl
          obtain ⟨st, rfl, hf⟩ := hG.2.2.2.2.1 rfl
          simp only [Act.eval] at h27
          obtain ⟨w', hr, hM, hm⟩ := hf w1 (.int .i64 (IntKind.i64.wrap (cv + 1))) rfl
          have hr' : (Instr.entryStore 158 (.map (some bn)) (.int .i64 (st : Int)) (.int .i64 (IntKind.i64.wrap (cv + 1)))).run Tryz.prog w1 = .ok () w' := hr
          exact ⟨w', wanted_free rfl, by simp [execOp, go_sem, h21, h25, h27, hr'], hG.1.trans hm (fun i _ h => h), (fun h => absurd h (by omega)), (fun h => absurd h (by omega)), (fun h => absurd h (by omega)), (fun h => absurd h (by omega)), (fun _ => hM)⟩
        exact OweAllC.nil
        ) ?_
      intro f wz xz hG hx hv
      first | (rename_i hK; refine hK _ _ ?_; clear hK) | (rename_i hK _; refine hK _ _ ?_; clear hK) | (rename_i hK _ _; refine hK _ _ ?_; clear hK) | (rename_i hK _ _ _; refine hK _ _ ?_; clear hK)
      clear hv hx
      simp only [dsts, puts, List.filterMap_cons, List.filterMap_nil, List.foldl_cons, List.foldl_nil, Act.put, List.setIfInBounds_toArray, List.set_cons_succ, List.set_cons_zero]
      obtain ⟨hmz, _, _, _, _, hz⟩ := hG
      have hNz := hz rfl
      have HSS : Hid (UnR w wz L (k + 1) w.heap.size bn ((b.h.mi, .int .i64 (wrap64 (cm + 1))) :: woE b.h.mi M) ((b.id, .int .i64 (IntKind.i64.wrap (cv + 1))) :: woE b.id N)) := Lib.hid (by
        have e1 := HS.out.cm.push HS.out.m.ap b.h.mi (.int .i64 (wrap64 (cm + 1)))
        have e2 := HS.out.cn.push HS.out.n.ap b.id (.int .i64 (IntKind.i64.wrap (cv + 1)))
        have hb := HBN.out
        refine ⟨HM2.out.kept hmz (by omega), hNz, ?_, ?_, HS.out.im.cons _ _, HS.out.iN.cons _ _, HE2.out.trans (hmz.to_below HE2.out.size (by rintro i hi rfl; omega)), Nat.le_refl _, by omega, by omega⟩
        · rw [HX.out, List.map_append]; exact e1
        · rw [HX.out, List.map_append]; exact e2)
      obtain rfl := HBN.out
      clear HG0 hmz hz hNz HS HM2 HN2 HEN
      go_wp2_with fail
      go_roundw
      case rel => exact ⟨k + 1, _, _, by omega, by go_num, HSS⟩
      case measure => simp [intOf]; omega
    · obtain rfl : k = n := by omega
      have hlt' : ¬ (k : Int) < k := by omega
      have ht : L.take k = L := List.take_of_length_le (by have := HNL.out; omega)
      have h1 := HS.out.cm.all
      have h2 := HS.out.cn.all
      rw [ht, List.length_map, ← HNL.out] at h1 h2
      have l1 := HS.out.m.len Tryz.underlying157 3
      have l2 := HS.out.n.len Tryz.underlying158 3
      have HE := Lib.hid HS.out.b
      have HLM := Lib.hid l1
      obtain ⟨lm, hlm⟩ : ∃ x, x = M.length := ⟨_, rfl⟩
      obtain ⟨ln, hln⟩ : ∃ x, x = N.length := ⟨_, rfl⟩
      rw [← hlm] at h1 l1
      rw [← hln] at h2 l2
      have e1 : decide ((L.map (·.h.mi)).Nodup) = decide (lm = k) := decide_eq_decide.2 h1.symm
      have e2 : decide ((L.map (·.id)).Nodup) = decide (ln = k) := decide_eq_decide.2 h2.symm
      have HA : Hid (ans = (decide (lm = k) && decide (ln = k))) := Lib.hid (by rw [HANS.out, e1, e2])
      clear h1 h2 ht hlt HS e1 e2 hlm hln HLM HANS
      by_cases q1 : lm = k
      · subst q1
        by_cases q2 : ln = lm
        · subst q2
          go_wp2_with fail
          go_ret
          exact ⟨by rw [HA.out]; simp, HE.out⟩
        · have q2' : ((ln : Int) == (lm : Int)) = false := by simp; omega
          go_wp2_with fail
          go_ret
          exact ⟨by rw [HA.out]; simp [q2], HE.out⟩
      · have q1' : ((lm : Int) == (k : Int)) = false := by simp; omega
        go_wp2_with fail
        go_ret
        exact ⟨by rw [HA.out]; simp [q1], HE.out⟩
end Go.Proofs.YtemnebbdaljfbaaGreatDoor

namespace Go.Proofs.YtemnebbdaljfbaaGreatDoor
open Go.RowKit Go.Sort

section
variable {α : Type} [Inhabited α] {E : Enc α}
theorem flat_getE (E : Enc α) (M : Array α) (t : Nat) (h : t < M.size * E.k) : (E.all M.toList)[t]? = some ((flatK E.f E.k M)[t]!) := by
  have hp := E.pos
  have hq : t / E.k < M.size := (Nat.div_lt_iff_lt_mul hp).2 h
  have hd : t / E.k < M.toList.length := by rw [Array.length_toList]; exact hq
  have hr : t % E.k < E.k := Nat.mod_lt _ hp
  have he : t / E.k * E.k + t % E.k = t := by rw [Nat.mul_comm]; exact Nat.div_add_mod t E.k
  have h1 := E.all_get M.toList (t / E.k) (t % E.k) hd hr
  rw [he] at h1
  rw [h1, get_flatK _ _ _ _ h]
  rw [getElem!_pos M _ hq, Array.getElem_toList]
  have hl : t % E.k < (E.f M[t / E.k]).length := by rw [E.len]; exact hr
  rw [List.getElem?_eq_getElem hl, getElem!_pos (E.f M[t / E.k]) (t % E.k) hl]
theorem Rw.holdsE {T : TypeId} {w : World} {g c : Nat} {L : List α} (h : Rw E T w (some ⟨g, 0, none⟩) c L) : HoldsK E.f E.k w g 0 L.toArray := by
  obtain ⟨cur, hh, h3, h1, h2, R, hR⟩ := h.parts
  intro j hj
  have hj2 : j < L.toArray.size * E.k := by simpa using hj
  refine ⟨?_, frozen_of_row w g _ _ T hh⟩
  rw [cell_of_row w g _ _ T (0, 0) hh, Nat.zero_add]
  have hl : j < (E.all L).length := by rw [E.all_len]; simpa using hj2
  have e := flat_getE E L.toArray j hj2
  rw [List.toList_toArray] at e
  rw [← Array.getElem?_toList, hR, List.getElem?_append_left hl, e]; rfl
theorem Rw.sortedE {T : TypeId} {w : World} {g c : Nat} {L : List α} (h : Rw E T w (some ⟨g, 0, none⟩) c L) (d : Array α) (hd : d.size = L.length) (m : Nat) (os : Array Obj) :
    Rw E T (sortWorldK E.f E.k w g 0 m d os) (some ⟨g, 0, none⟩) c d.toList ∧ Mod (fun i => i = g) w (sortWorldK E.f E.k w g 0 m d os) := by
  obtain ⟨cur, hh, h3, h1, h2, R, hR⟩ := h.parts
  have hgl : g < w.heap.size := h.lt
  have hk : ∀ k, k < w.heap.size → (sortWorldK E.f E.k w g 0 m d os).heap[k]? = if g = k then some (.cells (putCells id 0 (flatK E.f E.k d) cur) T (0, 0)) else w.heap[k]? := by
    intro k hk
    have e : (sortWorldK E.f E.k w g 0 m d os).heap = (w.heap.modify g (onCells (putCells id 0 (flatK E.f E.k d)))) ++ os := rfl
    rw [e, Array.getElem?_append_left (by rw [Array.size_modify]; exact hk), Array.getElem?_modify]
    by_cases e1 : g = k
    · subst e1; rw [if_pos rfl, if_pos rfl, hh]; rfl
    · rw [if_neg e1, if_neg e1]
  refine ⟨Rw.of_row (by rw [hk g hgl, if_pos rfl]) (by rw [Array.length_toList, hd]; exact h1) h2 (by rw [← h3]; simp [putCells]) ?_, rfl, rfl, rfl, size_sortWorldK_c E.f E.k w g 0 m d os, fun k hk1 hn => by rw [hk k hk1, if_neg (fun e => hn e.symm)]⟩
  have hcl : d.size * E.k ≤ cur.size := by rw [h3, hd]; exact Nat.mul_le_mul_right E.k h1
  apply List.ext_getElem?
  intro t
  by_cases ht : t < d.size * E.k
  · rw [flat_getE E d t ht, List.getElem?_take_of_lt (by rw [Array.length_toList]; exact ht), Array.getElem?_toList]
    have htc : t < cur.size := by omega
    have hz : (flatK E.f E.k d).size = d.size * E.k := by simp [flatK]
    simp [putCells, htc, hz, ht]
  · have h5 : (E.all d.toList).length = d.size * E.k := by rw [E.all_len, Array.length_toList]
    rw [List.getElem?_eq_none (by rw [List.length_take, Array.length_toList]; exact Nat.le_trans (Nat.min_le_left _ _) (Nat.le_of_not_lt ht)), List.getElem?_eq_none (by rw [h5]; omega)]
end
/-- Blocks of a list. -/
def encD (D : List Blk) : Enc {b : Blk // b ∈ D} := ⟨fun x => x.1.cells, 39, fun x => x.1.len, fun x => x.1.one, by decide⟩
theorem encD_all (D : List Blk) : ∀ S : List {b : Blk // b ∈ D}, (encD D).all S = encK.all (S.map (·.1))
  | [] => rfl
  | x :: S => by rw [show (encD D).all (x :: S) = x.1.cells ++ (encD D).all S from rfl, encD_all D S]; rfl
theorem Rw.toD {T : TypeId} {w : World} {p : Option Addr} {c : Nat} {D : List Blk} {S : List {b : Blk // b ∈ D}} (h : Rw encK T w p c (S.map (·.1))) : Rw (encD D) T w p c S := by
  unfold Rw at h ⊢
  rw [List.length_map] at h
  rw [encD_all]; exact h
theorem Rw.ofD {T : TypeId} {w : World} {p : Option Addr} {c : Nat} {D : List Blk} {S : List {b : Blk // b ∈ D}} (h : Rw (encD D) T w p c S) : Rw encK T w p c (S.map (·.1)) := by
  unfold Rw at h ⊢
  rw [List.length_map]
  rw [encD_all] at h; exact h
/-- Two blocks of a list against each other. -/
def cfD {D : List Blk} (x y : {b : Blk // b ∈ D}) : Int := Lib.compareBytes x.1.id.1 y.1.id.1
theorem cfD_swo {D : List Blk} : SWO (ltOf (cfD (D := D))) where
  irrefl x := cfN_swo.irrefl x.1.id
  trans x y z := cfN_swo.trans x.1.id y.1.id z.1.id
  ntrans x y z := cfN_swo.ntrans x.1.id y.1.id z.1.id
theorem eq_of_id {D : List Blk} (hD : (D.map (·.id)).Nodup) {x y : Blk} (hx : x ∈ D) (hy : y ∈ D) (h : x.id = y.id) : x = y := by
  induction D with
  | nil => cases hx
  | cons a l ih =>
    rw [List.map_cons, List.nodup_cons] at hD
    rcases List.mem_cons.1 hx with e1 | h1
    · rcases List.mem_cons.1 hy with e2 | h2
      · rw [e1, e2]
      · exact absurd (List.mem_map.2 ⟨y, h2, by rw [← h, e1]⟩) hD.1
    · rcases List.mem_cons.1 hy with e2 | h2
      · exact absurd (List.mem_map.2 ⟨x, h1, by rw [h, e2]⟩) hD.1
      · exact ih hD.2 h1 h2
theorem cfD_total {D : List Blk} (hD : (D.map (·.id)).Nodup) (x y : {b : Blk // b ∈ D}) (h1 : ltOf cfD x y = false) (h2 : ltOf cfD y x = false) : x = y :=
  Subtype.ext (eq_of_id hD x.2 y.2 (cfN_total x.1.id y.1.id h1 h2))
/-- Blocks sorted. -/
def bsort (D : List Blk) : List Blk := D.mergeSort fun x y => !(ltOf cfN) y.id x.id
theorem bsort_attach (D : List Blk) : (D.attach.mergeSort fun x y => !(ltOf cfD) y x).map (·.1) = bsort D := by
  refine (List.map_mergeSort (r := fun x y => !(ltOf cfD) y x) (s := fun x y : Blk => !(ltOf cfN) y.id x.id) (fun a _ b _ => rfl)).trans ?_
  rw [List.attach_map_subtype_val]; rfl
set_option maxHeartbeats 1000000 in
set_option maxRecDepth 20000 in
/-- New's comparison lays rows, and draws. -/
theorem tsnew1_grow (x y : Blk) (w : World) :
    Calls Tryz.prog 92 #[.agg x.cells.toArray, .agg y.cells.toArray] w fun r w' => r = .returned (.int .i64 (Lib.compareBytes x.id.1 y.id.1)) ∧ ∃ q os', w' = grow (w.drewN q) os' := by
  obtain ⟨n1, hn1⟩ : ∃ n, n = x.id.1 := ⟨_, rfl⟩
  obtain ⟨n2, hn2⟩ : ∃ n, n = y.id.1 := ⟨_, rfl⟩
  have hA : NmAt8 ((w.alloc (.cells x.cells.toArray 72)).alloc (.cells y.cells.toArray 72)) w.heap.size n1 := by rw [hn1]; exact NmAt8.blk (by rw [Below.heap_alloc _ _ _ (by simp)]; exact heap_alloc_new w _)
  have hB : NmAt8 ((w.alloc (.cells x.cells.toArray 72)).alloc (.cells y.cells.toArray 72)) (w.heap.size + 1) n2 := by rw [hn2]; exact NmAt8.blk (by have := heap_alloc_new (w.alloc (.cells x.cells.toArray 72)) (.cells y.cells.toArray 72); simpa using this)
  have hb : ∃ os, (w.alloc (.cells x.cells.toArray 72)).alloc (.cells y.cells.toArray 72) = grow w os := ⟨_, by rw [alloc_eq_grow, alloc_eq_grow, grow_grow]⟩
  rw [← hn1, ← hn2]
  have HA := Lib.hid hA
  have HB := Lib.hid hB
  have Hb := Lib.hid hb
  clear hA hB hb hn1 hn2
  go_enter Tryz.func92, Tryz.ntmps92
  go_wp2_with fail
  generalize (w.alloc (.cells x.cells.toArray 72)).alloc (.cells y.cells.toArray 72) = W at HA HB Hb ⊢
  generalize w.heap.size = n0 at HA HB ⊢
  have Hq : Hid (∀ w' q, w' = W.drewN q → Below W.heap.size W w') := Lib.hid (fun w' q e => by rw [e]; exact ⟨rfl, rfl, rfl, Nat.le_refl _, fun _ _ => rfl⟩)
  refine wp_region_puts (fun t v w => VK (match t with
    | 5 => .eq (.pointer (some ⟨n0, 0, none⟩))
    | 6 => .eq (.slice (some ⟨n0, 0, none⟩) 32 32)
    | 7 => .eq (.pointer (some ⟨n0 + 1, 0, none⟩))
    | 8 => .eq (.slice (some ⟨n0 + 1, 0, none⟩) 32 32)
    | 9 => .eq (.int .i64 (Lib.compareBytes n1 n2))
    | 4 => .eq (.int .i64 (Lib.compareBytes n1 n2))
    | _ => .any) v w) (fun w' => ∃ q, w' = W.drewN q) 10 (by kernel_rfl) (by decide +kernel) rfl ⟨1, rfl⟩ (by
    refine OweAll.cons (owesQ rfl rfl fun a w1 ha hG hV => ?_) ?_
    · skip
      have h2 := ha.outer 2 (by decide +kernel)
      simp only [Act.eval] at h2
      exact ⟨.pointer (some ⟨n0, 0, none⟩), wanted_free rfl, by simp [execOp, go_sem, h2], rfl⟩
    refine OweAll.cons (owesQ rfl rfl fun a w1 ha hG hV => ?_) ?_
    · skip
      have h5 : a.tmps.getD 5 undef = .pointer (some ⟨n0, 0, none⟩) := hV.get 5 (by decide +kernel)
      exact ⟨.slice (some ⟨n0, 0, none⟩) 32 32, wanted_free rfl, by simp [execOp, go_sem, h5], rfl⟩
    refine OweAll.cons (owesQ rfl rfl fun a w1 ha hG hV => ?_) ?_
    · skip
      have h3 := ha.outer 3 (by decide +kernel)
      simp only [Act.eval] at h3
      exact ⟨.pointer (some ⟨n0 + 1, 0, none⟩), wanted_free rfl, by simp [execOp, go_sem, h3], rfl⟩
    refine OweAll.cons (owesQ rfl rfl fun a w1 ha hG hV => ?_) ?_
    · skip
      have h7 : a.tmps.getD 7 undef = .pointer (some ⟨n0 + 1, 0, none⟩) := hV.get 7 (by decide +kernel)
      exact ⟨.slice (some ⟨n0 + 1, 0, none⟩) 32 32, wanted_free rfl, by simp [execOp, go_sem, h7], rfl⟩
    refine OweAll.cons (owesQ_call rfl rfl 93 fun a w1 ha hG hV => ?_) ?_
    · skip
      have h6 : a.tmps.getD 6 undef = .slice (some ⟨n0, 0, none⟩) 32 32 := hV.get 6 (by decide +kernel)
      have h8 : a.tmps.getD 8 undef = .slice (some ⟨n0 + 1, 0, none⟩) 32 32 := hV.get 8 (by decide +kernel)
      refine ⟨#[.slice (some ⟨n0, 0, none⟩) 32 32, .slice (some ⟨n0 + 1, 0, none⟩) 32 32], wanted_free rfl, by simp [execOp, resolve, invoke, go_sem, h6, h8], ?_⟩
      obtain ⟨q, hq⟩ := hG
      have hG := Hq.out w1 q hq
      refine (bcompare8_any _ _ n1 n2 w1 (HA.out.old hG) (HB.out.old hG)).mono ?_
      rintro r u2 ⟨rfl, rfl⟩; exact ⟨_, rfl, rfl, rfl⟩
    refine OweAll.cons (owesQ rfl rfl fun a w1 ha hG hV => ?_) ?_
    · skip
      have h9 : a.tmps.getD 9 undef = .int .i64 (Lib.compareBytes n1 n2) := hV.get 9 (by decide +kernel)
      exact ⟨.int .i64 (Lib.compareBytes n1 n2), wanted_free rfl, by simp [execOp, go_sem, h9], rfl⟩
    exact OweAll.nil
    ) ?_
  intro f wz hG hv
  have e4 : f 4 = .int .i64 (Lib.compareBytes n1 n2) := hv 5 _ 4 rfl rfl
  rename_i hK
  refine hK _ _ ?_
  clear hK hv
  simp only [dsts, puts, List.filterMap_cons, List.filterMap_nil, List.foldl_cons, List.foldl_nil, Act.put, List.setIfInBounds_toArray, List.set_cons_succ, List.set_cons_zero, e4]
  clear e4
  have HG : Hid (∃ q os', wz = grow (w.drewN q) os') := Lib.hid (by
    obtain ⟨q, rfl⟩ := hG
    obtain ⟨os, rfl⟩ := Hb.out
    exact ⟨q, os, rfl⟩)
  clear hG
  go_wp2_with fail
  go_ret
  exact ⟨rfl, HG.out⟩
theorem bsort_len (D : List Blk) : (bsort D).length = D.length := List.length_mergeSort _
theorem tssort_any (p : Option Addr) (c : Nat) (D : List Blk) (w : World) (hL : Rw encK 72 w p c D) (hn : D.length ≤ 1000000) (hd : (D.map (·.id)).Nodup) :
    Calls Tryz.prog 91 #[.slice p D.length c, .func (.func 92) #[] #[]] w fun r w' => r = .returned (.tuple #[]) ∧ Rw encK 72 w' p c (bsort D) ∧ Mod (fun i => ∃ a, p = some a ∧ i = a.block) w w' := by
  by_cases h0 : D = []
  · subst h0
    have h := AnyF.slices_SortFunc_none Tryz.sortBlk p c (.func (.func 92) #[] #[]) w
    refine Calls.mono (show Calls Tryz.prog 91 _ _ _ from h) ?_
    rintro r w' ⟨rfl, rfl⟩
    refine ⟨rfl, ?_, Mod.refl _ _⟩
    rw [show bsort [] = [] by simp [bsort]]; exact hL
  · rcases hL.shape with ⟨_, e, _⟩ | ⟨g, rfl, hgl, _⟩
    · exact absurd e h0
    · haveI : Inhabited {b : Blk // b ∈ D} := ⟨⟨D.head h0, List.head_mem h0⟩⟩
      have eg : ∀ args w, (callFunc 92 args).run Tryz.prog w = .ok (.enter 92 args) w := enters_of Tryz.func92 (by kernel_rfl) rfl
      have hL2 : Rw (encD D) 72 w (some ⟨g, 0, none⟩) c D.attach := Rw.toD (by rw [List.attach_map_subtype_val]; exact hL)
      have h := AnyQ.slices_SortFunc_total Tryz.sortBlk 39 Tryz.isAgg72 Tryz.sizeOf72 (encD D).f (encD D).len (encD D).one cfD cfD_swo 92 #[] g 0 c D.attach.toArray w eg
        (fun _ _ _ _ x y => tsnew1_grow x.1 y.1 _) hL2.holdsE hgl (by rw [List.size_toArray, List.length_attach]; omega) (cfD_total hd)
      rw [List.size_toArray, List.length_attach] at h
      refine Calls.mono (show Calls Tryz.prog 91 _ _ _ from h) ?_
      rintro r w' ⟨rfl, m, os, rfl⟩
      have hs := hL2.sortedE (D.attach.mergeSort fun x y => !(ltOf cfD) y x).toArray (by rw [List.size_toArray]; exact List.length_mergeSort _) m os
      rw [List.toList_toArray] at hs
      have h2 := hs.1.ofD
      rw [bsort_attach] at h2
      exact ⟨rfl, h2, hs.2.mono (fun i _ e => ⟨_, rfl, e⟩)⟩
end Go.Proofs.YtemnebbdaljfbaaGreatDoor

namespace Go.Proofs.YtemnebbdaljfbaaGreatDoor
open Go.RowKit Go.Sort

theorem results_cell_slotT {P : Program} {fn : Func} {p q : Tmp} {ty : TypeId} (h : fn.results = #[.cell p ty, .tmp q]) (tmps : Array Value) (w : World) (g : Nat) (t : TypeId) (cs : Array Value) (fr : Nat × Nat) (d : TypeDesc) (v : Value)
    (hp : tmps.getD p undef = .pointer (some ⟨g, 0, none⟩)) (hq : tmps.getD q undef = v) (hg : w.heap[g]? = some (.cells cs t fr))
    (hu : P.underlying ty = some d) (hd : (match d with | .struct _ | .array _ _ => true | _ => false) = true) (hi : (P.info? ty).map (·.size) = some cs.size) :
    (results fn tmps).run P w = .ok (.tuple #[.agg cs, v]) w := by
  have hp' : tmps[p]?.getD undef = .pointer (some ⟨g, 0, none⟩) := by simpa using hp
  have hq' : tmps[q]?.getD undef = v := by simpa using hq
  simp [results, h, hp', hq', asAddr, run_loadVar_row w g t ty cs fr d hg hu hd hi]
/-- A block's name and header. -/
abbrev BI := Nm × Hd Nm
def famI (x : BI) : List UInt8 := hfam x.2 (kB (kset x.2.ps))
def oneI : List BI → Bool
  | [] => true
  | x :: l => !(l.any fun y => !(famI y == famI x))
def diffI (X : List BI) : Bool := decide ((X.map (·.2.mi)).Nodup) && decide ((X.map (·.1)).Nodup)
/-- What New answers of blocks. -/
def newE (X : List BI) : Int := if 5 < X.length then 4 else if X = [] then 15 else if (oneI X && diffI X) = true then 0 else 15
def isort (X : List BI) : List BI := X.mergeSort fun x y => !(ltOf cfN) y.1 x.1
theorem isort_len (X : List BI) : (isort X).length = X.length := List.length_mergeSort _
theorem bsort_is (D : List Blk) : (bsort D).map Blk.is = isort (D.map Blk.is) := by
  unfold bsort isort
  exact List.map_mergeSort (r := fun x y : Blk => !(ltOf cfN) y.id x.id) (s := fun x y : BI => !(ltOf cfN) y.1 x.1) (fun a _ b _ => rfl)
theorem bsort_mem {D : List Blk} {b : Blk} (h : b ∈ bsort D) : b ∈ D := (List.mergeSort_perm _ _).mem_iff.1 h
theorem is_ids (L : List Blk) : (L.map Blk.is).map (·.1) = L.map (·.id) := by rw [List.map_map]; rfl
theorem is_mis (L : List Blk) : (L.map Blk.is).map (·.2.mi) = L.map (·.h.mi) := by rw [List.map_map]; rfl
theorem oneI_is (b : Blk) (L : List Blk) : oneI ((b :: L).map Blk.is) = !(L.any fun x => !(famK x == famK b)) := by
  rw [List.map_cons]
  show (!((L.map Blk.is).any _)) = _
  rw [List.any_map]; rfl
/-- What New's blocks are to be. -/
structure newOk (w : World) (b : Blk) : Prop where
  f : famOk w b
  mi : -9223372036854775808 ≤ b.h.mi ∧ b.h.mi ≤ 9223372036854775807
theorem newOk.old {w w' : World} {b : Blk} (h : newOk w b) (hb : Below w.heap.size w w') : newOk w' b := ⟨h.f.old hb, h.mi⟩
/-- A tipset in memory that was made since W. -/
structure TsW (W w : World) (q : Option Addr) (c : Nat) (D : List Blk) : Prop where
  rw : Rw encK 72 w q c D
  ok : ∀ b ∈ D, okW W w b
  f : ∀ a, q = some a → W.heap.size ≤ a.block
theorem TsW.old {W w w' : World} {q : Option Addr} {c : Nat} {D : List Blk} (h : TsW W w q c D) (hb : Below w.heap.size w w') : TsW W w' q c D :=
  ⟨h.rw.old hb, fun b hb' => ⟨(h.ok b hb').rw.old hb, (h.ok b hb').f, (h.ok b hb').n, (h.ok b hb').k⟩, h.f⟩
theorem TsW.kept {W w w' : World} {q : Option Addr} {c : Nat} {D : List Blk} {S : Nat → Prop} (h : TsW W w q c D) (hm : Mod S w w') (hS : ∀ i, S i → i < W.heap.size ∨ w.heap.size ≤ i) : TsW W w' q c D :=
  ⟨h.rw.kept hm (fun a e hs => by subst e; have h1 := h.f a rfl; have h2 := h.rw.lt; rcases hS _ hs with h | h <;> omega), fun b hb' => ⟨(h.ok b hb').rw.kept hm (fun a e hs => by have h1 := (h.ok b hb').f a e; have h2 := (h.ok b hb').rw; rw [e] at h2; have h3 := h2.lt; rcases hS _ hs with h | h <;> omega), (h.ok b hb').f, (h.ok b hb').n, (h.ok b hb').k⟩, h.f⟩
/-- What New leaves. -/
def NewP (w : World) (X : List BI) (n : Nat) (r : Ending) (w' : World) : Prop :=
  Below w.heap.size w w' ∧ ((newE X ≠ 0 ∧ r = .returned (.tuple #[.agg #[.slice none 0 0], .int .i64 (newE X)])) ∨
    (newE X = 0 ∧ ∃ q c D, r = .returned (.tuple #[.agg #[.slice q n c], .int .i64 0]) ∧ TsW w w' q c D ∧ D.map Blk.is = isort X))
end Go.Proofs.YtemnebbdaljfbaaGreatDoor
