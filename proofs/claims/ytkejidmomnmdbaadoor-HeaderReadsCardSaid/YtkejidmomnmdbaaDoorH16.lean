/- Is a header the reference's? -/
import Derived.Test.YtkejidmomnmdbaaDoorH15
namespace Go.Proofs.YtkejidmomnmdbaaDoor
open Go.RowKit

theorem id_neq (x y : List UInt8) (hx : x.length = 32) (hy : y.length = 32) (w : World) : (binOp .neq 25 (.agg (vals x).toArray) (.agg (vals y).toArray)).run Tryd.prog w = .ok (.bool (!(x == y))) w := by
  have h := id_eql x y hx hy w
  simp only [binOp, Sem.run_bind] at h ⊢
  cases hr : (Op.equal 25 (.agg (vals x).toArray) (.agg (vals y).toArray)).run Tryd.prog w with
  | ok b w1 =>
    rw [hr] at h
    simp only [Result.andThen_ok, Sem.run_pure, Result.ok.injEq, Value.bool.injEq] at h ⊢
    exact ⟨by rw [h.1], h.2⟩
  | _ => rw [hr] at h; simp [Result.andThen] at h
open Classical in
noncomputable def sameB (H : Hd Nm) (X : Hd (List UInt8)) : Bool := decide (H = ownH X)
theorem sameB_iff (H : Hd Nm) (X : Hd (List UInt8)) : sameB H X = true ↔ H = ownH X := by unfold sameB; exact @decide_eq_true_iff _ (Classical.propDecidable _)
theorem Hd.ext_iff' {α : Type} (a b : Hd α) : a = b ↔ a.ht = b.ht ∧ a.mi = b.mi ∧ a.tk = b.tk ∧ a.wi = b.wi ∧ a.pw = b.pw ∧ a.sa = b.sa ∧ a.ps = b.ps := by
  cases a; cases b; simp only [Hd.mk.injEq]
  exact ⟨fun ⟨a, b, c, d, e, f, g⟩ => ⟨a, b, c, d, e, g, f⟩, fun ⟨a, b, c, d, e, f, g⟩ => ⟨a, b, c, d, e, g, f⟩⟩
theorem names_eq (L : List Nm) (M : List (List UInt8)) : L = M.map nmOf ↔ L.map (·.1) = M.map idL := by
  constructor
  · rintro rfl; rw [List.map_map]; rfl
  · intro h
    induction L generalizing M with
    | nil => cases M with
      | nil => rfl
      | cons a m => simp at h
    | cons x l ih => cases M with
      | nil => simp at h
      | cons a m =>
        simp only [List.map_cons, List.cons.injEq] at h ⊢
        exact ⟨Subtype.ext h.1, ih m h.2⟩

set_option maxRecDepth 20000 in
set_option maxHeartbeats 2000000 in
theorem same_ht (ht mi wi sa : Int) (tk : List UInt8) (pw : Nat) (ht' : Int) (mi' : Int) (tk' : List UInt8) (wi' : Int) (pw' : Nat) (sa' : Int) (q ao : Option Addr) (n m c cap : Nat) (w : World) (hne : ht ≠ ht') :
    Calls Tryd.prog 35 #[.agg #[.int .i64 ht, .int .i64 mi, .string ⟨tk.toArray⟩, .int .i64 wi, .int .u64 (pw : Int), .slice q n c, .int .i64 sa], .agg #[.int .i64 ht', .int .i64 mi', .string ⟨tk'.toArray⟩, .int .i64 wi', .int .u64 (pw' : Int), .slice ao m cap, .int .i64 sa']] w fun r w' => r = .returned (.bool false) ∧ Below w.heap.size w w' := by
  have x1 : (ht == ht') = false := beq_eq_false_iff_ne.2 hne
  have x2 : (ht != ht') = true := by rw [bne_iff_ne]; exact hne
  have hb : Below w.heap.size w ((w.alloc (.cells #[.int .i64 ht, .int .i64 mi, .string ⟨tk.toArray⟩, .int .i64 wi, .int .u64 (pw : Int), .slice q n c, .int .i64 sa] 43)).alloc (.cells #[.int .i64 ht', .int .i64 mi', .string ⟨tk'.toArray⟩, .int .i64 wi', .int .u64 (pw' : Int), .slice ao m cap, .int .i64 sa'] 39)) := ((Below.refl _ w).alloc (Nat.le_refl _) _).alloc (by simp) _
  clear hne
  go_enter Tryd.func35, Tryd.ntmps35
  go_wp2_with fail
  go_ret
  exact ⟨rfl, hb⟩
set_option maxRecDepth 20000 in
set_option maxHeartbeats 2000000 in
theorem same_mi (ht mi wi sa : Int) (tk : List UInt8) (pw : Nat) (mi' : Int) (tk' : List UInt8) (wi' : Int) (pw' : Nat) (sa' : Int) (q ao : Option Addr) (n m c cap : Nat) (w : World) (hne : mi ≠ mi') :
    Calls Tryd.prog 35 #[.agg #[.int .i64 ht, .int .i64 mi, .string ⟨tk.toArray⟩, .int .i64 wi, .int .u64 (pw : Int), .slice q n c, .int .i64 sa], .agg #[.int .i64 ht, .int .i64 mi', .string ⟨tk'.toArray⟩, .int .i64 wi', .int .u64 (pw' : Int), .slice ao m cap, .int .i64 sa']] w fun r w' => r = .returned (.bool false) ∧ Below w.heap.size w w' := by
  have x1 : (mi == mi') = false := beq_eq_false_iff_ne.2 hne
  have x2 : (mi != mi') = true := by rw [bne_iff_ne]; exact hne
  have hb : Below w.heap.size w ((w.alloc (.cells #[.int .i64 ht, .int .i64 mi, .string ⟨tk.toArray⟩, .int .i64 wi, .int .u64 (pw : Int), .slice q n c, .int .i64 sa] 43)).alloc (.cells #[.int .i64 ht, .int .i64 mi', .string ⟨tk'.toArray⟩, .int .i64 wi', .int .u64 (pw' : Int), .slice ao m cap, .int .i64 sa'] 39)) := ((Below.refl _ w).alloc (Nat.le_refl _) _).alloc (by simp) _
  clear hne
  go_enter Tryd.func35, Tryd.ntmps35
  go_wp2_with fail
  go_ret
  exact ⟨rfl, hb⟩
set_option maxRecDepth 20000 in
set_option maxHeartbeats 2000000 in
theorem same_tk (ht mi wi sa : Int) (tk : List UInt8) (pw : Nat) (tk' : List UInt8) (wi' : Int) (pw' : Nat) (sa' : Int) (q ao : Option Addr) (n m c cap : Nat) (w : World) (hne : tk ≠ tk') :
    Calls Tryd.prog 35 #[.agg #[.int .i64 ht, .int .i64 mi, .string ⟨tk.toArray⟩, .int .i64 wi, .int .u64 (pw : Int), .slice q n c, .int .i64 sa], .agg #[.int .i64 ht, .int .i64 mi, .string ⟨tk'.toArray⟩, .int .i64 wi', .int .u64 (pw' : Int), .slice ao m cap, .int .i64 sa']] w fun r w' => r = .returned (.bool false) ∧ Below w.heap.size w w' := by
  have x1 : (tk == tk') = false := beq_eq_false_iff_ne.2 hne
  have x2 : (tk != tk') = true := by simp [hne]
  have hb : Below w.heap.size w ((w.alloc (.cells #[.int .i64 ht, .int .i64 mi, .string ⟨tk.toArray⟩, .int .i64 wi, .int .u64 (pw : Int), .slice q n c, .int .i64 sa] 43)).alloc (.cells #[.int .i64 ht, .int .i64 mi, .string ⟨tk'.toArray⟩, .int .i64 wi', .int .u64 (pw' : Int), .slice ao m cap, .int .i64 sa'] 39)) := ((Below.refl _ w).alloc (Nat.le_refl _) _).alloc (by simp) _
  clear hne
  go_enter Tryd.func35, Tryd.ntmps35
  go_wp2_with fail
  go_ret
  exact ⟨rfl, hb⟩
set_option maxRecDepth 20000 in
set_option maxHeartbeats 2000000 in
theorem same_wi (ht mi wi sa : Int) (tk : List UInt8) (pw : Nat) (wi' : Int) (pw' : Nat) (sa' : Int) (q ao : Option Addr) (n m c cap : Nat) (w : World) (hne : wi ≠ wi') :
    Calls Tryd.prog 35 #[.agg #[.int .i64 ht, .int .i64 mi, .string ⟨tk.toArray⟩, .int .i64 wi, .int .u64 (pw : Int), .slice q n c, .int .i64 sa], .agg #[.int .i64 ht, .int .i64 mi, .string ⟨tk.toArray⟩, .int .i64 wi', .int .u64 (pw' : Int), .slice ao m cap, .int .i64 sa']] w fun r w' => r = .returned (.bool false) ∧ Below w.heap.size w w' := by
  have x1 : (wi == wi') = false := beq_eq_false_iff_ne.2 hne
  have x2 : (wi != wi') = true := by rw [bne_iff_ne]; exact hne
  have hb : Below w.heap.size w ((w.alloc (.cells #[.int .i64 ht, .int .i64 mi, .string ⟨tk.toArray⟩, .int .i64 wi, .int .u64 (pw : Int), .slice q n c, .int .i64 sa] 43)).alloc (.cells #[.int .i64 ht, .int .i64 mi, .string ⟨tk.toArray⟩, .int .i64 wi', .int .u64 (pw' : Int), .slice ao m cap, .int .i64 sa'] 39)) := ((Below.refl _ w).alloc (Nat.le_refl _) _).alloc (by simp) _
  clear hne
  go_enter Tryd.func35, Tryd.ntmps35
  go_wp2_with fail
  go_ret
  exact ⟨rfl, hb⟩
set_option maxRecDepth 20000 in
set_option maxHeartbeats 2000000 in
theorem same_pw (ht mi wi sa : Int) (tk : List UInt8) (pw : Nat) (pw' : Nat) (sa' : Int) (q ao : Option Addr) (n m c cap : Nat) (w : World) (hne : pw ≠ pw') :
    Calls Tryd.prog 35 #[.agg #[.int .i64 ht, .int .i64 mi, .string ⟨tk.toArray⟩, .int .i64 wi, .int .u64 (pw : Int), .slice q n c, .int .i64 sa], .agg #[.int .i64 ht, .int .i64 mi, .string ⟨tk.toArray⟩, .int .i64 wi, .int .u64 (pw' : Int), .slice ao m cap, .int .i64 sa']] w fun r w' => r = .returned (.bool false) ∧ Below w.heap.size w w' := by
  have x1 : ((pw : Int) == (pw' : Int)) = false := beq_eq_false_iff_ne.2 (by omega)
  have x2 : ((pw : Int) != (pw' : Int)) = true := by rw [bne_iff_ne]; omega
  have hb : Below w.heap.size w ((w.alloc (.cells #[.int .i64 ht, .int .i64 mi, .string ⟨tk.toArray⟩, .int .i64 wi, .int .u64 (pw : Int), .slice q n c, .int .i64 sa] 43)).alloc (.cells #[.int .i64 ht, .int .i64 mi, .string ⟨tk.toArray⟩, .int .i64 wi, .int .u64 (pw' : Int), .slice ao m cap, .int .i64 sa'] 39)) := ((Below.refl _ w).alloc (Nat.le_refl _) _).alloc (by simp) _
  clear hne
  go_enter Tryd.func35, Tryd.ntmps35
  go_wp2_with fail
  go_ret
  exact ⟨rfl, hb⟩
set_option maxRecDepth 20000 in
set_option maxHeartbeats 2000000 in
theorem same_sa (ht mi wi sa : Int) (tk : List UInt8) (pw : Nat) (sa' : Int) (q ao : Option Addr) (n m c cap : Nat) (w : World) (hne : sa ≠ sa') :
    Calls Tryd.prog 35 #[.agg #[.int .i64 ht, .int .i64 mi, .string ⟨tk.toArray⟩, .int .i64 wi, .int .u64 (pw : Int), .slice q n c, .int .i64 sa], .agg #[.int .i64 ht, .int .i64 mi, .string ⟨tk.toArray⟩, .int .i64 wi, .int .u64 (pw : Int), .slice ao m cap, .int .i64 sa']] w fun r w' => r = .returned (.bool false) ∧ Below w.heap.size w w' := by
  have x1 : (sa == sa') = false := beq_eq_false_iff_ne.2 hne
  have x2 : (sa != sa') = true := by rw [bne_iff_ne]; exact hne
  have hb : Below w.heap.size w ((w.alloc (.cells #[.int .i64 ht, .int .i64 mi, .string ⟨tk.toArray⟩, .int .i64 wi, .int .u64 (pw : Int), .slice q n c, .int .i64 sa] 43)).alloc (.cells #[.int .i64 ht, .int .i64 mi, .string ⟨tk.toArray⟩, .int .i64 wi, .int .u64 (pw : Int), .slice ao m cap, .int .i64 sa'] 39)) := ((Below.refl _ w).alloc (Nat.le_refl _) _).alloc (by simp) _
  clear hne
  go_enter Tryd.func35, Tryd.ntmps35
  go_wp2_with fail
  go_ret
  exact ⟨rfl, hb⟩
set_option maxRecDepth 20000 in
set_option maxHeartbeats 2000000 in
theorem same_n (ht mi wi sa : Int) (tk : List UInt8) (pw : Nat) (q ao : Option Addr) (n m c cap : Nat) (w : World) (hne : n ≠ m) :
    Calls Tryd.prog 35 #[.agg #[.int .i64 ht, .int .i64 mi, .string ⟨tk.toArray⟩, .int .i64 wi, .int .u64 (pw : Int), .slice q n c, .int .i64 sa], .agg #[.int .i64 ht, .int .i64 mi, .string ⟨tk.toArray⟩, .int .i64 wi, .int .u64 (pw : Int), .slice ao m cap, .int .i64 sa]] w fun r w' => r = .returned (.bool false) ∧ Below w.heap.size w w' := by
  have x1 : ((n : Int) == (m : Int)) = false := beq_eq_false_iff_ne.2 (by omega)
  have x2 : ((n : Int) != (m : Int)) = true := by rw [bne_iff_ne]; omega
  have hb : Below w.heap.size w ((w.alloc (.cells #[.int .i64 ht, .int .i64 mi, .string ⟨tk.toArray⟩, .int .i64 wi, .int .u64 (pw : Int), .slice q n c, .int .i64 sa] 43)).alloc (.cells #[.int .i64 ht, .int .i64 mi, .string ⟨tk.toArray⟩, .int .i64 wi, .int .u64 (pw : Int), .slice ao m cap, .int .i64 sa] 39)) := ((Below.refl _ w).alloc (Nat.le_refl _) _).alloc (by simp) _
  clear hne
  go_enter Tryd.func35, Tryd.ntmps35
  go_wp2_with fail
  go_ret
  exact ⟨rfl, hb⟩
set_option maxRecDepth 20000 in
set_option maxHeartbeats 4000000 in
theorem same_names (ht mi wi sa : Int) (tk : List UInt8) (pw : Nat) (ps : List Nm) (ss : List (List UInt8)) (q ao : Option Addr) (n c cap : Nat) (w : World) (hn : n = ps.length) (hm : n = ss.length) (hQ : Rd encN w q ps) (hL : Rd encS w ao ss) (hn9 : n ≤ 1000000) (RR : Bool) (hRR : RR = decide (ps.map (·.1) = ss.map idL)) :
    Calls Tryd.prog 35 #[.agg #[.int .i64 ht, .int .i64 mi, .string ⟨tk.toArray⟩, .int .i64 wi, .int .u64 (pw : Int), .slice q n c, .int .i64 sa], .agg #[.int .i64 ht, .int .i64 mi, .string ⟨tk.toArray⟩, .int .i64 wi, .int .u64 (pw : Int), .slice ao n cap, .int .i64 sa]] w fun r w' => r = .returned (.bool RR) ∧ Below w.heap.size w w' := by
  obtain ⟨W2, hW2⟩ : ∃ W, W = (w.alloc (.cells #[.int .i64 ht, .int .i64 mi, .string ⟨tk.toArray⟩, .int .i64 wi, .int .u64 (pw : Int), .slice q n c, .int .i64 sa] 43)).alloc (.cells #[.int .i64 ht, .int .i64 mi, .string ⟨tk.toArray⟩, .int .i64 wi, .int .u64 (pw : Int), .slice ao n cap, .int .i64 sa] 39) := ⟨_, rfl⟩
  have hb2 : Below w.heap.size w W2 := by rw [hW2]; exact ((Below.refl _ w).alloc (Nat.le_refl _) _).alloc (by simp) _
  have bx : W2.heap[w.heap.size]? = some (.cells #[.int .i64 ht, .int .i64 mi, .string ⟨tk.toArray⟩, .int .i64 wi, .int .u64 (pw : Int), .slice q n c, .int .i64 sa] 43 (0, 0)) := by rw [hW2, Below.heap_alloc _ _ _ (by simp)]; exact heap_alloc_new w _
  have hQ2 := Lib.hid (hQ.old hb2)
  have hL2 := Lib.hid (hL.old hb2)
  have Hbx : Hid (∀ w', Below W2.heap.size W2 w' → w'.cell? ⟨w.heap.size, 5, none⟩ = some (.slice q n c)) := Lib.hid (fun w' hb => cell_of_row w' w.heap.size 5 #[.int .i64 ht, .int .i64 mi, .string ⟨tk.toArray⟩, .int .i64 wi, .int .u64 (pw : Int), .slice q n c, .int .i64 sa] 43 (0, 0) ((hb.block _ (Array.getElem?_eq_some_iff.1 bx).1).trans bx))
  have Hb2 := Lib.hid hb2
  have HW2 := Lib.hid hW2
  have Hn := Lib.hid hn
  have Hm := Lib.hid hm
  have HRR := Lib.hid hRR
  clear hQ hL hb2 bx hW2 hn hm hRR
  go_enter Tryd.func35, Tryd.ntmps35
  go_wp2_with fail
  rw [← HW2.out]
  go_loopw [59] (fun s59 wr => ∃ k : Nat, k ≤ n ∧ s59 = .int .i64 (k : Int) ∧ Hid ((ps.map (·.1)).take k = (ss.map idL).take k) ∧ Hid (Below W2.heap.size W2 wr)) (fun i _ => n - (intOf i).toNat)
  case atStart => exact ⟨0, by omega, rfl, Lib.hid rfl, Lib.hid (Below.refl _ _)⟩
  case round =>
    obtain ⟨k, hk, rfl, heq, HB⟩ := hrel
    by_cases hlt : k < n
    · have h1 : k < ps.length := by rw [← Hn.out]; exact hlt
      have h2 : k < ss.length := by rw [← Hm.out]; exact hlt
      obtain ⟨bs, off, rfl, hbs, c1⟩ := (hQ2.out.old HB.out) k h1
      obtain ⟨bs', off', rfl, hbs', cx⟩ := (hL2.out.old HB.out).str k h2
      have C1 : Hid (∀ w', Below wr.heap.size wr w' → ∀ i u, (encN.f ps[k])[i]? = some u → w'.cell? ⟨bs, off + k * 32 + i, none⟩ = some u) := Lib.hid (fun w' hb i u hu => (World.cell?_of_block (hb.block bs hbs)).trans (c1 i u hu))
      obtain ⟨y, hy⟩ : ∃ y, y = ps[k] := ⟨_, rfl⟩
      obtain ⟨xx, hx⟩ : ∃ x, x = ss[k] := ⟨_, rfl⟩
      rw [← hy] at C1
      rw [← hx] at cx
      have hyl := y.2
      have hnl := idL_len xx
      have Hsu : Hid ((ps.map (·.1)).take (k + 1) = (ps.map (·.1)).take k ++ [y.1] ∧ (ss.map idL).take (k + 1) = (ss.map idL).take k ++ [idL xx]) := Lib.hid ⟨by rw [List.take_succ_eq_append_getElem (by simpa using h1), List.getElem_map, hy], by rw [List.take_succ_eq_append_getElem (by simpa using h2), List.getElem_map, hx]⟩
      have hidof : Hid (∀ w, Calls Tryd.prog 40 #[.string ⟨xx.toArray⟩] w fun r w' => r = .returned (.agg (vals (idL xx)).toArray) ∧ Below w.heap.size w w') := Lib.hid (fun w => idof_any xx w)
      generalize idL xx = nb at hnl Hsu hidof
      obtain ⟨D, hD⟩ : ∃ D, D = (y.1 == nb) := ⟨_, rfl⟩
      have Hne : Hid (∀ w, (binOp .neq 25 (.agg (vals y.1).toArray) (.agg (vals nb).toArray)).run Tryd.prog w = .ok (.bool (!D)) w) := Lib.hid (fun w => by rw [hD]; exact id_neq y.1 nb hyl hnl w)
      have HD := Lib.hid hD
      have Hbx2 : Hid (∀ w', Below wr.heap.size wr w' → w'.cell? ⟨w.heap.size, 5, none⟩ = some (.slice (some ⟨bs, off, none⟩) n c)) := Lib.hid (fun w' hb => Hbx.out w' (HB.out.trans (hb.mono HB.out.size)))
      have i0 : (0 : Int) ≤ k := by omega
      have i1 : (k : Int) < n := by omega
      clear hy hx c1 hyl hnl hD h1 h2
      go_wp2_with fail
      clear cx
      obtain ⟨g2, hg2⟩ : ∃ g, g = w.heap.size := ⟨_, rfl⟩
      rw [← hg2] at Hbx2 ⊢
      have Hg2 := Lib.hid hg2
      clear hg2
      refine wp_region_puts (fun t v w => VK (match t with
        | 64 => .eq (.pointer (some ⟨g2, 5, none⟩))
        | 65 => .eq (.slice (some ⟨bs, off, none⟩) n c)
        | 66 => .eq (.int .i64 (k : Int))
        | 67 => .eq (.pointer (some ⟨bs, off + k * 32, none⟩))
        | 68 => .eq (.agg (vals y.1).toArray)
        | 69 => .eq (.string ⟨xx.toArray⟩)
        | 70 => .eq (.agg (vals nb).toArray)
        | 71 => .eq (.bool (!D))
        | _ => .any) v w) (fun w' => Below wr.heap.size wr w') 73 (by kernel_rfl) (by decide +kernel) rfl (Below.refl _ _).drew (by
        refine OweAll.cons (owesK rfl rfl fun a w1 ha hG hV => ?_) ?_
        · skip
          have h2 := ha.outer 2 (by decide +kernel)
          simp only [Act.eval] at h2
          exact ⟨.pointer (some ⟨g2, 5, none⟩), w1, wanted_free rfl, by simp [execOp, go_sem, h2], Below.refl _ _, rfl⟩
        refine OweAll.cons (owesK rfl rfl fun a w1 ha hG hV => ?_) ?_
        · skip
          have h64 : a.tmps.getD 64 undef = .pointer (some ⟨g2, 5, none⟩) := hV.get 64 (by decide +kernel)
          have cc := Hbx2.out w1 hG
          exact ⟨.slice (some ⟨bs, off, none⟩) n c, w1, wanted_free rfl, by simp [execOp, go_sem, h64, cc], Below.refl _ _, rfl⟩
        refine OweAll.cons (owesK rfl rfl fun a w1 ha hG hV => ?_) ?_
        · skip
          have h5 := ha.outer 5 (by decide +kernel)
          simp only [Act.eval] at h5
          exact ⟨.int .i64 (k : Int), w1, wanted_free rfl, by simp [execOp, go_sem, h5], Below.refl _ _, rfl⟩
        refine OweAll.cons (owesK rfl rfl fun a w1 ha hG hV => ?_) ?_
        · skip
          have h65 : a.tmps.getD 65 undef = .slice (some ⟨bs, off, none⟩) n c := hV.get 65 (by decide +kernel)
          have h66 : a.tmps.getD 66 undef = .int .i64 (k : Int) := hV.get 66 (by decide +kernel)
          exact ⟨.pointer (some ⟨bs, off + k * 32, none⟩), w1, wanted_free rfl, by simp [execOp, go_sem, h65, h66, i0, i1], Below.refl _ _, rfl⟩
        refine OweAll.cons (owesK rfl rfl fun a w1 ha hG hV => ?_) ?_
        · skip
          have h67 : a.tmps.getD 67 undef = .pointer (some ⟨bs, off + k * 32, none⟩) := hV.get 67 (by decide +kernel)
          exact ⟨.agg (vals y.1).toArray, w1, wanted_free rfl, exec_load_mid (.tmp 67) rfl bs (off + k * 32) h67 y (C1.out w1 hG), Below.refl _ _, rfl⟩
        refine OweAll.cons (owesK rfl rfl fun a w1 ha hG hV => ?_) ?_
        · skip
          have h6 := ha.outer 6 (by decide +kernel)
          simp only [Act.eval] at h6
          exact ⟨.string ⟨xx.toArray⟩, w1, wanted_free rfl, by simp [execOp, go_sem, h6], Below.refl _ _, rfl⟩
        refine OweAll.cons (owesK_call rfl rfl 40 fun a w1 ha hG hV => ?_) ?_
        · skip
          have h69 : a.tmps.getD 69 undef = .string ⟨xx.toArray⟩ := hV.get 69 (by decide +kernel)
          refine ⟨#[.string ⟨xx.toArray⟩], wanted_free rfl, by simp [execOp, resolve, invoke, go_sem, h69], ?_⟩
          refine (hidof.out w1).mono ?_
          rintro r u2 ⟨rfl, hb⟩; exact ⟨_, rfl, rfl, hb⟩
        refine OweAll.cons (owesK rfl rfl fun a w1 ha hG hV => ?_) ?_
        · skip
          have h68 : a.tmps.getD 68 undef = .agg (vals y.1).toArray := hV.get 68 (by decide +kernel)
          have h70 : a.tmps.getD 70 undef = .agg (vals nb).toArray := hV.get 70 (by decide +kernel)
          exact ⟨.bool (!D), w1, wanted_free rfl, by simp [execOp, go_sem, h68, h70, Hne.out], Below.refl _ _, rfl⟩
        exact OweAll.nil
        ) ?_
      intro f wz hG hv
      have e71 : f 71 = .bool (!D) := hv 7 _ 71 rfl rfl
      rename_i hK
      refine hK _ _ ?_
      clear hK hv
      simp only [dsts, puts, List.filterMap_cons, List.filterMap_nil, List.foldl_cons, List.foldl_nil, Act.put, List.setIfInBounds_toArray, List.set_cons_succ, List.set_cons_zero, e71]
      clear e71
      have HG := Lib.hid (HB.out.trans (hG.mono HB.out.size))
      clear hG
      rw [Hg2.out]
      cases D with
      | true =>
        go_wp2_with fail
        go_roundw
        case rel => exact ⟨k + 1, by omega, by go_num, Lib.hid (by rw [Hsu.out.1, Hsu.out.2, heq.out, eq_of_beq HD.out.symm]), HG⟩
        case measure => simp [intOf]; omega
      | false =>
        have hfin : Hid (RR = false) := Lib.hid (by
          rw [HRR.out, decide_eq_false_iff_not]
          intro e
          have e1 := Hsu.out.1
          rw [e, Hsu.out.2] at e1
          have := List.append_cancel_left e1
          simp only [List.cons.injEq, and_true] at this
          have h := HD.out
          rw [this] at h
          simp at h)
        have hfb := Lib.hid (Hb2.out.trans (HG.out.mono Hb2.out.size))
        go_wp2_with fail
        go_ret
        exact ⟨by rw [hfin.out]; rfl, hfb.out⟩
    · have hfin : Hid (RR = true) := Lib.hid (by
        rw [HRR.out, decide_eq_true_iff]
        have h := heq.out
        have e : k = n := by omega
        rw [e, List.take_of_length_le (by rw [List.length_map, ← Hn.out]; exact Nat.le_refl _), List.take_of_length_le (by rw [List.length_map, ← Hm.out]; exact Nat.le_refl _)] at h
        exact h)
      have hfb := Lib.hid (Hb2.out.trans (HB.out.mono Hb2.out.size))
      go_wp2_with fail
      go_ret
      exact ⟨by rw [hfin.out]; rfl, hfb.out⟩
theorem same_any (H : Hd Nm) (X : Hd (List UInt8)) (q ao : Option Addr) (c cap : Nat) (w : World) (hQ : Rd encN w q H.ps) (hL : Rd encS w ao X.ps) (hn : H.ps.length ≤ 1000000) :
    Calls Tryd.prog 35 #[.agg (hcells H q c), .agg (hcells X ao cap)] w fun r w' => r = .returned (.bool (sameB H X)) ∧ Below w.heap.size w w' := by
  have no : ¬ H = ownH X → sameB H X = false := fun h => by rw [Bool.eq_false_iff]; exact fun e => h ((sameB_iff H X).1 e)
  have hi := Hd.ext_iff' H (ownH X)
  obtain ⟨ht, mi, tk, wi, pw, ps, sa⟩ := H
  obtain ⟨ht', mi', tk', wi', pw', ss, sa'⟩ := X
  simp only [ownH] at hi
  simp only at hQ hL hn
  unfold hcells
  simp only
  by_cases e_ht : ht = ht'
  case neg => rw [no (fun e => e_ht (by have := hi.1 e; simp_all))]; exact same_ht ht mi wi sa tk pw ht' mi' tk' wi' pw' sa' q ao ps.length ss.length c cap w e_ht
  subst e_ht
  by_cases e_mi : mi = mi'
  case neg => rw [no (fun e => e_mi (by have := hi.1 e; simp_all))]; exact same_mi ht mi wi sa tk pw mi' tk' wi' pw' sa' q ao ps.length ss.length c cap w e_mi
  subst e_mi
  by_cases e_tk : tk = tk'
  case neg => rw [no (fun e => e_tk (by have := hi.1 e; simp_all))]; exact same_tk ht mi wi sa tk pw tk' wi' pw' sa' q ao ps.length ss.length c cap w e_tk
  subst e_tk
  by_cases e_wi : wi = wi'
  case neg => rw [no (fun e => e_wi (by have := hi.1 e; simp_all))]; exact same_wi ht mi wi sa tk pw wi' pw' sa' q ao ps.length ss.length c cap w e_wi
  subst e_wi
  by_cases e_pw : pw = pw'
  case neg => rw [no (fun e => e_pw (by have := hi.1 e; simp_all))]; exact same_pw ht mi wi sa tk pw pw' sa' q ao ps.length ss.length c cap w e_pw
  subst e_pw
  by_cases e_sa : sa = sa'
  case neg => rw [no (fun e => e_sa (by have := hi.1 e; simp_all))]; exact same_sa ht mi wi sa tk pw sa' q ao ps.length ss.length c cap w e_sa
  subst e_sa
  by_cases el : ps.length = ss.length
  case neg => rw [no (fun e => el (by have := hi.1 e; rw [this.2.2.2.2.2.2, List.length_map]))]; exact same_n ht mi wi sa tk pw q ao ps.length ss.length c cap w el
  have := same_names ht mi wi sa tk pw ps ss q ao ps.length c cap w rfl el hQ hL hn (sameB ⟨ht, mi, tk, wi, pw, ps, sa⟩ ⟨ht, mi, tk, wi, pw, ss, sa⟩) (by
    rw [Bool.eq_iff_iff, sameB_iff, decide_eq_true_iff, ← names_eq]
    exact ⟨fun h => (hi.1 h).2.2.2.2.2.2, fun h => hi.2 ⟨rfl, rfl, rfl, rfl, rfl, rfl, h⟩⟩)
  rw [← el]
  exact this
end Go.Proofs.YtkejidmomnmdbaaDoor
