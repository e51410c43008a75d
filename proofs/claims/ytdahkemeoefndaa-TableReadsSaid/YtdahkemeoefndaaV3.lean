/- Texts 3: what the laws lean on. -/
import Derived.Test.YtdahkemeoefndaaV2
import Derived.Test.YtdahkemeoefndaaV1
import Derived.Deep.AppendLies
namespace Go.Proofs.Ytdahkemeoefndaa
open Go.RowKit

open Classical in
set_option maxRecDepth 20000 in
set_option maxHeartbeats 8000000 in
theorem check_any (ao : Option Addr) (cap : Nat) (E : List (Nat × Nat)) (w : World) (hS : EntsAt w ao E) (hle : ∀ x ∈ E, x.1 ≤ 1099511627776 ∧ x.2 ≤ 1099511627776) (hl : E.length ≤ 64) :
    Calls Try.prog 28 #[.slice ao E.length cap, .int .i64 1] w fun r w' => r = .returned (.int .i64 (if EntsOk E 1 then 0 else 1)) ∧ Below w.heap.size w w' := by
  obtain ⟨res, hres⟩ : ∃ r : Int, r = if EntsOk E 1 then 0 else 1 := ⟨_, rfl⟩
  have hyes : Hid (EntsOk E 1 → res = 0) := Lib.hid (fun h => by rw [hres, if_pos h])
  have hno : Hid (¬ EntsOk E 1 → res = 1) := Lib.hid (fun h => by rw [hres, if_neg h])
  rw [← hres]
  clear hres
  obtain ⟨n, hn⟩ : ∃ n, E.length = n := ⟨_, rfl⟩
  rw [hn] at hl ⊢
  have Hn := Lib.hid hn
  have HS := Lib.hid hS
  have Hle := Lib.hid hle
  have hl2 : ¬ (64 : Int) < n := by omega
  clear hn hS hle
  go_enter Try.func28, Try.ntmps28
  go_wp2_with fail
  go_loopw [5, 12] (fun _ s12 wr => ∃ i : Nat, i ≤ n ∧ s12 = .int .i64 (i : Int) ∧ Hid (Good E i ∧ Below w.heap.size w wr)) (fun _ i _ => n - (intOf i).toNat)
  case atStart => exact ⟨0, by omega, rfl, Lib.hid ⟨Good.zero E, Below.refl _ _⟩⟩
  case round =>
    obtain ⟨i, hi, rfl, hG⟩ := hrel
    by_cases hin : i < n
    · have hil : i < E.length := by rw [Hn.out]; exact hin
      obtain ⟨bs, off, rfl, hbs, c1, c2⟩ := (HS.out.old hG.out.2) i hil
      have hle := Hle.out _ (List.getElem_mem hil)
      have hnx := Lib.hid (fun h1 h2 h3 h4 => hG.out.1.next hil h1 h2 h3 h4)
      have hbad := Lib.hid (fun h : EntsOk E 1 => ok_at h i hil)
      have hprev : Hid (∀ (j : Nat) (e : i = j + 1), ∃ m' : Nat, bef E i = (m' : Int) ∧ wr.cell? ⟨bs, off + j * 2, none⟩ = some (.int .i64 (m' : Int))) := Lib.hid (fun j e => by
        obtain ⟨bs', off', e', _, d1, _⟩ := (HS.out.old hG.out.2) j (by omega)
        cases e'
        exact ⟨E[j].1, by subst e; exact bef_succ E j (by omega), d1⟩)
      have hb0 : Hid (i = 0 → bef E i = -1) := Lib.hid (fun e => by unfold bef; rw [dif_neg (by omega)])
      obtain ⟨m, hm0⟩ : ∃ m, m = E[i].1 := ⟨_, rfl⟩
      obtain ⟨p, hp0⟩ : ∃ m, m = E[i].2 := ⟨_, rfl⟩
      rw [← hm0] at hle c1
      rw [← hp0] at hle c2
      rw [← hm0, ← hp0] at hnx hbad
      have i1 : (i : Int) < n := by omega
      have i0 : (0 : Int) ≤ i := by omega
      have f1 : ¬ (m : Int) < 0 := by omega
      have f4 : ¬ (1099511627776 : Int) < p := by omega
      have HB2 : Hid (Below w.heap.size w (wr.alloc (.cells #[.int .i64 (m : Int), .int .i64 (p : Int)] 48))) := Lib.hid (hG.out.2.alloc hG.out.2.size _)
      have HBW : Hid (Below wr.heap.size wr (wr.alloc (.cells #[.int .i64 (m : Int), .int .i64 (p : Int)] 48))) := Lib.hid ((Below.refl _ _).alloc (Nat.le_refl _) _)
      clear hm0 hp0 hG
      go_upto_region 6 with fail
      have hrow : (wr.alloc (.cells #[.int .i64 (m : Int), .int .i64 (p : Int)] 48)).heap[wr.heap.size]? = some (.cells #[.int .i64 (m : Int), .int .i64 (p : Int)] 48 (0, 0)) := heap_alloc_new _ _
      have hSl : wr.heap.size < (wr.alloc (.cells #[.int .i64 (m : Int), .int .i64 (p : Int)] 48)).heap.size := by simp
      have hbs2 : bs < (wr.alloc (.cells #[.int .i64 (m : Int), .int .i64 (p : Int)] 48)).heap.size := by simp; omega
      have hprev2 : Hid (∀ (j : Nat) (e : i = j + 1), ∃ m' : Nat, bef E i = (m' : Int) ∧ (wr.alloc (.cells #[.int .i64 (m : Int), .int .i64 (p : Int)] 48)).cell? ⟨bs, off + j * 2, none⟩ = some (.int .i64 (m' : Int))) := Lib.hid (fun j e => by
        obtain ⟨m', h1, h2⟩ := hprev.out j e
        exact ⟨m', h1, (HBW.out.cell (p := ⟨bs, off + j * 2, none⟩) hbs).trans h2⟩)
      clear HBW hprev hbs
      generalize wr.alloc (.cells #[.int .i64 (m : Int), .int .i64 (p : Int)] 48) = W at *
      generalize wr.heap.size = g at *
      have cS0 : W.cell? ⟨g, 0, none⟩ = some (.int .i64 (m : Int)) := by rw [cell_of_row W g 0 _ 48 (0, 0) hrow]; rfl
      have cS1 : W.cell? ⟨g, 1, none⟩ = some (.int .i64 (p : Int)) := by rw [cell_of_row W g 1 _ 48 (0, 0) hrow]; rfl
      clear hrow
      by_cases f2 : (63 : Int) < m
      · have HR : Hid (res = 1) := Lib.hid (hno.out (fun h => by have := (hbad.out h).2.1; omega))
        clear hbad hnx hprev2 hb0
        refine wp_region_puts (fun t v w => VK (match t with
          | 17 => .eq (.pointer (some ⟨g, 0, none⟩))
          | 18 => .eq (.int .i64 (m : Int))
          | 19 => .eq (Value.bool false)
          | 20 => .eq (Value.bool false)
          | 21 => .eq (.pointer (some ⟨g, 0, none⟩))
          | 22 => .eq (.int .i64 (m : Int))
          | 23 => .eq (Value.bool true)
          | 24 => .eq (Value.bool true)
          | 25 => .eq (Value.bool true)
          | 26 => .eq (undef)
          | 27 => .eq (undef)
          | 28 => .eq (undef)
          | 29 => .eq (undef)
          | 30 => .eq (Value.bool true)
          | 31 => .eq (Value.bool true)
          | 32 => .eq (undef)
          | 33 => .eq (undef)
          | 34 => .eq (undef)
          | 35 => .eq (Value.bool true)
          | 36 => .eq (Value.bool true)
          | 37 => .eq (undef)
          | 38 => .eq (undef)
          | 39 => .eq (undef)
          | 40 => .eq (undef)
          | 41 => .eq (undef)
          | 42 => .eq (undef)
          | 43 => .eq (undef)
          | 44 => .eq (undef)
          | 45 => .eq (undef)
          | 46 => .eq (undef)
          | 47 => .eq (undef)
          | 48 => .eq (undef)
          | 49 => .eq (undef)
          | 50 => .eq (Value.bool true)
          | _ => .any) v w) (fun w' => Below W.heap.size W w') 52 (by kernel_rfl) (by decide +kernel) rfl (Below.refl _ _).drew (by
          refine OweAll.cons (owesK rfl rfl fun a w1 ha hG hV => ?_) ?_
          · skip
            have h6 := ha.outer 6 (by decide +kernel)
            simp only [Act.eval] at h6
            exact ⟨.pointer (some ⟨g, 0, none⟩), w1, wanted_free rfl, by simp [execOp, go_sem, h6], Below.refl _ _, rfl⟩
          refine OweAll.cons (owesK rfl rfl fun a w1 ha hG hV => ?_) ?_
          · skip
            have h17 : a.tmps.getD 17 undef = .pointer (some ⟨g, 0, none⟩) := hV.get 17 (by decide +kernel)
            have cc := (hG.cell (p := ⟨g, 0, none⟩) hSl).trans cS0
            exact ⟨.int .i64 (m : Int), w1, wanted_free rfl, by simp [execOp, go_sem, h17, cc], Below.refl _ _, rfl⟩
          refine OweAll.cons (owesK rfl rfl fun a w1 ha hG hV => ?_) ?_
          · skip
            have h18 : a.tmps.getD 18 undef = .int .i64 (m : Int) := hV.get 18 (by decide +kernel)
            exact ⟨Value.bool false, w1, wanted_free rfl, by simp [execOp, go_sem, h18, f1], Below.refl _ _, rfl⟩
          refine OweAll.cons (owesK rfl rfl fun a w1 ha hG hV => ?_) ?_
          · skip
            have h19 : a.tmps.getD 19 undef = Value.bool false := hV.get 19 (by decide +kernel)
            exact ⟨Value.bool false, w1, wanted_free rfl, by simp [execOp, go_sem, h19], Below.refl _ _, rfl⟩
          refine OweAll.cons (owesK rfl rfl fun a w1 ha hG hV => ?_) ?_
          · skip
            have h6 := ha.outer 6 (by decide +kernel)
            simp only [Act.eval] at h6
            exact ⟨.pointer (some ⟨g, 0, none⟩), w1, (wanted_of (t := 20) rfl rfl (hV.get 20 (by decide +kernel))), by simp [execOp, go_sem, h6], Below.refl _ _, rfl⟩
          refine OweAll.cons (owesK rfl rfl fun a w1 ha hG hV => ?_) ?_
          · skip
            have h21 : a.tmps.getD 21 undef = .pointer (some ⟨g, 0, none⟩) := hV.get 21 (by decide +kernel)
            have cc := (hG.cell (p := ⟨g, 0, none⟩) hSl).trans cS0
            exact ⟨.int .i64 (m : Int), w1, (wanted_of (t := 20) rfl rfl (hV.get 20 (by decide +kernel))), by simp [execOp, go_sem, h21, cc], Below.refl _ _, rfl⟩
          refine OweAll.cons (owesK rfl rfl fun a w1 ha hG hV => ?_) ?_
          · skip
            have h22 : a.tmps.getD 22 undef = .int .i64 (m : Int) := hV.get 22 (by decide +kernel)
            exact ⟨Value.bool true, w1, (wanted_of (t := 20) rfl rfl (hV.get 20 (by decide +kernel))), by simp [execOp, go_sem, h22, f2], Below.refl _ _, rfl⟩
          refine OweAll.cons (owesK rfl rfl fun a w1 ha hG hV => ?_) ?_
          · skip
            have h20 : a.tmps.getD 20 undef = Value.bool false := hV.get 20 (by decide +kernel)
            have h23 : a.tmps.getD 23 undef = Value.bool true := hV.get 23 (by decide +kernel)
            exact ⟨Value.bool true, w1, wanted_free rfl, by simp [execOp, go_sem, h20, h23], Below.refl _ _, rfl⟩
          refine OweAll.cons (owesK rfl rfl fun a w1 ha hG hV => ?_) ?_
          · skip
            have h24 : a.tmps.getD 24 undef = Value.bool true := hV.get 24 (by decide +kernel)
            exact ⟨Value.bool true, w1, wanted_free rfl, by simp [execOp, go_sem, h24], Below.refl _ _, rfl⟩
          refine OweAll.cons (owesK_not rfl rfl fun a w1 ha hG hV => ⟨not_wanted (t := 25) rfl rfl (hV.get 25 (by decide +kernel)) (by first | simp; done | (intro h; cases h)), rfl⟩) ?_
          refine OweAll.cons (owesK_not rfl rfl fun a w1 ha hG hV => ⟨not_wanted (t := 25) rfl rfl (hV.get 25 (by decide +kernel)) (by first | simp; done | (intro h; cases h)), rfl⟩) ?_
          refine OweAll.cons (owesK_not rfl rfl fun a w1 ha hG hV => ⟨not_wanted (t := 25) rfl rfl (hV.get 25 (by decide +kernel)) (by first | simp; done | (intro h; cases h)), rfl⟩) ?_
          refine OweAll.cons (owesK_not rfl rfl fun a w1 ha hG hV => ⟨not_wanted (t := 25) rfl rfl (hV.get 25 (by decide +kernel)) (by first | simp; done | (intro h; cases h)), rfl⟩) ?_
          refine OweAll.cons (owesK rfl rfl fun a w1 ha hG hV => ?_) ?_
          · skip
            have h25 : a.tmps.getD 25 undef = Value.bool true := hV.get 25 (by decide +kernel)
            exact ⟨Value.bool true, w1, wanted_free rfl, by simp [execOp, go_sem, h25], Below.refl _ _, rfl⟩
          refine OweAll.cons (owesK rfl rfl fun a w1 ha hG hV => ?_) ?_
          · skip
            have h30 : a.tmps.getD 30 undef = Value.bool true := hV.get 30 (by decide +kernel)
            exact ⟨Value.bool true, w1, wanted_free rfl, by simp [execOp, go_sem, h30], Below.refl _ _, rfl⟩
          refine OweAll.cons (owesK_not rfl rfl fun a w1 ha hG hV => ⟨not_wanted (t := 31) rfl rfl (hV.get 31 (by decide +kernel)) (by first | simp; done | (intro h; cases h)), rfl⟩) ?_
          refine OweAll.cons (owesK_not rfl rfl fun a w1 ha hG hV => ⟨not_wanted (t := 31) rfl rfl (hV.get 31 (by decide +kernel)) (by first | simp; done | (intro h; cases h)), rfl⟩) ?_
          refine OweAll.cons (owesK_not rfl rfl fun a w1 ha hG hV => ⟨not_wanted (t := 31) rfl rfl (hV.get 31 (by decide +kernel)) (by first | simp; done | (intro h; cases h)), rfl⟩) ?_
          refine OweAll.cons (owesK rfl rfl fun a w1 ha hG hV => ?_) ?_
          · skip
            have h31 : a.tmps.getD 31 undef = Value.bool true := hV.get 31 (by decide +kernel)
            exact ⟨Value.bool true, w1, wanted_free rfl, by simp [execOp, go_sem, h31], Below.refl _ _, rfl⟩
          refine OweAll.cons (owesK rfl rfl fun a w1 ha hG hV => ?_) ?_
          · skip
            have h35 : a.tmps.getD 35 undef = Value.bool true := hV.get 35 (by decide +kernel)
            exact ⟨Value.bool true, w1, wanted_free rfl, by simp [execOp, go_sem, h35], Below.refl _ _, rfl⟩
          refine OweAll.cons (owesK_not rfl rfl fun a w1 ha hG hV => ⟨not_wanted (t := 36) rfl rfl (hV.get 36 (by decide +kernel)) (by first | simp; done | (intro h; cases h)), rfl⟩) ?_
          refine OweAll.cons (owesK_not rfl rfl fun a w1 ha hG hV => ⟨not_wanted (t := 36) rfl rfl (hV.get 36 (by decide +kernel)) (by first | simp; done | (intro h; cases h)), rfl⟩) ?_
          refine OweAll.cons (owesK_not rfl rfl fun a w1 ha hG hV => ⟨not_wanted (t := 36) rfl rfl (hV.get 36 (by decide +kernel)) (by first | simp; done | (intro h; cases h)), rfl⟩) ?_
          refine OweAll.cons (owesK_not rfl rfl fun a w1 ha hG hV => ⟨not_wanted (t := 39) rfl rfl (hV.get 39 (by decide +kernel)) (by first | simp; done | (intro h; cases h)), rfl⟩) ?_
          refine OweAll.cons (owesK_not rfl rfl fun a w1 ha hG hV => ⟨not_wanted (t := 39) rfl rfl (hV.get 39 (by decide +kernel)) (by first | simp; done | (intro h; cases h)), rfl⟩) ?_
          refine OweAll.cons (owesK_not rfl rfl fun a w1 ha hG hV => ⟨not_wanted (t := 39) rfl rfl (hV.get 39 (by decide +kernel)) (by first | simp; done | (intro h; cases h)), rfl⟩) ?_
          refine OweAll.cons (owesK_not rfl rfl fun a w1 ha hG hV => ⟨not_wanted (t := 39) rfl rfl (hV.get 39 (by decide +kernel)) (by first | simp; done | (intro h; cases h)), rfl⟩) ?_
          refine OweAll.cons (owesK_not rfl rfl fun a w1 ha hG hV => ⟨not_wanted (t := 39) rfl rfl (hV.get 39 (by decide +kernel)) (by first | simp; done | (intro h; cases h)), rfl⟩) ?_
          refine OweAll.cons (owesK_not rfl rfl fun a w1 ha hG hV => ⟨not_wanted (t := 39) rfl rfl (hV.get 39 (by decide +kernel)) (by first | simp; done | (intro h; cases h)), rfl⟩) ?_
          refine OweAll.cons (owesK_not rfl rfl fun a w1 ha hG hV => ⟨not_wanted (t := 39) rfl rfl (hV.get 39 (by decide +kernel)) (by first | simp; done | (intro h; cases h)), rfl⟩) ?_
          refine OweAll.cons (owesK_not rfl rfl fun a w1 ha hG hV => ⟨not_wanted (t := 39) rfl rfl (hV.get 39 (by decide +kernel)) (by first | simp; done | (intro h; cases h)), rfl⟩) ?_
          refine OweAll.cons (owesK_not rfl rfl fun a w1 ha hG hV => ⟨not_wanted (t := 39) rfl rfl (hV.get 39 (by decide +kernel)) (by first | simp; done | (intro h; cases h)), rfl⟩) ?_
          refine OweAll.cons (owesK_not rfl rfl fun a w1 ha hG hV => ⟨not_wanted (t := 36) rfl rfl (hV.get 36 (by decide +kernel)) (by first | simp; done | (intro h; cases h)), rfl⟩) ?_
          refine OweAll.cons (owesK rfl rfl fun a w1 ha hG hV => ?_) ?_
          · skip
            have h36 : a.tmps.getD 36 undef = Value.bool true := hV.get 36 (by decide +kernel)
            exact ⟨Value.bool true, w1, wanted_free rfl, by simp [execOp, go_sem, h36], Below.refl _ _, rfl⟩
          exact OweAll.nil
          ) ?_
        intro f wz hG hv
        have e50 : f 50 = Value.bool true := hv 33 _ 50 rfl rfl
        rename_i hK
        refine hK _ _ ?_
        clear hK hv
        simp only [dsts, puts, List.filterMap_cons, List.filterMap_nil, List.foldl_cons, List.foldl_nil, Act.put, List.setIfInBounds_toArray, List.set_cons_succ, List.set_cons_zero, e50]
        clear e50
        obtain rfl := HR.out
        go_wp2_with fail
        go_ret
        exact ⟨rfl, (HB2.out).trans (hG.mono HB2.out.size)⟩
      · by_cases f3 : (p : Int) < 1
        · have HR : Hid (res = 1) := Lib.hid (hno.out (fun h => by have := (hbad.out h).2.2; omega))
          clear hbad hnx hprev2 hb0
          refine wp_region_puts (fun t v w => VK (match t with
            | 17 => .eq (.pointer (some ⟨g, 0, none⟩))
            | 18 => .eq (.int .i64 (m : Int))
            | 19 => .eq (Value.bool false)
            | 20 => .eq (Value.bool false)
            | 21 => .eq (.pointer (some ⟨g, 0, none⟩))
            | 22 => .eq (.int .i64 (m : Int))
            | 23 => .eq (Value.bool false)
            | 24 => .eq (Value.bool false)
            | 25 => .eq (Value.bool false)
            | 26 => .eq (.pointer (some ⟨g, 1, none⟩))
            | 27 => .eq (.int .i64 (p : Int))
            | 28 => .eq (.int .i64 1)
            | 29 => .eq (Value.bool true)
            | 30 => .eq (Value.bool true)
            | 31 => .eq (Value.bool true)
            | 32 => .eq (undef)
            | 33 => .eq (undef)
            | 34 => .eq (undef)
            | 35 => .eq (Value.bool true)
            | 36 => .eq (Value.bool true)
            | 37 => .eq (undef)
            | 38 => .eq (undef)
            | 39 => .eq (undef)
            | 40 => .eq (undef)
            | 41 => .eq (undef)
            | 42 => .eq (undef)
            | 43 => .eq (undef)
            | 44 => .eq (undef)
            | 45 => .eq (undef)
            | 46 => .eq (undef)
            | 47 => .eq (undef)
            | 48 => .eq (undef)
            | 49 => .eq (undef)
            | 50 => .eq (Value.bool true)
            | _ => .any) v w) (fun w' => Below W.heap.size W w') 52 (by kernel_rfl) (by decide +kernel) rfl (Below.refl _ _).drew (by
            refine OweAll.cons (owesK rfl rfl fun a w1 ha hG hV => ?_) ?_
            · skip
              have h6 := ha.outer 6 (by decide +kernel)
              simp only [Act.eval] at h6
              exact ⟨.pointer (some ⟨g, 0, none⟩), w1, wanted_free rfl, by simp [execOp, go_sem, h6], Below.refl _ _, rfl⟩
            refine OweAll.cons (owesK rfl rfl fun a w1 ha hG hV => ?_) ?_
            · skip
              have h17 : a.tmps.getD 17 undef = .pointer (some ⟨g, 0, none⟩) := hV.get 17 (by decide +kernel)
              have cc := (hG.cell (p := ⟨g, 0, none⟩) hSl).trans cS0
              exact ⟨.int .i64 (m : Int), w1, wanted_free rfl, by simp [execOp, go_sem, h17, cc], Below.refl _ _, rfl⟩
            refine OweAll.cons (owesK rfl rfl fun a w1 ha hG hV => ?_) ?_
            · skip
              have h18 : a.tmps.getD 18 undef = .int .i64 (m : Int) := hV.get 18 (by decide +kernel)
              exact ⟨Value.bool false, w1, wanted_free rfl, by simp [execOp, go_sem, h18, f1], Below.refl _ _, rfl⟩
            refine OweAll.cons (owesK rfl rfl fun a w1 ha hG hV => ?_) ?_
            · skip
              have h19 : a.tmps.getD 19 undef = Value.bool false := hV.get 19 (by decide +kernel)
              exact ⟨Value.bool false, w1, wanted_free rfl, by simp [execOp, go_sem, h19], Below.refl _ _, rfl⟩
            refine OweAll.cons (owesK rfl rfl fun a w1 ha hG hV => ?_) ?_
            · skip
              have h6 := ha.outer 6 (by decide +kernel)
              simp only [Act.eval] at h6
              exact ⟨.pointer (some ⟨g, 0, none⟩), w1, (wanted_of (t := 20) rfl rfl (hV.get 20 (by decide +kernel))), by simp [execOp, go_sem, h6], Below.refl _ _, rfl⟩
            refine OweAll.cons (owesK rfl rfl fun a w1 ha hG hV => ?_) ?_
            · skip
              have h21 : a.tmps.getD 21 undef = .pointer (some ⟨g, 0, none⟩) := hV.get 21 (by decide +kernel)
              have cc := (hG.cell (p := ⟨g, 0, none⟩) hSl).trans cS0
              exact ⟨.int .i64 (m : Int), w1, (wanted_of (t := 20) rfl rfl (hV.get 20 (by decide +kernel))), by simp [execOp, go_sem, h21, cc], Below.refl _ _, rfl⟩
            refine OweAll.cons (owesK rfl rfl fun a w1 ha hG hV => ?_) ?_
            · skip
              have h22 : a.tmps.getD 22 undef = .int .i64 (m : Int) := hV.get 22 (by decide +kernel)
              exact ⟨Value.bool false, w1, (wanted_of (t := 20) rfl rfl (hV.get 20 (by decide +kernel))), by simp [execOp, go_sem, h22, f2], Below.refl _ _, rfl⟩
            refine OweAll.cons (owesK rfl rfl fun a w1 ha hG hV => ?_) ?_
            · skip
              have h20 : a.tmps.getD 20 undef = Value.bool false := hV.get 20 (by decide +kernel)
              have h23 : a.tmps.getD 23 undef = Value.bool false := hV.get 23 (by decide +kernel)
              exact ⟨Value.bool false, w1, wanted_free rfl, by simp [execOp, go_sem, h20, h23], Below.refl _ _, rfl⟩
            refine OweAll.cons (owesK rfl rfl fun a w1 ha hG hV => ?_) ?_
            · skip
              have h24 : a.tmps.getD 24 undef = Value.bool false := hV.get 24 (by decide +kernel)
              exact ⟨Value.bool false, w1, wanted_free rfl, by simp [execOp, go_sem, h24], Below.refl _ _, rfl⟩
            refine OweAll.cons (owesK rfl rfl fun a w1 ha hG hV => ?_) ?_
            · skip
              have h6 := ha.outer 6 (by decide +kernel)
              simp only [Act.eval] at h6
              exact ⟨.pointer (some ⟨g, 1, none⟩), w1, (wanted_of (t := 25) rfl rfl (hV.get 25 (by decide +kernel))), by simp [execOp, go_sem, h6], Below.refl _ _, rfl⟩
            refine OweAll.cons (owesK rfl rfl fun a w1 ha hG hV => ?_) ?_
            · skip
              have h26 : a.tmps.getD 26 undef = .pointer (some ⟨g, 1, none⟩) := hV.get 26 (by decide +kernel)
              have cc := (hG.cell (p := ⟨g, 1, none⟩) hSl).trans cS1
              exact ⟨.int .i64 (p : Int), w1, (wanted_of (t := 25) rfl rfl (hV.get 25 (by decide +kernel))), by simp [execOp, go_sem, h26, cc], Below.refl _ _, rfl⟩
            refine OweAll.cons (owesK rfl rfl fun a w1 ha hG hV => ?_) ?_
            · skip
              have h1 := ha.outer 1 (by decide +kernel)
              simp only [Act.eval] at h1
              exact ⟨.int .i64 1, w1, (wanted_of (t := 25) rfl rfl (hV.get 25 (by decide +kernel))), by simp [execOp, go_sem, h1], Below.refl _ _, rfl⟩
            refine OweAll.cons (owesK rfl rfl fun a w1 ha hG hV => ?_) ?_
            · skip
              have h27 : a.tmps.getD 27 undef = .int .i64 (p : Int) := hV.get 27 (by decide +kernel)
              have h28 : a.tmps.getD 28 undef = .int .i64 1 := hV.get 28 (by decide +kernel)
              exact ⟨Value.bool true, w1, (wanted_of (t := 25) rfl rfl (hV.get 25 (by decide +kernel))), by simp [execOp, go_sem, h27, h28, f3], Below.refl _ _, rfl⟩
            refine OweAll.cons (owesK rfl rfl fun a w1 ha hG hV => ?_) ?_
            · skip
              have h25 : a.tmps.getD 25 undef = Value.bool false := hV.get 25 (by decide +kernel)
              have h29 : a.tmps.getD 29 undef = Value.bool true := hV.get 29 (by decide +kernel)
              exact ⟨Value.bool true, w1, wanted_free rfl, by simp [execOp, go_sem, h25, h29], Below.refl _ _, rfl⟩
            refine OweAll.cons (owesK rfl rfl fun a w1 ha hG hV => ?_) ?_
            · skip
              have h30 : a.tmps.getD 30 undef = Value.bool true := hV.get 30 (by decide +kernel)
              exact ⟨Value.bool true, w1, wanted_free rfl, by simp [execOp, go_sem, h30], Below.refl _ _, rfl⟩
            refine OweAll.cons (owesK_not rfl rfl fun a w1 ha hG hV => ⟨not_wanted (t := 31) rfl rfl (hV.get 31 (by decide +kernel)) (by first | simp; done | (intro h; cases h)), rfl⟩) ?_
            refine OweAll.cons (owesK_not rfl rfl fun a w1 ha hG hV => ⟨not_wanted (t := 31) rfl rfl (hV.get 31 (by decide +kernel)) (by first | simp; done | (intro h; cases h)), rfl⟩) ?_
            refine OweAll.cons (owesK_not rfl rfl fun a w1 ha hG hV => ⟨not_wanted (t := 31) rfl rfl (hV.get 31 (by decide +kernel)) (by first | simp; done | (intro h; cases h)), rfl⟩) ?_
            refine OweAll.cons (owesK rfl rfl fun a w1 ha hG hV => ?_) ?_
            · skip
              have h31 : a.tmps.getD 31 undef = Value.bool true := hV.get 31 (by decide +kernel)
              exact ⟨Value.bool true, w1, wanted_free rfl, by simp [execOp, go_sem, h31], Below.refl _ _, rfl⟩
            refine OweAll.cons (owesK rfl rfl fun a w1 ha hG hV => ?_) ?_
            · skip
              have h35 : a.tmps.getD 35 undef = Value.bool true := hV.get 35 (by decide +kernel)
              exact ⟨Value.bool true, w1, wanted_free rfl, by simp [execOp, go_sem, h35], Below.refl _ _, rfl⟩
            refine OweAll.cons (owesK_not rfl rfl fun a w1 ha hG hV => ⟨not_wanted (t := 36) rfl rfl (hV.get 36 (by decide +kernel)) (by first | simp; done | (intro h; cases h)), rfl⟩) ?_
            refine OweAll.cons (owesK_not rfl rfl fun a w1 ha hG hV => ⟨not_wanted (t := 36) rfl rfl (hV.get 36 (by decide +kernel)) (by first | simp; done | (intro h; cases h)), rfl⟩) ?_
            refine OweAll.cons (owesK_not rfl rfl fun a w1 ha hG hV => ⟨not_wanted (t := 36) rfl rfl (hV.get 36 (by decide +kernel)) (by first | simp; done | (intro h; cases h)), rfl⟩) ?_
            refine OweAll.cons (owesK_not rfl rfl fun a w1 ha hG hV => ⟨not_wanted (t := 39) rfl rfl (hV.get 39 (by decide +kernel)) (by first | simp; done | (intro h; cases h)), rfl⟩) ?_
            refine OweAll.cons (owesK_not rfl rfl fun a w1 ha hG hV => ⟨not_wanted (t := 39) rfl rfl (hV.get 39 (by decide +kernel)) (by first | simp; done | (intro h; cases h)), rfl⟩) ?_
            refine OweAll.cons (owesK_not rfl rfl fun a w1 ha hG hV => ⟨not_wanted (t := 39) rfl rfl (hV.get 39 (by decide +kernel)) (by first | simp; done | (intro h; cases h)), rfl⟩) ?_
            refine OweAll.cons (owesK_not rfl rfl fun a w1 ha hG hV => ⟨not_wanted (t := 39) rfl rfl (hV.get 39 (by decide +kernel)) (by first | simp; done | (intro h; cases h)), rfl⟩) ?_
            refine OweAll.cons (owesK_not rfl rfl fun a w1 ha hG hV => ⟨not_wanted (t := 39) rfl rfl (hV.get 39 (by decide +kernel)) (by first | simp; done | (intro h; cases h)), rfl⟩) ?_
            refine OweAll.cons (owesK_not rfl rfl fun a w1 ha hG hV => ⟨not_wanted (t := 39) rfl rfl (hV.get 39 (by decide +kernel)) (by first | simp; done | (intro h; cases h)), rfl⟩) ?_
            refine OweAll.cons (owesK_not rfl rfl fun a w1 ha hG hV => ⟨not_wanted (t := 39) rfl rfl (hV.get 39 (by decide +kernel)) (by first | simp; done | (intro h; cases h)), rfl⟩) ?_
            refine OweAll.cons (owesK_not rfl rfl fun a w1 ha hG hV => ⟨not_wanted (t := 39) rfl rfl (hV.get 39 (by decide +kernel)) (by first | simp; done | (intro h; cases h)), rfl⟩) ?_
            refine OweAll.cons (owesK_not rfl rfl fun a w1 ha hG hV => ⟨not_wanted (t := 39) rfl rfl (hV.get 39 (by decide +kernel)) (by first | simp; done | (intro h; cases h)), rfl⟩) ?_
            refine OweAll.cons (owesK_not rfl rfl fun a w1 ha hG hV => ⟨not_wanted (t := 36) rfl rfl (hV.get 36 (by decide +kernel)) (by first | simp; done | (intro h; cases h)), rfl⟩) ?_
            refine OweAll.cons (owesK rfl rfl fun a w1 ha hG hV => ?_) ?_
            · skip
              have h36 : a.tmps.getD 36 undef = Value.bool true := hV.get 36 (by decide +kernel)
              exact ⟨Value.bool true, w1, wanted_free rfl, by simp [execOp, go_sem, h36], Below.refl _ _, rfl⟩
            exact OweAll.nil
            ) ?_
          intro f wz hG hv
          have e50 : f 50 = Value.bool true := hv 33 _ 50 rfl rfl
          rename_i hK
          refine hK _ _ ?_
          clear hK hv
          simp only [dsts, puts, List.filterMap_cons, List.filterMap_nil, List.foldl_cons, List.foldl_nil, Act.put, List.setIfInBounds_toArray, List.set_cons_succ, List.set_cons_zero, e50]
          clear e50
          obtain rfl := HR.out
          go_wp2_with fail
          go_ret
          exact ⟨rfl, (HB2.out).trans (hG.mono HB2.out.size)⟩
        · by_cases hi0 : i = 0
          · have hgn : Hid (Good E (i + 1)) := Lib.hid (hnx.out (by rw [hb0.out hi0]; omega) (by omega) (by omega) (by omega))
            clear hbad hnx hprev2 hb0
            refine wp_region_puts (fun t v w => VK (match t with
              | 17 => .eq (.pointer (some ⟨g, 0, none⟩))
              | 18 => .eq (.int .i64 (m : Int))
              | 19 => .eq (Value.bool false)
              | 20 => .eq (Value.bool false)
              | 21 => .eq (.pointer (some ⟨g, 0, none⟩))
              | 22 => .eq (.int .i64 (m : Int))
              | 23 => .eq (Value.bool false)
              | 24 => .eq (Value.bool false)
              | 25 => .eq (Value.bool false)
              | 26 => .eq (.pointer (some ⟨g, 1, none⟩))
              | 27 => .eq (.int .i64 (p : Int))
              | 28 => .eq (.int .i64 1)
              | 29 => .eq (Value.bool false)
              | 30 => .eq (Value.bool false)
              | 31 => .eq (Value.bool false)
              | 32 => .eq (.pointer (some ⟨g, 1, none⟩))
              | 33 => .eq (.int .i64 (p : Int))
              | 34 => .eq (Value.bool false)
              | 35 => .eq (Value.bool false)
              | 36 => .eq (Value.bool false)
              | 37 => .eq (.int .i64 (i : Int))
              | 38 => .eq (Value.bool false)
              | 39 => .eq (Value.bool false)
              | 40 => .eq (undef)
              | 41 => .eq (undef)
              | 42 => .eq (undef)
              | 43 => .eq (undef)
              | 44 => .eq (undef)
              | 45 => .eq (undef)
              | 46 => .eq (undef)
              | 47 => .eq (undef)
              | 48 => .eq (undef)
              | 49 => .eq (Value.bool false)
              | 50 => .eq (Value.bool false)
              | _ => .any) v w) (fun w' => Below W.heap.size W w') 52 (by kernel_rfl) (by decide +kernel) rfl (Below.refl _ _).drew (by
              refine OweAll.cons (owesK rfl rfl fun a w1 ha hG hV => ?_) ?_
              · skip
                have h6 := ha.outer 6 (by decide +kernel)
                simp only [Act.eval] at h6
                exact ⟨.pointer (some ⟨g, 0, none⟩), w1, wanted_free rfl, by simp [execOp, go_sem, h6], Below.refl _ _, rfl⟩
              refine OweAll.cons (owesK rfl rfl fun a w1 ha hG hV => ?_) ?_
              · skip
                have h17 : a.tmps.getD 17 undef = .pointer (some ⟨g, 0, none⟩) := hV.get 17 (by decide +kernel)
                have cc := (hG.cell (p := ⟨g, 0, none⟩) hSl).trans cS0
                exact ⟨.int .i64 (m : Int), w1, wanted_free rfl, by simp [execOp, go_sem, h17, cc], Below.refl _ _, rfl⟩
              refine OweAll.cons (owesK rfl rfl fun a w1 ha hG hV => ?_) ?_
              · skip
                have h18 : a.tmps.getD 18 undef = .int .i64 (m : Int) := hV.get 18 (by decide +kernel)
                exact ⟨Value.bool false, w1, wanted_free rfl, by simp [execOp, go_sem, h18, f1], Below.refl _ _, rfl⟩
              refine OweAll.cons (owesK rfl rfl fun a w1 ha hG hV => ?_) ?_
              · skip
                have h19 : a.tmps.getD 19 undef = Value.bool false := hV.get 19 (by decide +kernel)
                exact ⟨Value.bool false, w1, wanted_free rfl, by simp [execOp, go_sem, h19], Below.refl _ _, rfl⟩
              refine OweAll.cons (owesK rfl rfl fun a w1 ha hG hV => ?_) ?_
              · skip
                have h6 := ha.outer 6 (by decide +kernel)
                simp only [Act.eval] at h6
                exact ⟨.pointer (some ⟨g, 0, none⟩), w1, (wanted_of (t := 20) rfl rfl (hV.get 20 (by decide +kernel))), by simp [execOp, go_sem, h6], Below.refl _ _, rfl⟩
              refine OweAll.cons (owesK rfl rfl fun a w1 ha hG hV => ?_) ?_
              · skip
                have h21 : a.tmps.getD 21 undef = .pointer (some ⟨g, 0, none⟩) := hV.get 21 (by decide +kernel)
                have cc := (hG.cell (p := ⟨g, 0, none⟩) hSl).trans cS0
                exact ⟨.int .i64 (m : Int), w1, (wanted_of (t := 20) rfl rfl (hV.get 20 (by decide +kernel))), by simp [execOp, go_sem, h21, cc], Below.refl _ _, rfl⟩
              refine OweAll.cons (owesK rfl rfl fun a w1 ha hG hV => ?_) ?_
              · skip
                have h22 : a.tmps.getD 22 undef = .int .i64 (m : Int) := hV.get 22 (by decide +kernel)
                exact ⟨Value.bool false, w1, (wanted_of (t := 20) rfl rfl (hV.get 20 (by decide +kernel))), by simp [execOp, go_sem, h22, f2], Below.refl _ _, rfl⟩
              refine OweAll.cons (owesK rfl rfl fun a w1 ha hG hV => ?_) ?_
              · skip
                have h20 : a.tmps.getD 20 undef = Value.bool false := hV.get 20 (by decide +kernel)
                have h23 : a.tmps.getD 23 undef = Value.bool false := hV.get 23 (by decide +kernel)
                exact ⟨Value.bool false, w1, wanted_free rfl, by simp [execOp, go_sem, h20, h23], Below.refl _ _, rfl⟩
              refine OweAll.cons (owesK rfl rfl fun a w1 ha hG hV => ?_) ?_
              · skip
                have h24 : a.tmps.getD 24 undef = Value.bool false := hV.get 24 (by decide +kernel)
                exact ⟨Value.bool false, w1, wanted_free rfl, by simp [execOp, go_sem, h24], Below.refl _ _, rfl⟩
              refine OweAll.cons (owesK rfl rfl fun a w1 ha hG hV => ?_) ?_
              · skip
                have h6 := ha.outer 6 (by decide +kernel)
                simp only [Act.eval] at h6
                exact ⟨.pointer (some ⟨g, 1, none⟩), w1, (wanted_of (t := 25) rfl rfl (hV.get 25 (by decide +kernel))), by simp [execOp, go_sem, h6], Below.refl _ _, rfl⟩
              refine OweAll.cons (owesK rfl rfl fun a w1 ha hG hV => ?_) ?_
              · skip
                have h26 : a.tmps.getD 26 undef = .pointer (some ⟨g, 1, none⟩) := hV.get 26 (by decide +kernel)
                have cc := (hG.cell (p := ⟨g, 1, none⟩) hSl).trans cS1
                exact ⟨.int .i64 (p : Int), w1, (wanted_of (t := 25) rfl rfl (hV.get 25 (by decide +kernel))), by simp [execOp, go_sem, h26, cc], Below.refl _ _, rfl⟩
              refine OweAll.cons (owesK rfl rfl fun a w1 ha hG hV => ?_) ?_
              · skip
                have h1 := ha.outer 1 (by decide +kernel)
                simp only [Act.eval] at h1
                exact ⟨.int .i64 1, w1, (wanted_of (t := 25) rfl rfl (hV.get 25 (by decide +kernel))), by simp [execOp, go_sem, h1], Below.refl _ _, rfl⟩
              refine OweAll.cons (owesK rfl rfl fun a w1 ha hG hV => ?_) ?_
              · skip
                have h27 : a.tmps.getD 27 undef = .int .i64 (p : Int) := hV.get 27 (by decide +kernel)
                have h28 : a.tmps.getD 28 undef = .int .i64 1 := hV.get 28 (by decide +kernel)
                exact ⟨Value.bool false, w1, (wanted_of (t := 25) rfl rfl (hV.get 25 (by decide +kernel))), by simp [execOp, go_sem, h27, h28, f3], Below.refl _ _, rfl⟩
              refine OweAll.cons (owesK rfl rfl fun a w1 ha hG hV => ?_) ?_
              · skip
                have h25 : a.tmps.getD 25 undef = Value.bool false := hV.get 25 (by decide +kernel)
                have h29 : a.tmps.getD 29 undef = Value.bool false := hV.get 29 (by decide +kernel)
                exact ⟨Value.bool false, w1, wanted_free rfl, by simp [execOp, go_sem, h25, h29], Below.refl _ _, rfl⟩
              refine OweAll.cons (owesK rfl rfl fun a w1 ha hG hV => ?_) ?_
              · skip
                have h30 : a.tmps.getD 30 undef = Value.bool false := hV.get 30 (by decide +kernel)
                exact ⟨Value.bool false, w1, wanted_free rfl, by simp [execOp, go_sem, h30], Below.refl _ _, rfl⟩
              refine OweAll.cons (owesK rfl rfl fun a w1 ha hG hV => ?_) ?_
              · skip
                have h6 := ha.outer 6 (by decide +kernel)
                simp only [Act.eval] at h6
                exact ⟨.pointer (some ⟨g, 1, none⟩), w1, (wanted_of (t := 31) rfl rfl (hV.get 31 (by decide +kernel))), by simp [execOp, go_sem, h6], Below.refl _ _, rfl⟩
              refine OweAll.cons (owesK rfl rfl fun a w1 ha hG hV => ?_) ?_
              · skip
                have h32 : a.tmps.getD 32 undef = .pointer (some ⟨g, 1, none⟩) := hV.get 32 (by decide +kernel)
                have cc := (hG.cell (p := ⟨g, 1, none⟩) hSl).trans cS1
                exact ⟨.int .i64 (p : Int), w1, (wanted_of (t := 31) rfl rfl (hV.get 31 (by decide +kernel))), by simp [execOp, go_sem, h32, cc], Below.refl _ _, rfl⟩
              refine OweAll.cons (owesK rfl rfl fun a w1 ha hG hV => ?_) ?_
              · skip
                have h33 : a.tmps.getD 33 undef = .int .i64 (p : Int) := hV.get 33 (by decide +kernel)
                exact ⟨Value.bool false, w1, (wanted_of (t := 31) rfl rfl (hV.get 31 (by decide +kernel))), by simp [execOp, go_sem, h33, f4], Below.refl _ _, rfl⟩
              refine OweAll.cons (owesK rfl rfl fun a w1 ha hG hV => ?_) ?_
              · skip
                have h31 : a.tmps.getD 31 undef = Value.bool false := hV.get 31 (by decide +kernel)
                have h34 : a.tmps.getD 34 undef = Value.bool false := hV.get 34 (by decide +kernel)
                exact ⟨Value.bool false, w1, wanted_free rfl, by simp [execOp, go_sem, h31, h34], Below.refl _ _, rfl⟩
              refine OweAll.cons (owesK rfl rfl fun a w1 ha hG hV => ?_) ?_
              · skip
                have h35 : a.tmps.getD 35 undef = Value.bool false := hV.get 35 (by decide +kernel)
                exact ⟨Value.bool false, w1, wanted_free rfl, by simp [execOp, go_sem, h35], Below.refl _ _, rfl⟩
              refine OweAll.cons (owesK rfl rfl fun a w1 ha hG hV => ?_) ?_
              · skip
                have h5 := ha.outer 5 (by decide +kernel)
                simp only [Act.eval] at h5
                exact ⟨.int .i64 (i : Int), w1, (wanted_of (t := 36) rfl rfl (hV.get 36 (by decide +kernel))), by simp [execOp, go_sem, h5], Below.refl _ _, rfl⟩
              refine OweAll.cons (owesK rfl rfl fun a w1 ha hG hV => ?_) ?_
              · skip
                have h37 : a.tmps.getD 37 undef = .int .i64 (i : Int) := hV.get 37 (by decide +kernel)
                exact ⟨Value.bool false, w1, (wanted_of (t := 36) rfl rfl (hV.get 36 (by decide +kernel))), by simp [execOp, go_sem, h37, hi0], Below.refl _ _, rfl⟩
              refine OweAll.cons (owesK rfl rfl fun a w1 ha hG hV => ?_) ?_
              · skip
                have h38 : a.tmps.getD 38 undef = Value.bool false := hV.get 38 (by decide +kernel)
                exact ⟨Value.bool false, w1, (wanted_of (t := 36) rfl rfl (hV.get 36 (by decide +kernel))), by simp [execOp, go_sem, h38], Below.refl _ _, rfl⟩
              refine OweAll.cons (owesK_not rfl rfl fun a w1 ha hG hV => ⟨not_wanted (t := 39) rfl rfl (hV.get 39 (by decide +kernel)) (by first | simp; done | (intro h; cases h)), rfl⟩) ?_
              refine OweAll.cons (owesK_not rfl rfl fun a w1 ha hG hV => ⟨not_wanted (t := 39) rfl rfl (hV.get 39 (by decide +kernel)) (by first | simp; done | (intro h; cases h)), rfl⟩) ?_
              refine OweAll.cons (owesK_not rfl rfl fun a w1 ha hG hV => ⟨not_wanted (t := 39) rfl rfl (hV.get 39 (by decide +kernel)) (by first | simp; done | (intro h; cases h)), rfl⟩) ?_
              refine OweAll.cons (owesK_not rfl rfl fun a w1 ha hG hV => ⟨not_wanted (t := 39) rfl rfl (hV.get 39 (by decide +kernel)) (by first | simp; done | (intro h; cases h)), rfl⟩) ?_
              refine OweAll.cons (owesK_not rfl rfl fun a w1 ha hG hV => ⟨not_wanted (t := 39) rfl rfl (hV.get 39 (by decide +kernel)) (by first | simp; done | (intro h; cases h)), rfl⟩) ?_
              refine OweAll.cons (owesK_not rfl rfl fun a w1 ha hG hV => ⟨not_wanted (t := 39) rfl rfl (hV.get 39 (by decide +kernel)) (by first | simp; done | (intro h; cases h)), rfl⟩) ?_
              refine OweAll.cons (owesK_not rfl rfl fun a w1 ha hG hV => ⟨not_wanted (t := 39) rfl rfl (hV.get 39 (by decide +kernel)) (by first | simp; done | (intro h; cases h)), rfl⟩) ?_
              refine OweAll.cons (owesK_not rfl rfl fun a w1 ha hG hV => ⟨not_wanted (t := 39) rfl rfl (hV.get 39 (by decide +kernel)) (by first | simp; done | (intro h; cases h)), rfl⟩) ?_
              refine OweAll.cons (owesK_not rfl rfl fun a w1 ha hG hV => ⟨not_wanted (t := 39) rfl rfl (hV.get 39 (by decide +kernel)) (by first | simp; done | (intro h; cases h)), rfl⟩) ?_
              refine OweAll.cons (owesK rfl rfl fun a w1 ha hG hV => ?_) ?_
              · skip
                have h39 : a.tmps.getD 39 undef = Value.bool false := hV.get 39 (by decide +kernel)
                exact ⟨Value.bool false, w1, (wanted_of (t := 36) rfl rfl (hV.get 36 (by decide +kernel))), by simp [execOp, go_sem, h39], Below.refl _ _, rfl⟩
              refine OweAll.cons (owesK rfl rfl fun a w1 ha hG hV => ?_) ?_
              · skip
                have h36 : a.tmps.getD 36 undef = Value.bool false := hV.get 36 (by decide +kernel)
                have h49 : a.tmps.getD 49 undef = Value.bool false := hV.get 49 (by decide +kernel)
                exact ⟨Value.bool false, w1, wanted_free rfl, by simp [execOp, go_sem, h36, h49], Below.refl _ _, rfl⟩
              exact OweAll.nil
              ) ?_
            intro f wz hG hv
            have e50 : f 50 = Value.bool false := hv 33 _ 50 rfl rfl
            rename_i hK
            refine hK _ _ ?_
            clear hK hv
            simp only [dsts, puts, List.filterMap_cons, List.filterMap_nil, List.foldl_cons, List.foldl_nil, Act.put, List.setIfInBounds_toArray, List.set_cons_succ, List.set_cons_zero, e50]
            clear e50
            go_wp2_with fail
            go_roundw
            case rel => exact ⟨i + 1, by omega, by go_num, Lib.hid ⟨hgn.out, HB2.out.trans (hG.mono HB2.out.size)⟩⟩
            case measure => simp [intOf]; omega
          · obtain ⟨j, hj⟩ : ∃ j, i = j + 1 := ⟨i - 1, by omega⟩
            obtain ⟨m', hbe, cP⟩ := hprev2.out j hj
            have f5 : 0 < i := by omega
            have f6 : IntKind.i64.wrap ((i : Int) - 1) = (j : Int) := by rw [IntKind.wrap_i64]; omega
            have j0 : (0 : Int) ≤ j := by omega
            have j1 : (j : Int) < n := by omega
            by_cases f7 : (m : Int) ≤ m'
            · have HR : Hid (res = 1) := Lib.hid (hno.out (fun h => by have := (hbad.out h).1; omega))
              clear hbad hnx hprev2 hb0
              refine wp_region_puts (fun t v w => VK (match t with
                | 17 => .eq (.pointer (some ⟨g, 0, none⟩))
                | 18 => .eq (.int .i64 (m : Int))
                | 19 => .eq (Value.bool false)
                | 20 => .eq (Value.bool false)
                | 21 => .eq (.pointer (some ⟨g, 0, none⟩))
                | 22 => .eq (.int .i64 (m : Int))
                | 23 => .eq (Value.bool false)
                | 24 => .eq (Value.bool false)
                | 25 => .eq (Value.bool false)
                | 26 => .eq (.pointer (some ⟨g, 1, none⟩))
                | 27 => .eq (.int .i64 (p : Int))
                | 28 => .eq (.int .i64 1)
                | 29 => .eq (Value.bool false)
                | 30 => .eq (Value.bool false)
                | 31 => .eq (Value.bool false)
                | 32 => .eq (.pointer (some ⟨g, 1, none⟩))
                | 33 => .eq (.int .i64 (p : Int))
                | 34 => .eq (Value.bool false)
                | 35 => .eq (Value.bool false)
                | 36 => .eq (Value.bool false)
                | 37 => .eq (.int .i64 (i : Int))
                | 38 => .eq (Value.bool true)
                | 39 => .eq (Value.bool true)
                | 40 => .eq (.slice (some ⟨bs, off, none⟩) n cap)
                | 41 => .eq (.int .i64 (i : Int))
                | 42 => .eq (.int .i64 (j : Int))
                | 43 => .eq (.pointer (some ⟨bs, off + j * 2, none⟩))
                | 44 => .eq (.pointer (some ⟨bs, off + j * 2, none⟩))
                | 45 => .eq (.int .i64 (m' : Int))
                | 46 => .eq (.pointer (some ⟨g, 0, none⟩))
                | 47 => .eq (.int .i64 (m : Int))
                | 48 => .eq (Value.bool true)
                | 49 => .eq (Value.bool true)
                | 50 => .eq (Value.bool true)
                | _ => .any) v w) (fun w' => Below W.heap.size W w') 52 (by kernel_rfl) (by decide +kernel) rfl (Below.refl _ _).drew (by
                refine OweAll.cons (owesK rfl rfl fun a w1 ha hG hV => ?_) ?_
                · skip
                  have h6 := ha.outer 6 (by decide +kernel)
                  simp only [Act.eval] at h6
                  exact ⟨.pointer (some ⟨g, 0, none⟩), w1, wanted_free rfl, by simp [execOp, go_sem, h6], Below.refl _ _, rfl⟩
                refine OweAll.cons (owesK rfl rfl fun a w1 ha hG hV => ?_) ?_
                · skip
                  have h17 : a.tmps.getD 17 undef = .pointer (some ⟨g, 0, none⟩) := hV.get 17 (by decide +kernel)
                  have cc := (hG.cell (p := ⟨g, 0, none⟩) hSl).trans cS0
                  exact ⟨.int .i64 (m : Int), w1, wanted_free rfl, by simp [execOp, go_sem, h17, cc], Below.refl _ _, rfl⟩
                refine OweAll.cons (owesK rfl rfl fun a w1 ha hG hV => ?_) ?_
                · skip
                  have h18 : a.tmps.getD 18 undef = .int .i64 (m : Int) := hV.get 18 (by decide +kernel)
                  exact ⟨Value.bool false, w1, wanted_free rfl, by simp [execOp, go_sem, h18, f1], Below.refl _ _, rfl⟩
                refine OweAll.cons (owesK rfl rfl fun a w1 ha hG hV => ?_) ?_
                · skip
                  have h19 : a.tmps.getD 19 undef = Value.bool false := hV.get 19 (by decide +kernel)
                  exact ⟨Value.bool false, w1, wanted_free rfl, by simp [execOp, go_sem, h19], Below.refl _ _, rfl⟩
                refine OweAll.cons (owesK rfl rfl fun a w1 ha hG hV => ?_) ?_
                · skip
                  have h6 := ha.outer 6 (by decide +kernel)
                  simp only [Act.eval] at h6
                  exact ⟨.pointer (some ⟨g, 0, none⟩), w1, (wanted_of (t := 20) rfl rfl (hV.get 20 (by decide +kernel))), by simp [execOp, go_sem, h6], Below.refl _ _, rfl⟩
                refine OweAll.cons (owesK rfl rfl fun a w1 ha hG hV => ?_) ?_
                · skip
                  have h21 : a.tmps.getD 21 undef = .pointer (some ⟨g, 0, none⟩) := hV.get 21 (by decide +kernel)
                  have cc := (hG.cell (p := ⟨g, 0, none⟩) hSl).trans cS0
                  exact ⟨.int .i64 (m : Int), w1, (wanted_of (t := 20) rfl rfl (hV.get 20 (by decide +kernel))), by simp [execOp, go_sem, h21, cc], Below.refl _ _, rfl⟩
                refine OweAll.cons (owesK rfl rfl fun a w1 ha hG hV => ?_) ?_
                · skip
                  have h22 : a.tmps.getD 22 undef = .int .i64 (m : Int) := hV.get 22 (by decide +kernel)
                  exact ⟨Value.bool false, w1, (wanted_of (t := 20) rfl rfl (hV.get 20 (by decide +kernel))), by simp [execOp, go_sem, h22, f2], Below.refl _ _, rfl⟩
                refine OweAll.cons (owesK rfl rfl fun a w1 ha hG hV => ?_) ?_
                · skip
                  have h20 : a.tmps.getD 20 undef = Value.bool false := hV.get 20 (by decide +kernel)
                  have h23 : a.tmps.getD 23 undef = Value.bool false := hV.get 23 (by decide +kernel)
                  exact ⟨Value.bool false, w1, wanted_free rfl, by simp [execOp, go_sem, h20, h23], Below.refl _ _, rfl⟩
                refine OweAll.cons (owesK rfl rfl fun a w1 ha hG hV => ?_) ?_
                · skip
                  have h24 : a.tmps.getD 24 undef = Value.bool false := hV.get 24 (by decide +kernel)
                  exact ⟨Value.bool false, w1, wanted_free rfl, by simp [execOp, go_sem, h24], Below.refl _ _, rfl⟩
                refine OweAll.cons (owesK rfl rfl fun a w1 ha hG hV => ?_) ?_
                · skip
                  have h6 := ha.outer 6 (by decide +kernel)
                  simp only [Act.eval] at h6
                  exact ⟨.pointer (some ⟨g, 1, none⟩), w1, (wanted_of (t := 25) rfl rfl (hV.get 25 (by decide +kernel))), by simp [execOp, go_sem, h6], Below.refl _ _, rfl⟩
                refine OweAll.cons (owesK rfl rfl fun a w1 ha hG hV => ?_) ?_
                · skip
                  have h26 : a.tmps.getD 26 undef = .pointer (some ⟨g, 1, none⟩) := hV.get 26 (by decide +kernel)
                  have cc := (hG.cell (p := ⟨g, 1, none⟩) hSl).trans cS1
                  exact ⟨.int .i64 (p : Int), w1, (wanted_of (t := 25) rfl rfl (hV.get 25 (by decide +kernel))), by simp [execOp, go_sem, h26, cc], Below.refl _ _, rfl⟩
                refine OweAll.cons (owesK rfl rfl fun a w1 ha hG hV => ?_) ?_
                · skip
                  have h1 := ha.outer 1 (by decide +kernel)
                  simp only [Act.eval] at h1
                  exact ⟨.int .i64 1, w1, (wanted_of (t := 25) rfl rfl (hV.get 25 (by decide +kernel))), by simp [execOp, go_sem, h1], Below.refl _ _, rfl⟩
                refine OweAll.cons (owesK rfl rfl fun a w1 ha hG hV => ?_) ?_
                · skip
                  have h27 : a.tmps.getD 27 undef = .int .i64 (p : Int) := hV.get 27 (by decide +kernel)
                  have h28 : a.tmps.getD 28 undef = .int .i64 1 := hV.get 28 (by decide +kernel)
                  exact ⟨Value.bool false, w1, (wanted_of (t := 25) rfl rfl (hV.get 25 (by decide +kernel))), by simp [execOp, go_sem, h27, h28, f3], Below.refl _ _, rfl⟩
                refine OweAll.cons (owesK rfl rfl fun a w1 ha hG hV => ?_) ?_
                · skip
                  have h25 : a.tmps.getD 25 undef = Value.bool false := hV.get 25 (by decide +kernel)
                  have h29 : a.tmps.getD 29 undef = Value.bool false := hV.get 29 (by decide +kernel)
                  exact ⟨Value.bool false, w1, wanted_free rfl, by simp [execOp, go_sem, h25, h29], Below.refl _ _, rfl⟩
                refine OweAll.cons (owesK rfl rfl fun a w1 ha hG hV => ?_) ?_
                · skip
                  have h30 : a.tmps.getD 30 undef = Value.bool false := hV.get 30 (by decide +kernel)
                  exact ⟨Value.bool false, w1, wanted_free rfl, by simp [execOp, go_sem, h30], Below.refl _ _, rfl⟩
                refine OweAll.cons (owesK rfl rfl fun a w1 ha hG hV => ?_) ?_
                · skip
                  have h6 := ha.outer 6 (by decide +kernel)
                  simp only [Act.eval] at h6
                  exact ⟨.pointer (some ⟨g, 1, none⟩), w1, (wanted_of (t := 31) rfl rfl (hV.get 31 (by decide +kernel))), by simp [execOp, go_sem, h6], Below.refl _ _, rfl⟩
                refine OweAll.cons (owesK rfl rfl fun a w1 ha hG hV => ?_) ?_
                · skip
                  have h32 : a.tmps.getD 32 undef = .pointer (some ⟨g, 1, none⟩) := hV.get 32 (by decide +kernel)
                  have cc := (hG.cell (p := ⟨g, 1, none⟩) hSl).trans cS1
                  exact ⟨.int .i64 (p : Int), w1, (wanted_of (t := 31) rfl rfl (hV.get 31 (by decide +kernel))), by simp [execOp, go_sem, h32, cc], Below.refl _ _, rfl⟩
                refine OweAll.cons (owesK rfl rfl fun a w1 ha hG hV => ?_) ?_
                · skip
                  have h33 : a.tmps.getD 33 undef = .int .i64 (p : Int) := hV.get 33 (by decide +kernel)
                  exact ⟨Value.bool false, w1, (wanted_of (t := 31) rfl rfl (hV.get 31 (by decide +kernel))), by simp [execOp, go_sem, h33, f4], Below.refl _ _, rfl⟩
                refine OweAll.cons (owesK rfl rfl fun a w1 ha hG hV => ?_) ?_
                · skip
                  have h31 : a.tmps.getD 31 undef = Value.bool false := hV.get 31 (by decide +kernel)
                  have h34 : a.tmps.getD 34 undef = Value.bool false := hV.get 34 (by decide +kernel)
                  exact ⟨Value.bool false, w1, wanted_free rfl, by simp [execOp, go_sem, h31, h34], Below.refl _ _, rfl⟩
                refine OweAll.cons (owesK rfl rfl fun a w1 ha hG hV => ?_) ?_
                · skip
                  have h35 : a.tmps.getD 35 undef = Value.bool false := hV.get 35 (by decide +kernel)
                  exact ⟨Value.bool false, w1, wanted_free rfl, by simp [execOp, go_sem, h35], Below.refl _ _, rfl⟩
                refine OweAll.cons (owesK rfl rfl fun a w1 ha hG hV => ?_) ?_
                · skip
                  have h5 := ha.outer 5 (by decide +kernel)
                  simp only [Act.eval] at h5
                  exact ⟨.int .i64 (i : Int), w1, (wanted_of (t := 36) rfl rfl (hV.get 36 (by decide +kernel))), by simp [execOp, go_sem, h5], Below.refl _ _, rfl⟩
                refine OweAll.cons (owesK rfl rfl fun a w1 ha hG hV => ?_) ?_
                · skip
                  have h37 : a.tmps.getD 37 undef = .int .i64 (i : Int) := hV.get 37 (by decide +kernel)
                  exact ⟨Value.bool true, w1, (wanted_of (t := 36) rfl rfl (hV.get 36 (by decide +kernel))), by simp [execOp, go_sem, h37, f5], Below.refl _ _, rfl⟩
                refine OweAll.cons (owesK rfl rfl fun a w1 ha hG hV => ?_) ?_
                · skip
                  have h38 : a.tmps.getD 38 undef = Value.bool true := hV.get 38 (by decide +kernel)
                  exact ⟨Value.bool true, w1, (wanted_of (t := 36) rfl rfl (hV.get 36 (by decide +kernel))), by simp [execOp, go_sem, h38], Below.refl _ _, rfl⟩
                refine OweAll.cons (owesK rfl rfl fun a w1 ha hG hV => ?_) ?_
                · skip
                  have h0 := ha.outer 0 (by decide +kernel)
                  simp only [Act.eval] at h0
                  exact ⟨.slice (some ⟨bs, off, none⟩) n cap, w1, (wanted_of (t := 39) rfl rfl (hV.get 39 (by decide +kernel))), by simp [execOp, go_sem, h0], Below.refl _ _, rfl⟩
                refine OweAll.cons (owesK rfl rfl fun a w1 ha hG hV => ?_) ?_
                · skip
                  have h5 := ha.outer 5 (by decide +kernel)
                  simp only [Act.eval] at h5
                  exact ⟨.int .i64 (i : Int), w1, (wanted_of (t := 39) rfl rfl (hV.get 39 (by decide +kernel))), by simp [execOp, go_sem, h5], Below.refl _ _, rfl⟩
                refine OweAll.cons (owesK rfl rfl fun a w1 ha hG hV => ?_) ?_
                · skip
                  have h41 : a.tmps.getD 41 undef = .int .i64 (i : Int) := hV.get 41 (by decide +kernel)
                  exact ⟨.int .i64 (j : Int), w1, (wanted_of (t := 39) rfl rfl (hV.get 39 (by decide +kernel))), by simp [execOp, go_sem, h41, f6], Below.refl _ _, rfl⟩
                refine OweAll.cons (owesK rfl rfl fun a w1 ha hG hV => ?_) ?_
                · skip
                  have h40 : a.tmps.getD 40 undef = .slice (some ⟨bs, off, none⟩) n cap := hV.get 40 (by decide +kernel)
                  have h42 : a.tmps.getD 42 undef = .int .i64 (j : Int) := hV.get 42 (by decide +kernel)
                  exact ⟨.pointer (some ⟨bs, off + j * 2, none⟩), w1, (wanted_of (t := 39) rfl rfl (hV.get 39 (by decide +kernel))), by simp [execOp, go_sem, h40, h42, j0, j1], Below.refl _ _, rfl⟩
                refine OweAll.cons (owesK rfl rfl fun a w1 ha hG hV => ?_) ?_
                · skip
                  have h43 : a.tmps.getD 43 undef = .pointer (some ⟨bs, off + j * 2, none⟩) := hV.get 43 (by decide +kernel)
                  exact ⟨.pointer (some ⟨bs, off + j * 2, none⟩), w1, (wanted_of (t := 39) rfl rfl (hV.get 39 (by decide +kernel))), by simp [execOp, go_sem, h43], Below.refl _ _, rfl⟩
                refine OweAll.cons (owesK rfl rfl fun a w1 ha hG hV => ?_) ?_
                · skip
                  have h44 : a.tmps.getD 44 undef = .pointer (some ⟨bs, off + j * 2, none⟩) := hV.get 44 (by decide +kernel)
                  have cc := (hG.cell (p := ⟨bs, off + j * 2, none⟩) hbs2).trans cP
                  exact ⟨.int .i64 (m' : Int), w1, (wanted_of (t := 39) rfl rfl (hV.get 39 (by decide +kernel))), by simp [execOp, go_sem, h44, cc], Below.refl _ _, rfl⟩
                refine OweAll.cons (owesK rfl rfl fun a w1 ha hG hV => ?_) ?_
                · skip
                  have h6 := ha.outer 6 (by decide +kernel)
                  simp only [Act.eval] at h6
                  exact ⟨.pointer (some ⟨g, 0, none⟩), w1, (wanted_of (t := 39) rfl rfl (hV.get 39 (by decide +kernel))), by simp [execOp, go_sem, h6], Below.refl _ _, rfl⟩
                refine OweAll.cons (owesK rfl rfl fun a w1 ha hG hV => ?_) ?_
                · skip
                  have h46 : a.tmps.getD 46 undef = .pointer (some ⟨g, 0, none⟩) := hV.get 46 (by decide +kernel)
                  have cc := (hG.cell (p := ⟨g, 0, none⟩) hSl).trans cS0
                  exact ⟨.int .i64 (m : Int), w1, (wanted_of (t := 39) rfl rfl (hV.get 39 (by decide +kernel))), by simp [execOp, go_sem, h46, cc], Below.refl _ _, rfl⟩
                refine OweAll.cons (owesK rfl rfl fun a w1 ha hG hV => ?_) ?_
                · skip
                  have h45 : a.tmps.getD 45 undef = .int .i64 (m' : Int) := hV.get 45 (by decide +kernel)
                  have h47 : a.tmps.getD 47 undef = .int .i64 (m : Int) := hV.get 47 (by decide +kernel)
                  exact ⟨Value.bool true, w1, (wanted_of (t := 39) rfl rfl (hV.get 39 (by decide +kernel))), by simp [execOp, go_sem, h45, h47, f7], Below.refl _ _, rfl⟩
                refine OweAll.cons (owesK rfl rfl fun a w1 ha hG hV => ?_) ?_
                · skip
                  have h39 : a.tmps.getD 39 undef = Value.bool true := hV.get 39 (by decide +kernel)
                  have h48 : a.tmps.getD 48 undef = Value.bool true := hV.get 48 (by decide +kernel)
                  exact ⟨Value.bool true, w1, (wanted_of (t := 36) rfl rfl (hV.get 36 (by decide +kernel))), by simp [execOp, go_sem, h39, h48], Below.refl _ _, rfl⟩
                refine OweAll.cons (owesK rfl rfl fun a w1 ha hG hV => ?_) ?_
                · skip
                  have h36 : a.tmps.getD 36 undef = Value.bool false := hV.get 36 (by decide +kernel)
                  have h49 : a.tmps.getD 49 undef = Value.bool true := hV.get 49 (by decide +kernel)
                  exact ⟨Value.bool true, w1, wanted_free rfl, by simp [execOp, go_sem, h36, h49], Below.refl _ _, rfl⟩
                exact OweAll.nil
                ) ?_
              intro f wz hG hv
              have e50 : f 50 = Value.bool true := hv 33 _ 50 rfl rfl
              rename_i hK
              refine hK _ _ ?_
              clear hK hv
              simp only [dsts, puts, List.filterMap_cons, List.filterMap_nil, List.foldl_cons, List.foldl_nil, Act.put, List.setIfInBounds_toArray, List.set_cons_succ, List.set_cons_zero, e50]
              clear e50
              obtain rfl := HR.out
              go_wp2_with fail
              go_ret
              exact ⟨rfl, (HB2.out).trans (hG.mono HB2.out.size)⟩
            · have hgn : Hid (Good E (i + 1)) := Lib.hid (hnx.out (by omega) (by omega) (by omega) (by omega))
              clear hbad hnx hprev2 hb0
              refine wp_region_puts (fun t v w => VK (match t with
                | 17 => .eq (.pointer (some ⟨g, 0, none⟩))
                | 18 => .eq (.int .i64 (m : Int))
                | 19 => .eq (Value.bool false)
                | 20 => .eq (Value.bool false)
                | 21 => .eq (.pointer (some ⟨g, 0, none⟩))
                | 22 => .eq (.int .i64 (m : Int))
                | 23 => .eq (Value.bool false)
                | 24 => .eq (Value.bool false)
                | 25 => .eq (Value.bool false)
                | 26 => .eq (.pointer (some ⟨g, 1, none⟩))
                | 27 => .eq (.int .i64 (p : Int))
                | 28 => .eq (.int .i64 1)
                | 29 => .eq (Value.bool false)
                | 30 => .eq (Value.bool false)
                | 31 => .eq (Value.bool false)
                | 32 => .eq (.pointer (some ⟨g, 1, none⟩))
                | 33 => .eq (.int .i64 (p : Int))
                | 34 => .eq (Value.bool false)
                | 35 => .eq (Value.bool false)
                | 36 => .eq (Value.bool false)
                | 37 => .eq (.int .i64 (i : Int))
                | 38 => .eq (Value.bool true)
                | 39 => .eq (Value.bool true)
                | 40 => .eq (.slice (some ⟨bs, off, none⟩) n cap)
                | 41 => .eq (.int .i64 (i : Int))
                | 42 => .eq (.int .i64 (j : Int))
                | 43 => .eq (.pointer (some ⟨bs, off + j * 2, none⟩))
                | 44 => .eq (.pointer (some ⟨bs, off + j * 2, none⟩))
                | 45 => .eq (.int .i64 (m' : Int))
                | 46 => .eq (.pointer (some ⟨g, 0, none⟩))
                | 47 => .eq (.int .i64 (m : Int))
                | 48 => .eq (Value.bool false)
                | 49 => .eq (Value.bool false)
                | 50 => .eq (Value.bool false)
                | _ => .any) v w) (fun w' => Below W.heap.size W w') 52 (by kernel_rfl) (by decide +kernel) rfl (Below.refl _ _).drew (by
                refine OweAll.cons (owesK rfl rfl fun a w1 ha hG hV => ?_) ?_
                · skip
                  have h6 := ha.outer 6 (by decide +kernel)
                  simp only [Act.eval] at h6
                  exact ⟨.pointer (some ⟨g, 0, none⟩), w1, wanted_free rfl, by simp [execOp, go_sem, h6], Below.refl _ _, rfl⟩
                refine OweAll.cons (owesK rfl rfl fun a w1 ha hG hV => ?_) ?_
                · skip
                  have h17 : a.tmps.getD 17 undef = .pointer (some ⟨g, 0, none⟩) := hV.get 17 (by decide +kernel)
                  have cc := (hG.cell (p := ⟨g, 0, none⟩) hSl).trans cS0
                  exact ⟨.int .i64 (m : Int), w1, wanted_free rfl, by simp [execOp, go_sem, h17, cc], Below.refl _ _, rfl⟩
                refine OweAll.cons (owesK rfl rfl fun a w1 ha hG hV => ?_) ?_
                · skip
                  have h18 : a.tmps.getD 18 undef = .int .i64 (m : Int) := hV.get 18 (by decide +kernel)
                  exact ⟨Value.bool false, w1, wanted_free rfl, by simp [execOp, go_sem, h18, f1], Below.refl _ _, rfl⟩
                refine OweAll.cons (owesK rfl rfl fun a w1 ha hG hV => ?_) ?_
                · skip
                  have h19 : a.tmps.getD 19 undef = Value.bool false := hV.get 19 (by decide +kernel)
                  exact ⟨Value.bool false, w1, wanted_free rfl, by simp [execOp, go_sem, h19], Below.refl _ _, rfl⟩
                refine OweAll.cons (owesK rfl rfl fun a w1 ha hG hV => ?_) ?_
                · skip
                  have h6 := ha.outer 6 (by decide +kernel)
                  simp only [Act.eval] at h6
                  exact ⟨.pointer (some ⟨g, 0, none⟩), w1, (wanted_of (t := 20) rfl rfl (hV.get 20 (by decide +kernel))), by simp [execOp, go_sem, h6], Below.refl _ _, rfl⟩
                refine OweAll.cons (owesK rfl rfl fun a w1 ha hG hV => ?_) ?_
                · skip
                  have h21 : a.tmps.getD 21 undef = .pointer (some ⟨g, 0, none⟩) := hV.get 21 (by decide +kernel)
                  have cc := (hG.cell (p := ⟨g, 0, none⟩) hSl).trans cS0
                  exact ⟨.int .i64 (m : Int), w1, (wanted_of (t := 20) rfl rfl (hV.get 20 (by decide +kernel))), by simp [execOp, go_sem, h21, cc], Below.refl _ _, rfl⟩
                refine OweAll.cons (owesK rfl rfl fun a w1 ha hG hV => ?_) ?_
                · skip
                  have h22 : a.tmps.getD 22 undef = .int .i64 (m : Int) := hV.get 22 (by decide +kernel)
                  exact ⟨Value.bool false, w1, (wanted_of (t := 20) rfl rfl (hV.get 20 (by decide +kernel))), by simp [execOp, go_sem, h22, f2], Below.refl _ _, rfl⟩
                refine OweAll.cons (owesK rfl rfl fun a w1 ha hG hV => ?_) ?_
                · skip
                  have h20 : a.tmps.getD 20 undef = Value.bool false := hV.get 20 (by decide +kernel)
                  have h23 : a.tmps.getD 23 undef = Value.bool false := hV.get 23 (by decide +kernel)
                  exact ⟨Value.bool false, w1, wanted_free rfl, by simp [execOp, go_sem, h20, h23], Below.refl _ _, rfl⟩
                refine OweAll.cons (owesK rfl rfl fun a w1 ha hG hV => ?_) ?_
                · skip
                  have h24 : a.tmps.getD 24 undef = Value.bool false := hV.get 24 (by decide +kernel)
                  exact ⟨Value.bool false, w1, wanted_free rfl, by simp [execOp, go_sem, h24], Below.refl _ _, rfl⟩
                refine OweAll.cons (owesK rfl rfl fun a w1 ha hG hV => ?_) ?_
                · skip
                  have h6 := ha.outer 6 (by decide +kernel)
                  simp only [Act.eval] at h6
                  exact ⟨.pointer (some ⟨g, 1, none⟩), w1, (wanted_of (t := 25) rfl rfl (hV.get 25 (by decide +kernel))), by simp [execOp, go_sem, h6], Below.refl _ _, rfl⟩
                refine OweAll.cons (owesK rfl rfl fun a w1 ha hG hV => ?_) ?_
                · skip
                  have h26 : a.tmps.getD 26 undef = .pointer (some ⟨g, 1, none⟩) := hV.get 26 (by decide +kernel)
                  have cc := (hG.cell (p := ⟨g, 1, none⟩) hSl).trans cS1
                  exact ⟨.int .i64 (p : Int), w1, (wanted_of (t := 25) rfl rfl (hV.get 25 (by decide +kernel))), by simp [execOp, go_sem, h26, cc], Below.refl _ _, rfl⟩
                refine OweAll.cons (owesK rfl rfl fun a w1 ha hG hV => ?_) ?_
                · skip
                  have h1 := ha.outer 1 (by decide +kernel)
                  simp only [Act.eval] at h1
                  exact ⟨.int .i64 1, w1, (wanted_of (t := 25) rfl rfl (hV.get 25 (by decide +kernel))), by simp [execOp, go_sem, h1], Below.refl _ _, rfl⟩
                refine OweAll.cons (owesK rfl rfl fun a w1 ha hG hV => ?_) ?_
                · skip
                  have h27 : a.tmps.getD 27 undef = .int .i64 (p : Int) := hV.get 27 (by decide +kernel)
                  have h28 : a.tmps.getD 28 undef = .int .i64 1 := hV.get 28 (by decide +kernel)
                  exact ⟨Value.bool false, w1, (wanted_of (t := 25) rfl rfl (hV.get 25 (by decide +kernel))), by simp [execOp, go_sem, h27, h28, f3], Below.refl _ _, rfl⟩
                refine OweAll.cons (owesK rfl rfl fun a w1 ha hG hV => ?_) ?_
                · skip
                  have h25 : a.tmps.getD 25 undef = Value.bool false := hV.get 25 (by decide +kernel)
                  have h29 : a.tmps.getD 29 undef = Value.bool false := hV.get 29 (by decide +kernel)
                  exact ⟨Value.bool false, w1, wanted_free rfl, by simp [execOp, go_sem, h25, h29], Below.refl _ _, rfl⟩
                refine OweAll.cons (owesK rfl rfl fun a w1 ha hG hV => ?_) ?_
                · skip
                  have h30 : a.tmps.getD 30 undef = Value.bool false := hV.get 30 (by decide +kernel)
                  exact ⟨Value.bool false, w1, wanted_free rfl, by simp [execOp, go_sem, h30], Below.refl _ _, rfl⟩
                refine OweAll.cons (owesK rfl rfl fun a w1 ha hG hV => ?_) ?_
                · skip
                  have h6 := ha.outer 6 (by decide +kernel)
                  simp only [Act.eval] at h6
                  exact ⟨.pointer (some ⟨g, 1, none⟩), w1, (wanted_of (t := 31) rfl rfl (hV.get 31 (by decide +kernel))), by simp [execOp, go_sem, h6], Below.refl _ _, rfl⟩
                refine OweAll.cons (owesK rfl rfl fun a w1 ha hG hV => ?_) ?_
                · skip
                  have h32 : a.tmps.getD 32 undef = .pointer (some ⟨g, 1, none⟩) := hV.get 32 (by decide +kernel)
                  have cc := (hG.cell (p := ⟨g, 1, none⟩) hSl).trans cS1
                  exact ⟨.int .i64 (p : Int), w1, (wanted_of (t := 31) rfl rfl (hV.get 31 (by decide +kernel))), by simp [execOp, go_sem, h32, cc], Below.refl _ _, rfl⟩
                refine OweAll.cons (owesK rfl rfl fun a w1 ha hG hV => ?_) ?_
                · skip
                  have h33 : a.tmps.getD 33 undef = .int .i64 (p : Int) := hV.get 33 (by decide +kernel)
                  exact ⟨Value.bool false, w1, (wanted_of (t := 31) rfl rfl (hV.get 31 (by decide +kernel))), by simp [execOp, go_sem, h33, f4], Below.refl _ _, rfl⟩
                refine OweAll.cons (owesK rfl rfl fun a w1 ha hG hV => ?_) ?_
                · skip
                  have h31 : a.tmps.getD 31 undef = Value.bool false := hV.get 31 (by decide +kernel)
                  have h34 : a.tmps.getD 34 undef = Value.bool false := hV.get 34 (by decide +kernel)
                  exact ⟨Value.bool false, w1, wanted_free rfl, by simp [execOp, go_sem, h31, h34], Below.refl _ _, rfl⟩
                refine OweAll.cons (owesK rfl rfl fun a w1 ha hG hV => ?_) ?_
                · skip
                  have h35 : a.tmps.getD 35 undef = Value.bool false := hV.get 35 (by decide +kernel)
                  exact ⟨Value.bool false, w1, wanted_free rfl, by simp [execOp, go_sem, h35], Below.refl _ _, rfl⟩
                refine OweAll.cons (owesK rfl rfl fun a w1 ha hG hV => ?_) ?_
                · skip
                  have h5 := ha.outer 5 (by decide +kernel)
                  simp only [Act.eval] at h5
                  exact ⟨.int .i64 (i : Int), w1, (wanted_of (t := 36) rfl rfl (hV.get 36 (by decide +kernel))), by simp [execOp, go_sem, h5], Below.refl _ _, rfl⟩
                refine OweAll.cons (owesK rfl rfl fun a w1 ha hG hV => ?_) ?_
                · skip
                  have h37 : a.tmps.getD 37 undef = .int .i64 (i : Int) := hV.get 37 (by decide +kernel)
                  exact ⟨Value.bool true, w1, (wanted_of (t := 36) rfl rfl (hV.get 36 (by decide +kernel))), by simp [execOp, go_sem, h37, f5], Below.refl _ _, rfl⟩
                refine OweAll.cons (owesK rfl rfl fun a w1 ha hG hV => ?_) ?_
                · skip
                  have h38 : a.tmps.getD 38 undef = Value.bool true := hV.get 38 (by decide +kernel)
                  exact ⟨Value.bool true, w1, (wanted_of (t := 36) rfl rfl (hV.get 36 (by decide +kernel))), by simp [execOp, go_sem, h38], Below.refl _ _, rfl⟩
                refine OweAll.cons (owesK rfl rfl fun a w1 ha hG hV => ?_) ?_
                · skip
                  have h0 := ha.outer 0 (by decide +kernel)
                  simp only [Act.eval] at h0
                  exact ⟨.slice (some ⟨bs, off, none⟩) n cap, w1, (wanted_of (t := 39) rfl rfl (hV.get 39 (by decide +kernel))), by simp [execOp, go_sem, h0], Below.refl _ _, rfl⟩
                refine OweAll.cons (owesK rfl rfl fun a w1 ha hG hV => ?_) ?_
                · skip
                  have h5 := ha.outer 5 (by decide +kernel)
                  simp only [Act.eval] at h5
                  exact ⟨.int .i64 (i : Int), w1, (wanted_of (t := 39) rfl rfl (hV.get 39 (by decide +kernel))), by simp [execOp, go_sem, h5], Below.refl _ _, rfl⟩
                refine OweAll.cons (owesK rfl rfl fun a w1 ha hG hV => ?_) ?_
                · skip
                  have h41 : a.tmps.getD 41 undef = .int .i64 (i : Int) := hV.get 41 (by decide +kernel)
                  exact ⟨.int .i64 (j : Int), w1, (wanted_of (t := 39) rfl rfl (hV.get 39 (by decide +kernel))), by simp [execOp, go_sem, h41, f6], Below.refl _ _, rfl⟩
                refine OweAll.cons (owesK rfl rfl fun a w1 ha hG hV => ?_) ?_
                · skip
                  have h40 : a.tmps.getD 40 undef = .slice (some ⟨bs, off, none⟩) n cap := hV.get 40 (by decide +kernel)
                  have h42 : a.tmps.getD 42 undef = .int .i64 (j : Int) := hV.get 42 (by decide +kernel)
                  exact ⟨.pointer (some ⟨bs, off + j * 2, none⟩), w1, (wanted_of (t := 39) rfl rfl (hV.get 39 (by decide +kernel))), by simp [execOp, go_sem, h40, h42, j0, j1], Below.refl _ _, rfl⟩
                refine OweAll.cons (owesK rfl rfl fun a w1 ha hG hV => ?_) ?_
                · skip
                  have h43 : a.tmps.getD 43 undef = .pointer (some ⟨bs, off + j * 2, none⟩) := hV.get 43 (by decide +kernel)
                  exact ⟨.pointer (some ⟨bs, off + j * 2, none⟩), w1, (wanted_of (t := 39) rfl rfl (hV.get 39 (by decide +kernel))), by simp [execOp, go_sem, h43], Below.refl _ _, rfl⟩
                refine OweAll.cons (owesK rfl rfl fun a w1 ha hG hV => ?_) ?_
                · skip
                  have h44 : a.tmps.getD 44 undef = .pointer (some ⟨bs, off + j * 2, none⟩) := hV.get 44 (by decide +kernel)
                  have cc := (hG.cell (p := ⟨bs, off + j * 2, none⟩) hbs2).trans cP
                  exact ⟨.int .i64 (m' : Int), w1, (wanted_of (t := 39) rfl rfl (hV.get 39 (by decide +kernel))), by simp [execOp, go_sem, h44, cc], Below.refl _ _, rfl⟩
                refine OweAll.cons (owesK rfl rfl fun a w1 ha hG hV => ?_) ?_
                · skip
                  have h6 := ha.outer 6 (by decide +kernel)
                  simp only [Act.eval] at h6
                  exact ⟨.pointer (some ⟨g, 0, none⟩), w1, (wanted_of (t := 39) rfl rfl (hV.get 39 (by decide +kernel))), by simp [execOp, go_sem, h6], Below.refl _ _, rfl⟩
                refine OweAll.cons (owesK rfl rfl fun a w1 ha hG hV => ?_) ?_
                · skip
                  have h46 : a.tmps.getD 46 undef = .pointer (some ⟨g, 0, none⟩) := hV.get 46 (by decide +kernel)
                  have cc := (hG.cell (p := ⟨g, 0, none⟩) hSl).trans cS0
                  exact ⟨.int .i64 (m : Int), w1, (wanted_of (t := 39) rfl rfl (hV.get 39 (by decide +kernel))), by simp [execOp, go_sem, h46, cc], Below.refl _ _, rfl⟩
                refine OweAll.cons (owesK rfl rfl fun a w1 ha hG hV => ?_) ?_
                · skip
                  have h45 : a.tmps.getD 45 undef = .int .i64 (m' : Int) := hV.get 45 (by decide +kernel)
                  have h47 : a.tmps.getD 47 undef = .int .i64 (m : Int) := hV.get 47 (by decide +kernel)
                  exact ⟨Value.bool false, w1, (wanted_of (t := 39) rfl rfl (hV.get 39 (by decide +kernel))), by simp [execOp, go_sem, h45, h47, f7], Below.refl _ _, rfl⟩
                refine OweAll.cons (owesK rfl rfl fun a w1 ha hG hV => ?_) ?_
                · skip
                  have h39 : a.tmps.getD 39 undef = Value.bool true := hV.get 39 (by decide +kernel)
                  have h48 : a.tmps.getD 48 undef = Value.bool false := hV.get 48 (by decide +kernel)
                  exact ⟨Value.bool false, w1, (wanted_of (t := 36) rfl rfl (hV.get 36 (by decide +kernel))), by simp [execOp, go_sem, h39, h48], Below.refl _ _, rfl⟩
                refine OweAll.cons (owesK rfl rfl fun a w1 ha hG hV => ?_) ?_
                · skip
                  have h36 : a.tmps.getD 36 undef = Value.bool false := hV.get 36 (by decide +kernel)
                  have h49 : a.tmps.getD 49 undef = Value.bool false := hV.get 49 (by decide +kernel)
                  exact ⟨Value.bool false, w1, wanted_free rfl, by simp [execOp, go_sem, h36, h49], Below.refl _ _, rfl⟩
                exact OweAll.nil
                ) ?_
              intro f wz hG hv
              have e50 : f 50 = Value.bool false := hv 33 _ 50 rfl rfl
              rename_i hK
              refine hK _ _ ?_
              clear hK hv
              simp only [dsts, puts, List.filterMap_cons, List.filterMap_nil, List.foldl_cons, List.foldl_nil, Act.put, List.setIfInBounds_toArray, List.set_cons_succ, List.set_cons_zero, e50]
              clear e50
              go_wp2_with fail
              go_roundw
              case rel => exact ⟨i + 1, by omega, by go_num, Lib.hid ⟨hgn.out, HB2.out.trans (hG.mono HB2.out.size)⟩⟩
              case measure => simp [intOf]; omega
    · have e : i = n := by omega
      have HR : Hid (res = 0) := Lib.hid (hyes.out (Good.all (by rw [Hn.out, ← e]; exact hG.out.1)))
      have HB := Lib.hid hG.out.2
      have i1 : ¬ (i : Int) < n := by omega
      obtain rfl := HR.out
      clear hG
      go_wp2_with fail
      go_ret
      exact ⟨rfl, HB.out⟩
end Go.Proofs.Ytdahkemeoefndaa

namespace Go.Proofs.Ytdahkemeoefndaa
open Go.RowKit

set_option maxRecDepth 20000 in
set_option maxHeartbeats 4000000 in
theorem rnew_any (ao : Option Addr) (cap : Nat) (E : List (Nat × Nat)) (w : World) (hS : EntsAt w ao E) (hle : ∀ x ∈ E, x.1 ≤ 1099511627776 ∧ x.2 ≤ 1099511627776) (hl : E.length ≤ 64) :
    Calls Try.prog 17 #[.slice ao E.length cap] w fun r w' => r = .returned (.int .i64 (newE E)) ∧ Below w.heap.size w w' := by
  have hck := check_any ao cap E w hS hle hl
  by_cases hok : EntsOk E 1
  · rw [if_pos hok] at hck
    by_cases h0 : E = []
    · have e : newE E = 1 := newE_no (fun h => h.2 h0)
      rw [e]
      have hn : E.length = 0 := by rw [h0]; rfl
      rw [hn] at hck ⊢
      clear e hn hS hle hl hok h0
      go_enter Try.func17, Try.ntmps17
      go_wp2_with fail
      refine hck.mono ?_
      clear hck
      rintro r w1 ⟨rfl, hb⟩
      go_wp2_with fail
      go_ret
      exact ⟨rfl, hb⟩
    · have e : newE E = 0 := newE_yes hok h0
      rw [e]
      obtain ⟨n, hn⟩ : ∃ n, n = E.length := ⟨_, rfl⟩
      have hn0 : ((n : Int) == 0) = false := by
        have := List.length_pos_iff.2 h0
        rw [beq_eq_false_iff_ne]; omega
      rw [← hn] at hck ⊢
      clear e hn hS hle hl hok h0
      go_enter Try.func17, Try.ntmps17
      go_wp2_with fail
      refine hck.mono ?_
      clear hck
      rintro r w1 ⟨rfl, hb⟩
      go_wp2_with fail
      go_ret
      exact ⟨rfl, hb⟩
  · rw [if_neg hok] at hck
    have e : newE E = 1 := newE_no (fun h => hok h.1)
    rw [e]
    generalize E.length = n at hck ⊢
    clear e hS hle hl hok
    go_enter Try.func17, Try.ntmps17
    go_wp2_with fail
    refine hck.mono ?_
    clear hck
    rintro r w1 ⟨rfl, hb⟩
    go_wp2_with fail
    go_ret
    exact ⟨rfl, hb⟩
end Go.Proofs.Ytdahkemeoefndaa

namespace Go.Proofs.Ytdahkemeoefndaa
open Go.RowKit

set_option maxRecDepth 20000 in
set_option maxHeartbeats 8000000 in
theorem tnew_no (ao : Option Addr) (cap : Nat) (E : List (Nat × Nat)) (w : World) (hS : EntsAt w ao E) (hle : ∀ x ∈ E, x.1 ≤ 1099511627776 ∧ x.2 ≤ 1099511627776) (hl : E.length ≤ 64) (hno : ¬ (EntsOk E 1 ∧ E ≠ [])) :
    Calls Try.prog 10 #[.slice ao E.length cap] w fun r w' => r = .returned (.tuple #[tval (List.replicate 64 0), .int .i64 1]) ∧ Below w.heap.size w w' := by
  unfold tval
  obtain ⟨Z, hZ⟩ : ∃ Z, Z = (nums .i64 (List.replicate 64 0)).toArray := ⟨_, rfl⟩
  have hz : ∀ w : World, (zeroValue 26).run Try.prog w = .ok (.agg Z) w := by rw [hZ]; exact fun _ => by kernel_rfl
  have hZs : Z.size = 64 := by rw [hZ]; simp [nums_len]
  have h1 : Hid (∀ v ∈ Z.toList, v.oneCell' = true) := Lib.hid (by rw [hZ]; intro v hv; exact nums_one .i64 _ v (by simpa using hv))
  rw [← hZ]
  have hrow : (w.alloc (.cells Z 26)).heap[w.heap.size]? = some (.cells Z 26 (0, 0)) := heap_alloc_new _ _
  have hB : Below w.heap.size w (w.alloc (.cells Z 26)) := (Below.refl _ _).alloc (Nat.le_refl _) _
  clear hZ
  by_cases h0 : E = []
  · have hn : E.length = 0 := by rw [h0]; rfl
    rw [hn]
    clear hS hle hl hno h0 hn
    go_enter Try.func10, Try.ntmps10
    go_upto_region 1 with fail
    generalize w.alloc (.cells Z 26) = W at hrow hB ⊢
    go_wp2_with (refine wpList_store_row rfl rfl 26 (.tmp 2) (.tmp 18) rfl w.heap.size rfl 26 Z Z rfl hrow ?s2 ?s3 ?s4 ?_)
    case s2 => rfl
    case s3 => rw [hZs]; kernel_rfl
    case s4 => exact h1.out
    have hg := setRow_heap W w.heap.size Z Z 26 (0, 0) hrow
    have hl2 := run_loadVar_row (P := Try.prog) (W.setRow w.heap.size Z) w.heap.size 26 26 Z (0, 0) _ hg Try.underlying26 rfl (by rw [hZs]; kernel_rfl)
    refine bodyPost_ret (v := .tuple #[.agg Z, .int .i64 1]) (by simp [results, Try.results10, asAddr, hl2]) rfl ⟨rfl, ?_⟩
    exact ((Mod.of_below hB).setRow Z).to_below (Nat.le_refl _) (by rintro k hk (h | h) <;> omega)
  · have hnot : ¬ EntsOk E 1 := fun h => hno ⟨h, h0⟩
    have hmay := may_no ao cap E (w.alloc (.cells Z 26)) (hS.old hB) hle hl hnot
    obtain ⟨n, hn⟩ : ∃ n, n = E.length := ⟨_, rfl⟩
    have b2 : ((n : Int) == 0) = false := by
      have := List.length_pos_iff.2 h0
      rw [beq_eq_false_iff_ne]; omega
    have b1 : ¬ (64 : Int) < n := by omega
    rw [← hn] at hmay ⊢
    have Hmay := Lib.hid hmay
    clear hS hle hl hno h0 hn hnot hmay
    go_enter Try.func10, Try.ntmps10
    go_upto_region 1 with fail
    generalize w.alloc (.cells Z 26) = W at hrow hB Hmay ⊢
    go_wp2_with fail
    refine Hmay.out.mono ?_
    rintro r w2 ⟨rfl, hb⟩
    have hrow2 := (hb.block _ (Array.getElem?_eq_some_iff.1 hrow).1).trans hrow
    replace hB := hB.trans (hb.mono hB.size)
    clear hb hrow Hmay
    go_wp2_with (refine wpList_store_row rfl rfl 26 (.tmp 2) (.tmp 18) rfl w.heap.size rfl 26 Z Z rfl hrow2 ?s2 ?s3 ?s4 ?_)
    case s2 => rfl
    case s3 => rw [hZs]; kernel_rfl
    case s4 => exact h1.out
    have hg := setRow_heap w2 w.heap.size Z Z 26 (0, 0) hrow2
    have hl2 := run_loadVar_row (P := Try.prog) (w2.setRow w.heap.size Z) w.heap.size 26 26 Z (0, 0) _ hg Try.underlying26 rfl (by rw [hZs]; kernel_rfl)
    refine bodyPost_ret (v := .tuple #[.agg Z, .int .i64 1]) (by simp [results, Try.results10, asAddr, hl2]) rfl ⟨rfl, ?_⟩
    exact ((Mod.of_below hB).setRow Z).to_below (Nat.le_refl _) (by rintro k hk (h | h) <;> omega)
/-- The table that New answers. -/
noncomputable def newT (E : List (Nat × Nat)) : List Nat := if newE E = 0 then wth (List.replicate 64 0) E else List.replicate 64 0
theorem newT_tab (E : List (Nat × Nat)) : IsTab (newT E) := by
  unfold newT; split
  · rename_i h; exact isTab_zero.wth (newE_ok h).1
  · exact isTab_zero
theorem tnew_any (ao : Option Addr) (cap : Nat) (E : List (Nat × Nat)) (w : World) (hS : EntsAt w ao E) (hle : ∀ x ∈ E, x.1 ≤ 1099511627776 ∧ x.2 ≤ 1099511627776) (hl : E.length ≤ 64) :
    Calls Try.prog 10 #[.slice ao E.length cap] w fun r w' => r = .returned (.tuple #[tval (newT E), .int .i64 (newE E)]) ∧ Below w.heap.size w w' := by
  by_cases h : EntsOk E 1 ∧ E ≠ []
  · have e := newE_yes h.1 h.2
    unfold newT; rw [if_pos e, e]
    exact new_any ao cap E w hS h.1 hl h.2
  · have e := newE_no h
    unfold newT; rw [if_neg (by rw [e]; decide), e]
    exact tnew_no ao cap E w hS hle hl h
end Go.Proofs.Ytdahkemeoefndaa

namespace Go.Proofs.Ytdahkemeoefndaa
open Go.RowKit

/-- While the entries are taken. -/
structure PsR (W : World) (b : Nat) (D : List (Nat × Nat)) (q : Option Addr) (c : Nat) (t : List UInt8) (e : Int) (wr : World) : Prop where
  d : Pr 38 wr q c D
  new : ∀ a, q = some a → W.heap.size ≤ a.block
  i : InAt 61 wr b t e
  hb : W.heap.size ≤ b
  m : Below W.heap.size W wr
theorem PsR.apart {W : World} {b : Nat} {D : List (Nat × Nat)} {q : Option Addr} {c : Nat} {t : List UInt8} {e : Int} {wr : World} (h : PsR W b D q c t e wr) : ∀ a, q = some a → a.block ≠ b := by
  rintro a rfl e2
  rcases h.d.shape with ⟨e', _⟩ | ⟨g, e', _, _, _, cur, hh, _⟩
  · cases e'
  · cases e'
    simp only at e2
    subst e2
    have hi : wr.heap[g]? = _ := h.i
    rw [hh] at hi
    simp only [Option.some.injEq, Obj.cells.injEq] at hi
    exact absurd hi.2.1 (by decide)
theorem PsR.call {W : World} {b : Nat} {D : List (Nat × Nat)} {q : Option Addr} {c : Nat} {t t' : List UInt8} {e e' : Int} {wr w' : World} (h : PsR W b D q c t e wr) (hi : InAt 61 w' b t' e') (hm : Mod (· = b) wr w') : PsR W b D q c t' e' w' :=
  ⟨h.d.kept hm (fun a ha he => h.apart a ha he), h.new, hi, h.hb, h.m.trans (hm.to_below h.m.size (fun i hi e => by have := h.hb; omega))⟩
theorem PsR.push {W : World} {b : Nat} {D D' : List (Nat × Nat)} {q q' : Option Addr} {c c' : Nat} {t : List UInt8} {e : Int} {wr w' : World} (h : PsR W b D q c t e wr) (hP : PushedP 38 wr q D' q' c' w') : PsR W b D' q' c' t e w' := by
  obtain ⟨hR, hm, g, rfl, hor⟩ := hP
  refine ⟨hR, ?_, ?_, h.hb, h.m.trans (hm.to_below h.m.size (by rintro j hj ⟨a, e, rfl⟩; have := h.new a e; omega))⟩
  · rintro a e; cases e
    rcases hor with h1 | h1
    · exact h.new _ h1
    · exact Nat.le_trans h.m.size h1
  · have hlt : b < wr.heap.size := (Array.getElem?_eq_some_iff.1 h.i).1
    exact (hm.block b hlt (by rintro ⟨a, e, e2⟩; exact h.apart a e e2.symm)).trans h.i

/-- The table that Parse answers. -/
noncomputable def parT (s : List UInt8) : List Nat := if tabX s ≠ 0 then List.replicate 64 0 else newT (tabE s)
theorem parT_tab (s : List UInt8) : IsTab (parT s) := by
  unfold parT; split
  · exact isTab_zero
  · exact newT_tab _
theorem parT_ok {s : List UInt8} (h : tabR s = 0) : parT s = wth (List.replicate 64 0) (tabE s) := by
  unfold tabR at h; unfold parT
  split at h
  · contradiction
  · rename_i hx
    rw [if_neg hx]; unfold newT; rw [if_pos h]
theorem parT_no {s : List UInt8} (h : tabR s ≠ 0) : parT s = List.replicate 64 0 := by
  unfold tabR at h; unfold parT
  split at h
  · rename_i hx; rw [if_pos hx]
  · rename_i hx
    rw [if_neg hx]; unfold newT; rw [if_neg h]

set_option maxRecDepth 20000 in
set_option maxHeartbeats 8000000 in
theorem tparse_any (s : List UInt8) (w : World) (hl : s.length ≤ 1000000) :
    Calls Try.prog 6 #[.string ⟨s.toArray⟩] w fun r w' => r = .returned (.tuple #[tval (parT s), .int .i64 (tabR s)]) ∧ Below w.heap.size w w' := by
  obtain ⟨Z, hZ⟩ : ∃ Z, Z = (nums .i64 (List.replicate 64 0)).toArray := ⟨_, rfl⟩
  have hz : ∀ w : World, (zeroValue 26).run Try.prog w = .ok (.agg Z) w := by rw [hZ]; exact fun _ => by kernel_rfl
  have hZs : Z.size = 64 := by rw [hZ]; simp [nums_len]
  have h1 : Hid (∀ v ∈ Z.toList, v.oneCell' = true) := Lib.hid (by rw [hZ]; intro v hv; exact nums_one .i64 _ v (by simpa using hv))
  have HZ := Lib.hid hZ
  have hrow : (w.alloc (.cells Z 26)).heap[w.heap.size]? = some (.cells Z 26 (0, 0)) := heap_alloc_new _ _
  have hB : Below w.heap.size w (w.alloc (.cells Z 26)) := (Below.refl _ _).alloc (Nat.le_refl _) _
  have hS1 : w.heap.size < (w.alloc (.cells Z 26)).heap.size := by simp
  clear hZ
  unfold tval
  obtain ⟨AP, hAP⟩ : ∃ A, A = (nums .i64 (parT s)).toArray := ⟨_, rfl⟩
  obtain ⟨R, hR⟩ : ∃ R, R = tabR s := ⟨_, rfl⟩
  rw [← hAP, ← hR]
  have HAP := Lib.hid hAP
  have HR := Lib.hid hR
  clear hAP hR
  obtain ⟨n, hn⟩ : ∃ n, n = (numS s 0 64).1.toNat := ⟨_, rfl⟩
  have hn64 : n ≤ 64 := by have := numS_hi s 0 64 (by decide); omega
  have en : (numS s 0 64).1 = (n : Int) := by have := numS_lo s 0 64; omega
  have hls := numS_len s 0 64
  obtain ⟨s1, hs1⟩ : ∃ s1, s1 = (numS s 0 64).2.1 := ⟨_, rfl⟩
  obtain ⟨e1, he1⟩ : ∃ e1, e1 = (numS s 0 64).2.2 := ⟨_, rfl⟩
  have HE : Hid (tabE s = (entS n s1 e1).1 ∧ tabX s = endE (entS n s1 e1).2.1 (entS n s1 e1).2.2) := Lib.hid (by unfold tabE tabX; rw [hn, hs1, he1]; exact ⟨rfl, rfl⟩)
  have hin : Hid (∀ (b : Nat) (w' : World), InAt 61 w' b s 0 → Calls Try.prog 14 #[.pointer (some ⟨b, 0, none⟩), .int .i64 64] w' fun r w2 => r = .returned (.int .i64 (n : Int)) ∧ InAt 61 w2 b s1 e1 ∧ Mod (· = b) w' w2) := Lib.hid (fun b w' h => by
    have := innum_any b s 0 64 w' h (by omega)
    rw [en] at this
    refine this.mono ?_
    rintro r w2 ⟨h1, h2, h3⟩
    exact ⟨h1, by rw [hs1, he1]; exact h2, h3⟩)
  have hl1 : s1.length ≤ 1000000 := by rw [hs1]; omega
  clear hn en hls hs1 he1
  go_enter Try.func6, Try.ntmps6
  go_upto_region 1 with fail
  generalize w.alloc (.cells Z 26) = W at hrow hB hS1 ⊢
  go_wp2_with fail
  refine (of_any s W (by omega)).mono ?_
  rintro r w1 ⟨b, rfl, hb, hi, hbw⟩
  go_wp2_with fail
  refine (hin.out b w1 hi).mono ?_
  rintro r w2 ⟨rfl, hi2, hm⟩
  have HP : Hid (PsR W b [] none 0 s1 e1 w2) := Lib.hid ⟨Pr.empty _ _, (fun a e => by cases e), hi2, hb, hbw.trans (hm.to_below hbw.size (fun i hi e => by omega))⟩
  clear hi hbw hb hi2 hm hin
  go_wp2_with fail
  go_loopw [5, 6, 12] (fun s5 _ s12 wr => ∃ (i : Nat) (q : Option Addr) (c : Nat), i ≤ n ∧ s12 = .int .i64 (i : Int) ∧ s5 = .slice q i c ∧ Hid (PsR W b (entS i s1 e1).1 q c (entS i s1 e1).2.1 (entS i s1 e1).2.2 wr)) (fun _ _ i _ => n - (intOf i).toNat)
  case atStart => exact ⟨0, none, 0, Nat.zero_le _, rfl, rfl, HP⟩
  case round =>
    clear HP
    obtain ⟨i, q, c, hi, rfl, rfl, HP⟩ := hrel
    by_cases hlt : i < n
    · have i1 : (i : Int) < n := by omega
      have hsh := entS_short i s1 e1
      obtain ⟨D, hD⟩ : ∃ D, D = (entS i s1 e1).1 := ⟨_, rfl⟩
      obtain ⟨t, ht⟩ : ∃ t, t = (entS i s1 e1).2.1 := ⟨_, rfl⟩
      obtain ⟨e, he⟩ : ∃ e, e = (entS i s1 e1).2.2 := ⟨_, rfl⟩
      have hDl : D.length = i := by rw [hD]; exact entS_len _ _ _
      have ha0 := numS_lo t e 1099511627776
      have hal := numS_len t e 1099511627776
      obtain ⟨x, hx⟩ : ∃ x, x = (numS t e 1099511627776).1.toNat := ⟨_, rfl⟩
      obtain ⟨t2, ht2⟩ : ∃ t2, t2 = (numS t e 1099511627776).2.1 := ⟨_, rfl⟩
      obtain ⟨e2, he2⟩ : ∃ e2, e2 = (numS t e 1099511627776).2.2 := ⟨_, rfl⟩
      have hb0 := numS_lo t2 e2 1099511627776
      obtain ⟨y, hy⟩ : ∃ y, y = (numS t2 e2 1099511627776).1.toNat := ⟨_, rfl⟩
      have hnx : Hid (entS (i + 1) s1 e1 = (D ++ [(x, y)], (numS t2 e2 1099511627776).2)) := Lib.hid (by rw [hy, ht2, he2, hx, hD, ht, he]; rfl)
      have c1 : Hid (∀ w', PsR W b D q c t e w' → Calls Try.prog 14 #[.pointer (some ⟨b, 0, none⟩), .int .i64 1099511627776] w' fun r w2 => r = .returned (.int .i64 (x : Int)) ∧ PsR W b D q c t2 e2 w2) := Lib.hid (fun w' h => by
        have h2 := innum_any b t e 1099511627776 w' h.i (by rw [ht]; omega)
        rw [show (numS t e 1099511627776).1 = (x : Int) by omega] at h2
        refine h2.mono ?_
        rintro r w2 ⟨h3, h4, h5⟩
        exact ⟨h3, h.call (by rw [ht2, he2]; exact h4) h5⟩)
      have c2 : Hid (∀ w', PsR W b D q c t2 e2 w' → Calls Try.prog 14 #[.pointer (some ⟨b, 0, none⟩), .int .i64 1099511627776] w' fun r w2 => r = .returned (.int .i64 (y : Int)) ∧ PsR W b D q c (numS t2 e2 1099511627776).2.1 (numS t2 e2 1099511627776).2.2 w2) := Lib.hid (fun w' h => by
        have h2 := innum_any b t2 e2 1099511627776 w' h.i (by rw [ht2]; rw [← ht] at hsh; omega)
        rw [show (numS t2 e2 1099511627776).1 = (y : Int) by omega] at h2
        refine h2.mono ?_
        rintro r w2 ⟨h3, h4, h5⟩
        exact ⟨h3, h.call h4 h5⟩)
      have HP2 : Hid (PsR W b D q c t e wr) := Lib.hid (by rw [hD, ht, he]; exact HP.out)
      have HDl := Lib.hid hDl
      clear HP hsh hD ht he hDl ha0 hal hx ht2 he2 hb0 hy
      go_wp2_with fail
      refine (c1.out _ HP2.out).mono ?_
      rintro r w3 ⟨rfl, hp⟩
      have HP3 := Lib.hid hp
      clear hp HP2 c1
      go_wp2_with fail
      refine (c2.out _ HP3.out).mono ?_
      rintro r w4 ⟨rfl, hp⟩
      have HP4 := Lib.hid hp
      clear hp HP3 c2
      go_wp2_with (at_builtin; refine wpList_pushP rfl _ _ 43 38 _ rfl Try.underlying43 info_entry rfl q c i D (x, y) HDl.out rfl HP4.out.d rfl (by simp) (by omega) ?_; intro q' c' w5 hP)
      have HP5 : Hid (PsR W b (entS (i + 1) s1 e1).1 q' c' (entS (i + 1) s1 e1).2.1 (entS (i + 1) s1 e1).2.2 w5) := Lib.hid (by rw [hnx.out]; exact HP4.out.push hP)
      clear hP HP4 hnx
      go_wp2_with fail
      go_roundw
      case rel => exact ⟨i + 1, q', c', by omega, by go_num, rfl, HP5⟩
      case measure => simp [intOf]; omega
    · obtain rfl : i = n := by omega
      have i1 : ¬ (i : Int) < i := by omega
      have hend : Hid (Calls Try.prog 15 #[.pointer (some ⟨b, 0, none⟩)] wr fun r w' => r = .returned (.int .i64 (tabX s)) ∧ wr = w') := Lib.hid (by rw [HE.out.2]; exact end_any b _ _ wr HP.out.i)
      have hrow2 := (HP.out.m.block _ hS1).trans hrow
      have hB2 : Hid (Below w.heap.size w wr) := Lib.hid (hB.trans (HP.out.m.mono hB.size))
      have hnew : Hid (Calls Try.prog 10 #[.slice q i c] wr fun r w' => r = .returned (.tuple #[tval (newT (tabE s)), .int .i64 (newE (tabE s))]) ∧ Below wr.heap.size wr w') := Lib.hid (by
        have h := tnew_any q c (entS i s1 e1).1 wr HP.out.d.ents (entS_le i s1 e1) (by rw [entS_len]; exact hn64)
        rw [entS_len, ← HE.out.1] at h
        exact h)
      clear HP hrow hB
      by_cases hx : tabX s = 0
      · have hr : Hid (tabR s = newE (tabE s) ∧ parT s = newT (tabE s)) := Lib.hid (by unfold tabR parT; rw [if_neg (by rw [hx]; exact fun h => h rfl), if_neg (by rw [hx]; exact fun h => h rfl)]; exact ⟨rfl, rfl⟩)
        rw [hx] at hend
        have hAQ : AP = (nums .i64 (newT (tabE s))).toArray := by rw [HAP.out, hr.out.2]
        have hQs : AP.size = 64 := (newT_tab (tabE s)).row hAQ
        have h2 : Hid (∀ v ∈ AP.toList, v.oneCell' = true) := Lib.hid (by rw [hAQ]; intro v hv; exact nums_one .i64 _ v (by simpa using hv))
        unfold tval at hnew
        rw [← hAQ, ← hr.out.1, ← HR.out] at hnew
        clear hx hr hAQ HE
        go_wp2_with fail
        refine hend.out.mono ?_
        rintro r w' ⟨rfl, rfl⟩
        go_wp2_with fail
        refine hnew.out.mono ?_
        rintro r w3 ⟨rfl, hb3⟩
        have hrow3 := (hb3.block _ (Array.getElem?_eq_some_iff.1 hrow2).1).trans hrow2
        have hB3 := hB2.out.trans (hb3.mono hB2.out.size)
        clear hb3 hrow2 hnew hend hB2
        go_wp2_with (refine wpList_store_row rfl rfl 26 (.tmp 2) (.tmp 32) rfl w.heap.size rfl 26 Z AP rfl hrow3 ?s2 ?s3 ?s4 ?_)
        case s2 => rw [hZs, hQs]
        case s3 => rw [hQs]; kernel_rfl
        case s4 => exact h2.out
        have hg := setRow_heap w3 w.heap.size Z AP 26 (0, 0) hrow3
        have hl2 := run_loadVar_row (P := Try.prog) (w3.setRow w.heap.size AP) w.heap.size 26 26 AP (0, 0) _ hg Try.underlying26 rfl (by rw [hQs]; kernel_rfl)
        refine bodyPost_ret (v := .tuple #[.agg AP, .int .i64 R]) (by simp [results, Try.results6, asAddr, hl2]) rfl ⟨rfl, ?_⟩
        exact ((Mod.of_below hB3).setRow AP).to_below (Nat.le_refl _) (by rintro k hk (h | h) <;> omega)
      · have hr : Hid (tabR s = tabX s ∧ parT s = List.replicate 64 0) := Lib.hid (by unfold tabR parT; rw [if_pos hx, if_pos hx]; exact ⟨rfl, rfl⟩)
        have hZA : Hid (Z = AP) := Lib.hid (by rw [HAP.out, hr.out.2]; exact HZ.out)
        obtain ⟨z, hzz⟩ : ∃ z, z = tabX s := ⟨_, rfl⟩
        rw [← hzz] at hend hx
        have hzR : Hid (z = R) := Lib.hid (by rw [HR.out, hr.out.1]; exact hzz)
        have hx2 : (z == 0) = false := by rw [beq_eq_false_iff_ne]; exact hx
        clear hr hnew hzz HE
        go_wp2_with fail
        refine hend.out.mono ?_
        rintro r w' ⟨rfl, rfl⟩
        clear hend
        go_wp2_with (refine wpList_store_row rfl rfl 26 (.tmp 2) (.tmp 28) rfl w.heap.size rfl 26 Z Z rfl hrow2 ?s2 ?s3 ?s4 ?_)
        case s2 => rfl
        case s3 => rw [hZs]; kernel_rfl
        case s4 => exact h1.out
        have hg := setRow_heap wr w.heap.size Z Z 26 (0, 0) hrow2
        have hl2 := run_loadVar_row (P := Try.prog) (wr.setRow w.heap.size Z) w.heap.size 26 26 Z (0, 0) _ hg Try.underlying26 rfl (by rw [hZs]; kernel_rfl)
        refine bodyPost_ret (v := .tuple #[.agg Z, .int .i64 z]) (by simp [results, Try.results6, asAddr, hl2]) rfl ⟨by rw [hZA.out, hzR.out], ?_⟩
        exact ((Mod.of_below hB2.out).setRow Z).to_below (Nat.le_refl _) (by rintro k hk (h | h) <;> omega)
end Go.Proofs.Ytdahkemeoefndaa

namespace Go.Proofs.Ytdahkemeoefndaa
open Go.RowKit

def outS : Nat → List UInt8 → List (Nat × Nat) × List UInt8 × Int
  | 0, s => ([], s, 0)
  | i + 1, s => (if i % 2 = 0 then (outS i s).1 ++ [((numS (outS i s).2.1 (outS i s).2.2 1099511627776).1.toNat, 0)] else (outS i s).1.dropLast ++ [(((outS i s).1.getLastD (0, 0)).1, (numS (outS i s).2.1 (outS i s).2.2 1099511627776).1.toNat)], (numS (outS i s).2.1 (outS i s).2.2 1099511627776).2)
theorem outS_two (s : List UInt8) (j : Nat) : outS (2 * j) s = entS j s 0 := by
  induction j with
  | zero => rfl
  | succ j ih =>
    have e1 : outS (2 * j + 1) s = ((entS j s 0).1 ++ [((numS (entS j s 0).2.1 (entS j s 0).2.2 1099511627776).1.toNat, 0)], (numS (entS j s 0).2.1 (entS j s 0).2.2 1099511627776).2) := by
      show (if 2 * j % 2 = 0 then _ else _, _) = _
      rw [if_pos (by omega), ih]
    rw [show 2 * (j + 1) = (2 * j + 1) + 1 by omega]
    show (if (2 * j + 1) % 2 = 0 then _ else _, _) = _
    rw [if_neg (by omega), e1]
    simp only [List.dropLast_concat, List.getLastD_concat]
    rfl
theorem outS_err (s : List UInt8) (i : Nat) (f : Int) (hf : f ≠ 0) (h : (outS i s).2 = ([], f)) (m : Nat) (hm : i ≤ m) : (outS m s).2 = ([], f) := by
  obtain ⟨d, rfl⟩ : ∃ d, m = i + d := ⟨m - i, by omega⟩
  induction d with
  | zero => exact h
  | succ d ih =>
    have ih := ih (by omega)
    show (numS (outS (i + d) s).2.1 (outS (i + d) s).2.2 1099511627776).2 = _
    rw [ih]
    show (numS [] f 1099511627776).2 = _
    rw [numS_err f _ hf]
theorem outS_short (s : List UInt8) (i : Nat) : (outS i s).2.1.length ≤ s.length := by
  induction i with
  | zero => exact Nat.le_refl _
  | succ i ih => exact Nat.le_trans (numS_len _ _ _) ih
theorem outS_len (s : List UInt8) (i : Nat) : (outS i s).1.length = (i + 1) / 2 := by
  induction i with
  | zero => rfl
  | succ i ih =>
    show (if i % 2 = 0 then _ else _ : List (Nat × Nat)).length = _
    split
    · rw [List.length_append, ih]; simp; omega
    · rw [List.length_append, List.length_dropLast, ih]; simp; omega
theorem flat_last (D : List (Nat × Nat)) (x y z : Nat) : (flat (D ++ [(x, z)])).set (D.length * 2 + 1) (.int .i64 (y : Int)) = flat (D ++ [(x, y)]) := by
  rw [flat_app, flat_app, List.set_append, if_neg (by rw [flat_len]; omega), flat_len]
  rw [show D.length * 2 + 1 - D.length * 2 = 1 by omega]
  rfl
theorem Pr.setlast {T : TypeId} {w : World} {g c : Nat} {D : List (Nat × Nat)} {x z : Nat} (h : Pr T w (some ⟨g, 0, none⟩) c (D ++ [(x, z)])) (y : Nat) :
    Pr T (w.setCell ⟨g, D.length * 2 + 1, none⟩ (.int .i64 (y : Int))) (some ⟨g, 0, none⟩) c (D ++ [(x, y)]) ∧ w.cell? ⟨g, D.length * 2 + 1, none⟩ = some (.int .i64 (z : Int)) ∧ w.frozen? ⟨g, D.length * 2 + 1, none⟩ = false ∧ g < w.heap.size := by
  have hE := h.ents D.length (by simp)
  rcases h.shape with ⟨e, _⟩ | ⟨g', e, hl, h1, h2, cur, hh, h3, h4⟩
  · cases e
  · cases e
    refine ⟨?_, ?_, frozen_of_row w g _ cur T hh, hl⟩
    · have hs := heap_setCell_same w g (D.length * 2 + 1) cur T (.int .i64 (y : Int)) hh
      refine Pr.of_row hs (by simpa using h1) h2 (by simpa using h3) ?_
      have e2 : (D ++ [(x, y)]).length = (D ++ [(x, z)]).length := by simp
      rw [← flat_last D x y z, ← h4, e2]
      simp [List.take_set]
    · obtain ⟨bs, off, e, _, _, c2⟩ := hE
      cases e
      simpa using c2
theorem rent_made (w : World) : Pr 48 (w.alloc (.cells #[] 48)) (some ⟨w.heap.size, 0, none⟩) 0 [] :=
  Pr.of_row (heap_alloc_new _ _) (Nat.le_refl _) (Nat.zero_le _) rfl rfl
theorem tabR_of (s : List UInt8) (n : Nat) (s1 : List UInt8) (e1 : Int) (h : numS s 0 64 = ((n : Int), s1, e1)) : tabE s = (entS n s1 e1).1 ∧ tabX s = endE (entS n s1 e1).2.1 (entS n s1 e1).2.2 := by
  unfold tabE tabX; rw [h]; exact ⟨rfl, rfl⟩
theorem tabR_stop (s : List UInt8) (n : Nat) (s1 : List UInt8) (h : numS s 0 64 = ((n : Int), s1, 0)) (i : Nat) (hi : i ≤ 2 * n) (f : Int) (hf : f ≠ 0) (ho : (outS i s1).2 = ([], f)) : tabR s = f := by
  have h2 := outS_err s1 i f hf ho (2 * n) hi
  rw [outS_two] at h2
  have hx : tabX s = f := by rw [(tabR_of s n s1 0 h).2, h2]; rfl
  unfold tabR; rw [if_pos (by rw [hx]; exact hf), hx]
theorem wrap_twoI (x : Nat) (h : x ≤ 64) : IntKind.i64.wrap (2 * (x : Int)) = 2 * (x : Int) := by rw [IntKind.wrap_i64]; omega
theorem wrap_last (j : Nat) (h : j ≤ 200) : wrap64 (((j + 1 : Nat) : Int) - 1) = (j : Int) := by unfold wrap64; omega
theorem wrap_lastI (j : Nat) (h : j ≤ 200) : IntKind.i64.wrap (((j + 1 : Nat) : Int) - 1) = (j : Int) := by rw [IntKind.wrap_i64]; omega
theorem wrap_two (x : Nat) (h : x ≤ 64) : wrap64 (2 * (x : Int)) = 2 * (x : Int) := by unfold wrap64; omega
end Go.Proofs.Ytdahkemeoefndaa

namespace Go.Proofs.Ytdahkemeoefndaa
open Go.RowKit

/-- While the reference takes entries. -/
structure QsR (W : World) (D : List (Nat × Nat)) (q : Option Addr) (c : Nat) (wr : World) : Prop where
  d : Pr 48 wr q c D
  new : ∀ a, q = some a → W.heap.size ≤ a.block
  m : Below W.heap.size W wr
theorem QsR.push {W : World} {D D' : List (Nat × Nat)} {q q' : Option Addr} {c c' : Nat} {wr w' : World} (h : QsR W D q c wr) (hP : PushedP 48 wr q D' q' c' w') : QsR W D' q' c' w' := by
  obtain ⟨hR, hm, g, rfl, hor⟩ := hP
  refine ⟨hR, ?_, h.m.trans (hm.to_below h.m.size (by rintro j hj ⟨a, e, rfl⟩; have := h.new a e; omega))⟩
  rintro a e; cases e
  rcases hor with h1 | h1
  · exact h.new _ h1
  · exact Nat.le_trans h.m.size h1
/-- What the reference's Parse answers. -/
def RefT (s : List UInt8) (w : World) (r : Ending) (w' : World) : Prop := ((tabR s = 0 → ∃ q c, r = .returned (.tuple #[.slice q (tabE s).length c, .int .i64 0]) ∧ EntsAt w' q (tabE s)) ∧ (tabR s ≠ 0 → r = .returned (.tuple #[.slice none 0 0, .int .i64 (tabR s)]))) ∧ Below w.heap.size w w'
theorem RefT.no {s : List UInt8} {w w' : World} {f : Int} (hf : f ≠ 0) (h : tabR s = f) (hb : Below w.heap.size w w') : RefT s w (.returned (.tuple #[.slice none 0 0, .int .i64 f])) w' :=
  ⟨⟨fun e => absurd (h.symm.trans e) hf, fun _ => by rw [h]⟩, hb⟩

set_option maxRecDepth 20000 in
set_option maxHeartbeats 8000000 in
theorem rparse_any (s : List UInt8) (w : World) (hl : s.length ≤ 1000000) :
    Calls Try.prog 7 #[.string ⟨s.toArray⟩] w (RefT s w) := by
  have hhead := rhead_any s w (by omega)
  obtain ⟨x0, hx0⟩ : ∃ x, x = (headL s).1 := ⟨_, rfl⟩
  obtain ⟨k0, hk0⟩ : ∃ x, x = (headL s).2.1 := ⟨_, rfl⟩
  obtain ⟨f0, hf0⟩ : ∃ x, x = (headL s).2.2 := ⟨_, rfl⟩
  have hH : Hid (Calls Try.prog 16 #[.string ⟨s.toArray⟩] w fun r w' => r = .returned (.tuple #[.int .i64 (x0 : Int), .int .i64 (k0 : Int), .int .i64 f0]) ∧ w = w') := Lib.hid (by rw [hx0, hk0, hf0]; exact hhead)
  by_cases h0 : f0 = 0
  · by_cases h64 : (64 : Int) < x0
    · have hr : Hid (tabR s = 4) := Lib.hid (by
        have e := numS_big s 64 (by rw [← hf0]; exact h0) (by rw [← hx0]; exact h64)
        have hx : tabX s = 4 := by rw [(tabR_of s 0 [] 4 e).2]; rfl
        unfold tabR; rw [if_pos (by rw [hx]; decide), hx])
      subst h0
      clear hhead hx0 hk0 hf0
      go_enter Try.func7, Try.ntmps7
      go_wp2_with fail
      refine hH.out.mono ?_
      rintro r w' ⟨rfl, rfl⟩
      go_wp2_with fail
      exact bodyPost_ret (v := .tuple #[.slice none 0 0, .int .i64 4]) (by simp [results, Try.results7, go_sem]) rfl (RefT.no (by decide) hr.out (Below.refl _ _))
    · have e := numS_yes s 64 (by rw [← hf0]; exact h0) (by rw [← hx0]; exact h64)
      rw [← hx0, ← hk0] at e
      obtain ⟨s1, hs1⟩ : ∃ s1, s1 = s.drop k0 := ⟨_, rfl⟩
      rw [← hs1] at e
      have hko : k0 ≤ s.length := by rw [hk0]; exact headL_ok s (by rw [← hf0]; exact h0)
      have hx64 : x0 ≤ 64 := by omega
      have hs1l : s1.length ≤ 1000000 := by rw [hs1]; simp; omega
      have hex : (ByteArray.mk s.toArray).extract k0 s.length = ⟨s1.toArray⟩ := by rw [hs1]; exact drop_bytes s k0 _ rfl
      have k1 : (0 : Int) ≤ k0 := by omega
      have k2 : (k0 : Int) ≤ s.length := by omega
      have HE := Lib.hid e
      obtain ⟨ls, hls⟩ : ∃ l, l = s.length := ⟨_, rfl⟩
      have hsz : (ByteArray.mk s.toArray).size = ls := hls.symm
      rw [← hls] at hex k2 hko
      subst h0
      clear hhead hx0 hk0 hf0 hs1 hls e
      have n64 : ¬ (64 : Int) < x0 := h64
      go_enter Try.func7, Try.ntmps7
      go_wp2_with fail
      refine hH.out.mono ?_
      rintro r w' ⟨rfl, rfl⟩
      clear hH
      go_wp2_with fail
      have HQ0 : Hid (QsR w (outS 0 s1).1 (some ⟨w.heap.size, 0, none⟩) 0 (w.alloc (.cells #[] 48))) := Lib.hid ⟨rent_made w, (fun a e => by cases e; exact Nat.le_refl _), (Below.refl _ _).alloc (Nat.le_refl _) _⟩
      have m2 : wrap64 (2 * (x0 : Int)) = 2 * (x0 : Int) := wrap_two x0 hx64
      have m3 : IntKind.i64.wrap (2 * (x0 : Int)) = 2 * (x0 : Int) := wrap_twoI x0 hx64
      go_loopw [0, 7, 8, 9, 10, 11] (fun s0 s7 s8 _ _ _ wr => ∃ (i m : Nat) (q : Option Addr) (c : Nat), i ≤ 2 * x0 ∧ m = (i + 1) / 2 ∧ s8 = .int .i64 (i : Int) ∧ s7 = .slice q m c ∧ s0 = .string ⟨(outS i s1).2.1.toArray⟩ ∧ Hid ((outS i s1).2.2 = 0 ∧ QsR w (outS i s1).1 q c wr)) (fun _ _ i _ _ _ _ => 2 * x0 - (intOf i).toNat)
      case atStart => exact ⟨0, 0, _, 0, Nat.zero_le _, rfl, rfl, rfl, rfl, Lib.hid ⟨rfl, HQ0.out⟩⟩
      case round =>
        clear HQ0
        obtain ⟨i, m, q, c, hi, hm, rfl, rfl, rfl, HQ⟩ := hrel
        have hDl := outS_len s1 i
        rw [← hm] at hDl
        have Hm := Lib.hid hm
        clear hm
        have htl := outS_short s1 i
        by_cases hlt : i < 2 * x0
        · have i1 : (i : Int) < 2 * (x0 : Int) := by omega
          obtain ⟨t, ht⟩ : ∃ t, t = (outS i s1).2.1 := ⟨_, rfl⟩
          obtain ⟨D, hD⟩ : ∃ D, D = (outS i s1).1 := ⟨_, rfl⟩
          have hnx : outS (i + 1) s1 = (if i % 2 = 0 then D ++ [((numS t 0 1099511627776).1.toNat, 0)] else D.dropLast ++ [((D.getLastD (0, 0)).1, (numS t 0 1099511627776).1.toNat)], (numS t 0 1099511627776).2) := by
            show (if i % 2 = 0 then _ else _, _) = _
            rw [HQ.out.1, ← ht, ← hD]
          have hQ : Hid (QsR w D q c wr) := Lib.hid (by rw [hD]; exact HQ.out.2)
          rw [← hD] at hDl
          rw [← ht] at htl ⊢
          have hh := rhead_any t wr (by omega)
          obtain ⟨x, hx⟩ : ∃ x, x = (headL t).1 := ⟨_, rfl⟩
          obtain ⟨k, hk⟩ : ∃ x, x = (headL t).2.1 := ⟨_, rfl⟩
          obtain ⟨f, hf⟩ : ∃ x, x = (headL t).2.2 := ⟨_, rfl⟩
          have hH : Hid (Calls Try.prog 16 #[.string ⟨t.toArray⟩] wr fun r w' => r = .returned (.tuple #[.int .i64 (x : Int), .int .i64 (k : Int), .int .i64 f]) ∧ wr = w') := Lib.hid (by rw [hx, hk, hf]; exact hh)
          clear ht hD HQ hh
          by_cases hf0 : f = 0
          · by_cases hbig : (1099511627776 : Int) < x
            · have e := numS_big t 1099511627776 (by rw [← hf]; exact hf0) (by rw [← hx]; exact hbig)
              have hr : Hid (tabR s = 4) := Lib.hid (tabR_stop s x0 s1 HE.out (i + 1) (by omega) 4 (by decide) (by rw [hnx, e]))
              subst hf0
              clear e hnx hx hk hf
              go_wp2_with fail
              refine hH.out.mono ?_
              rintro r w' ⟨rfl, rfl⟩
              clear hH
              go_wp2_with fail
              exact bodyPost_ret (v := .tuple #[.slice none 0 0, .int .i64 4]) (by simp [results, Try.results7, go_sem]) rfl (RefT.no (by decide) hr.out hQ.out.m)
            · have e := numS_yes t 1099511627776 (by rw [← hf]; exact hf0) (by rw [← hx]; exact hbig)
              rw [← hx, ← hk] at e
              have hko : k ≤ t.length := by rw [hk]; exact headL_ok t (by rw [← hf]; exact hf0)
              obtain ⟨t', ht'⟩ : ∃ z, z = t.drop k := ⟨_, rfl⟩
              rw [← ht'] at e
              rw [e] at hnx
              have hex2 : (ByteArray.mk t.toArray).extract k t.length = ⟨t'.toArray⟩ := by rw [ht']; exact drop_bytes t k _ rfl
              obtain ⟨lt, hlt2⟩ : ∃ l, l = t.length := ⟨_, rfl⟩
              have hsz2 : (ByteArray.mk t.toArray).size = lt := hlt2.symm
              rw [← hlt2] at hex2 hko
              have k3 : (0 : Int) ≤ k := by omega
              have k4 : (k : Int) ≤ lt := by omega
              simp only [Int.toNat_natCast] at hnx
              have Hnx := Lib.hid hnx
              have HDl := Lib.hid hDl
              subst hf0
              clear e hx hk hf ht' hlt2 hnx hDl hex hsz k1 k2 hko htl
              by_cases hev : i % 2 = 0
              · have hp : ((i : Int).tmod 2) = 0 := by rw [Int.tmod_eq_emod_of_nonneg (by omega)]; omega
                go_wp2_with fail
                refine hH.out.mono ?_
                rintro r w' ⟨rfl, rfl⟩
                clear hH
                go_wp2_with (at_builtin; refine wpList_pushP rfl _ _ 30 48 _ rfl Try.underlying30 info_rentry rfl q c m D (x, 0) HDl.out rfl hQ.out.d rfl (by simp) (by have := Hm.out; omega) ?_; intro q' c' w5 hP)
                have HQ2 := Lib.hid (hQ.out.push hP)
                clear hP hQ
                go_wp2_with fail
                go_roundw
                case rel => exact ⟨i + 1, m + 1, q', c', by omega, by have := Hm.out; omega, by go_num, rfl, by rw [Hnx.out], Lib.hid ⟨by rw [Hnx.out], by rw [Hnx.out, if_pos hev]; exact HQ2.out⟩⟩
                case measure => simp [intOf]; omega
              · have hp : ((i : Int).tmod 2) = 1 := by rw [Int.tmod_eq_emod_of_nonneg (by omega)]; omega
                obtain ⟨⟨p1, z⟩, hlast⟩ : ∃ z, z = D.getLastD (0, 0) := ⟨_, rfl⟩
                have hm0 : 0 < D.length := by have := Hm.out; rw [HDl.out]; omega
                obtain ⟨D0, hD0⟩ : ∃ z, z = D.dropLast := ⟨_, rfl⟩
                have hcat : D = D0 ++ [(p1, z)] := by
                  rw [hD0, hlast, List.getLastD_eq_getLast?]
                  have hne : D ≠ [] := List.length_pos_iff.1 hm0
                  rw [List.getLast?_eq_some_getLast hne, Option.getD_some, List.dropLast_concat_getLast]
                have hl0 : D0.length = m - 1 := by rw [hD0, List.length_dropLast, HDl.out]
                obtain ⟨j, hj⟩ : ∃ j, m = j + 1 := ⟨m - 1, by rw [HDl.out] at hm0; omega⟩
                have hl1 : D0.length = j := by omega
                have hd := hQ.out.d
                obtain ⟨g, rfl⟩ : ∃ g, q = some ⟨g, 0, none⟩ := by
                  rcases hd.shape with ⟨_, e, _⟩ | ⟨g, e, _⟩
                  · rw [e] at hm0; exact absurd hm0 (by decide)
                  · exact ⟨g, e⟩
                rw [hcat] at hd
                have hset := hd.setlast x
                rw [hl1] at hset
                have cz := hset.2.1
                have fz := hset.2.2.1
                have hnx2 : Hid ((outS (i + 1) s1).1 = D0 ++ [(p1, x)]) := Lib.hid (by rw [Hnx.out, if_neg hev, ← hlast, ← hD0])
                have HQ2 : Hid (QsR w (outS (i + 1) s1).1 (some ⟨g, 0, none⟩) c (wr.setCell ⟨g, j * 2 + 1, none⟩ (.int .i64 (x : Int)))) := Lib.hid (by
                  rw [hnx2.out]
                  exact ⟨hset.1, hQ.out.new, hQ.out.m.setCell (p := ⟨g, j * 2 + 1, none⟩) (hQ.out.new ⟨g, 0, none⟩ rfl) _⟩)
                have f6 : wrap64 ((m : Int) - 1) = (j : Int) := by rw [hj]; exact wrap_last j (by have := Hm.out; omega)
                have f7 : IntKind.i64.wrap ((m : Int) - 1) = (j : Int) := by rw [hj]; exact wrap_lastI j (by have := Hm.out; omega)
                have j0 : (0 : Int) ≤ j := by omega
                have j1 : (j : Int) < m := by omega
                have Hj := Lib.hid hj
                clear hset hd hcat hD0 hlast hl0 hl1 hm0 hj hQ
                go_wp2_with fail
                refine hH.out.mono ?_
                rintro r w' ⟨rfl, rfl⟩
                clear hH
                go_wp2_with fail
                go_roundw
                case rel => exact ⟨i + 1, m, _, c, by omega, by have := Hm.out; omega, by go_num, rfl, by rw [Hnx.out], Lib.hid ⟨by rw [Hnx.out], HQ2.out⟩⟩
                case measure => simp [intOf]; omega
          · have e := numS_no t 1099511627776 (by rw [← hf]; exact hf0)
            have hr : Hid (tabR s = f) := Lib.hid (tabR_stop s x0 s1 HE.out (i + 1) (by omega) f hf0 (by rw [hnx, e, ← hf]))
            have z0 : (f == 0) = false := by rw [beq_eq_false_iff_ne]; exact hf0
            clear e hnx hx hk hf
            go_wp2_with fail
            refine hH.out.mono ?_
            rintro r w' ⟨rfl, rfl⟩
            clear hH
            go_wp2_with fail
            exact bodyPost_ret (v := .tuple #[.slice none 0 0, .int .i64 f]) (by simp [results, Try.results7, go_sem]) rfl (RefT.no hf0 hr.out hQ.out.m)
        · have ei : i = 2 * x0 := by omega
          have hm1 : m = x0 := by have := Hm.out; omega
          have i1 : ¬ (i : Int) < 2 * (x0 : Int) := by omega
          have eo : outS i s1 = entS x0 s1 0 := by rw [ei]; exact outS_two s1 x0
          have hof := tabR_of s x0 s1 0 HE.out
          rw [eo] at HQ ⊢
          have hle := entS_le x0 s1 0
          rw [hof.1.symm] at HQ hle
          have hDl2 : (tabE s).length = m := by rw [hof.1, entS_len, hm1]
          have hnew := rnew_any q c (tabE s) wr HQ.out.2.d.ents hle (by rw [hDl2, hm1]; exact hx64)
          rw [hDl2] at hnew
          have HDL := Lib.hid hDl2
          have Hnew := Lib.hid hnew
          have hX : tabX s = if (entS x0 s1 0).2.1 = [] then 0 else 3 := by rw [hof.2, HQ.out.1]; rfl
          obtain ⟨t, ht⟩ : ∃ t, t = (entS x0 s1 0).2.1 := ⟨_, rfl⟩
          rw [← ht] at hX ⊢
          have HB := Lib.hid (And.intro HQ.out.2.m HQ.out.2.d.ents)
          clear HQ eo hof hle hDl2 hnew ht hDl htl ei hm1
          by_cases h0 : t = []
          · subst h0
            rw [if_pos rfl] at hX
            have hR : tabR s = newE (tabE s) := by unfold tabR; rw [if_neg (by rw [hX]; exact fun h => h rfl)]
            have HR := Lib.hid hR
            obtain ⟨z, hz⟩ : ∃ z, z = newE (tabE s) := ⟨_, rfl⟩
            rw [← hz] at Hnew
            have Hz := Lib.hid hz
            clear hX hR hz
            by_cases hz0 : z = 0
            · subst hz0
              go_wp2_with fail
              refine Hnew.out.mono ?_
              rintro r w2 ⟨rfl, hb2⟩
              have HB2 : Hid (Below w.heap.size w w2 ∧ EntsAt w2 q (tabE s)) := Lib.hid ⟨HB.out.1.trans (hb2.mono HB.out.1.size), HB.out.2.old hb2⟩
              clear hb2 Hnew HB
              go_wp2_with fail
              exact bodyPost_ret (v := .tuple #[.slice q m c, .int .i64 0]) (by simp [results, Try.results7, go_sem]) rfl ⟨⟨fun _ => ⟨q, c, by rw [HDL.out], HB2.out.2⟩, fun h => absurd (HR.out.trans Hz.out.symm) h⟩, HB2.out.1⟩
            · have z0 : (z == 0) = false := by rw [beq_eq_false_iff_ne]; exact hz0
              go_wp2_with fail
              refine Hnew.out.mono ?_
              rintro r w2 ⟨rfl, hb2⟩
              have HB2 : Hid (Below w.heap.size w w2) := Lib.hid (HB.out.1.trans (hb2.mono HB.out.1.size))
              clear hb2 Hnew HB
              go_wp2_with fail
              exact bodyPost_ret (v := .tuple #[.slice none 0 0, .int .i64 z]) (by simp [results, Try.results7, go_sem]) rfl (RefT.no hz0 (HR.out.trans Hz.out.symm) HB2.out)
          · rw [if_neg h0] at hX
            have hR : Hid (tabR s = 3) := Lib.hid (by unfold tabR; rw [if_pos (by rw [hX]; decide), hX])
            have hne : t.isEmpty = false := by rw [List.isEmpty_eq_false_iff]; exact h0
            clear Hnew hX
            go_wp2_with fail
            exact bodyPost_ret (v := .tuple #[.slice none 0 0, .int .i64 3]) (by simp [results, Try.results7, go_sem]) rfl (RefT.no (by decide) hR.out HB.out.1)
  · have hr : Hid (tabR s = f0) := Lib.hid (by
      have e := numS_no s 64 (by rw [← hf0]; exact h0)
      have hx : tabX s = f0 := by rw [(tabR_of s 0 [] _ e).2, hf0]; rfl
      unfold tabR; rw [if_pos (by rw [hx]; exact h0), hx])
    have z0 : (f0 == 0) = false := by rw [beq_eq_false_iff_ne]; exact h0
    clear hhead hx0 hk0 hf0
    go_enter Try.func7, Try.ntmps7
    go_wp2_with fail
    refine hH.out.mono ?_
    rintro r w' ⟨rfl, rfl⟩
    go_wp2_with fail
    exact bodyPost_ret (v := .tuple #[.slice none 0 0, .int .i64 f0]) (by simp [results, Try.results7, go_sem]) rfl (RefT.no h0 hr.out (Below.refl _ _))
end Go.Proofs.Ytdahkemeoefndaa

namespace Go.Proofs.Ytdahkemeoefndaa
open Go.RowKit

/-- How an element lies in memory: k cells. -/
structure Enc (α : Type) where
  f : α → List Value
  k : Nat
  len : ∀ x, (f x).length = k
  one : ∀ x, ∀ v ∈ f x, v.oneCell' = true
  pos : 0 < k

section
variable {α : Type} (E : Enc α)
def Enc.all (L : List α) : List Value := L.flatMap E.f
theorem Enc.all_nil : E.all [] = [] := rfl
theorem Enc.all_app (A B : List α) : E.all (A ++ B) = E.all A ++ E.all B := by simp [Enc.all]
theorem Enc.all_len (L : List α) : (E.all L).length = L.length * E.k := by
  induction L with
  | nil => simp [Enc.all]
  | cons x l ih => rw [show x :: l = [x] ++ l from rfl, E.all_app, List.length_append, ih]; simp [Enc.all, E.len, Nat.add_mul]; omega
theorem Enc.all_one (L : List α) : ∀ v ∈ E.all L, v.oneCell' = true := by
  intro v hv
  obtain ⟨x, _, h⟩ := List.mem_flatMap.1 hv
  exact E.one x v h
theorem Enc.all_get (L : List α) (j i : Nat) (hj : j < L.length) (hi : i < E.k) : (E.all L)[j * E.k + i]? = (E.f L[j])[i]? := by
  induction L generalizing j with
  | nil => simp at hj
  | cons x l ih =>
    rw [show E.all (x :: l) = E.f x ++ E.all l by simp [Enc.all]]
    cases j with
    | zero => rw [Nat.zero_mul, Nat.zero_add, List.getElem?_append_left (by rw [E.len]; exact hi)]; rfl
    | succ j =>
      rw [List.getElem?_append_right (by rw [E.len, Nat.add_mul]; omega), E.len, show (j + 1) * E.k + i - E.k = j * E.k + i by rw [Nat.add_mul]; omega, ih j (by simpa using hj)]
      rfl

/-- The slice at p holds L from its block's head on; nil holds none. -/
def Rw (T : TypeId) (w : World) (p : Option Addr) (cap : Nat) (L : List α) : Prop := w.ownsRow 0 T E.k (.slice p L.length cap) L.length (E.all L)
/-- L is read at ao. -/
def Rd (w : World) (ao : Option Addr) (L : List α) : Prop :=
  ∀ j (h : j < L.length), ∃ bs off, ao = some ⟨bs, off, none⟩ ∧ bs < w.heap.size ∧ ∀ i u, (E.f L[j])[i]? = some u → w.cell? ⟨bs, off + j * E.k + i, none⟩ = some u

variable {E}
theorem Rd.old {w w' : World} {ao : Option Addr} {L : List α} (h : Rd E w ao L) (hb : Below w.heap.size w w') : Rd E w' ao L := by
  intro j hj
  obtain ⟨bs, off, e, hlt, hc⟩ := h j hj
  exact ⟨bs, off, e, Nat.lt_of_lt_of_le hlt hb.size, fun i u hu => (World.cell?_of_block (hb.block bs hlt)).trans (hc i u hu)⟩
theorem Rd.nil (w : World) (ao : Option Addr) : Rd E w ao [] := fun j hj => by simp at hj
theorem Rd.take {w : World} {ao : Option Addr} {L : List α} (h : Rd E w ao L) (n : Nat) : Rd E w ao (L.take n) := by
  intro j hj
  have hj2 : j < L.length := by rw [List.length_take] at hj; omega
  obtain ⟨bs, off, e, hlt, c1⟩ := h j hj2
  refine ⟨bs, off, e, hlt, ?_⟩
  rw [List.getElem_take]; exact c1
theorem Rw.shape {T : TypeId} {w : World} {p : Option Addr} {cap : Nat} {L : List α} (h : Rw E T w p cap L) :
    (p = none ∧ L = [] ∧ cap = 0) ∨ ∃ g, p = some ⟨g, 0, none⟩ ∧ g < w.heap.size ∧ L.length ≤ cap ∧ cap ≤ maxLen ∧ ∃ cur : Array Value, w.heap[g]? = some (.cells cur T (0, 0)) ∧ cur.size = cap * E.k ∧ cur.toList.take (L.length * E.k) = E.all L := by
  rcases h.2 with ⟨e, h0⟩ | ⟨g, cap', cur, e, _, hh, h1, h2, h3, h4⟩
  · simp only [Value.slice.injEq] at e
    exact .inl ⟨e.1, List.eq_nil_of_length_eq_zero h0, e.2.2⟩
  · simp only [Value.slice.injEq] at e
    obtain ⟨rfl, _, rfl⟩ := e
    exact .inr ⟨g, rfl, (Array.getElem?_eq_some_iff.1 hh).1, h1, h2, cur, hh, h3, h4⟩
theorem Rw.of_row {T : TypeId} {w : World} {g cap : Nat} {L : List α} {cur : Array Value} (hh : w.heap[g]? = some (.cells cur T (0, 0))) (h1 : L.length ≤ cap) (h2 : cap ≤ maxLen) (h3 : cur.size = cap * E.k) (h4 : cur.toList.take (L.length * E.k) = E.all L) :
    Rw E T w (some ⟨g, 0, none⟩) cap L := ⟨by rw [E.all_len], .inr ⟨g, cap, cur, rfl, Nat.zero_le _, hh, h1, h2, h3, h4⟩⟩
theorem Rw.empty (T : TypeId) (w : World) : Rw E T w none 0 ([] : List α) := World.ownsRow_nil _ _ _ _
theorem Rw.cap_le {T : TypeId} {w : World} {p : Option Addr} {cap : Nat} {L : List α} (h : Rw E T w p cap L) : L.length ≤ cap := by
  rcases h.shape with ⟨_, rfl, _⟩ | ⟨g, _, _, hc, _⟩
  · exact Nat.zero_le _
  · exact hc
theorem Rw.made (T : TypeId) (w : World) (L : List α) (hl : L.length ≤ maxLen) : Rw E T (w.alloc (.cells (E.all L).toArray T)) (some ⟨w.heap.size, 0, none⟩) L.length L :=
  Rw.of_row (heap_alloc_new _ _) (Nat.le_refl _) hl (by rw [List.size_toArray, E.all_len]) (by rw [List.take_of_length_le (by simp [E.all_len])])
theorem Rw.lt {T : TypeId} {w : World} {a : Addr} {cap : Nat} {L : List α} (h : Rw E T w (some a) cap L) : a.block < w.heap.size := by
  rcases h.shape with ⟨e, _⟩ | ⟨g, e, hl, _⟩
  · cases e
  · cases e; exact hl
theorem Rw.kept {T : TypeId} {w w' : World} {p : Option Addr} {cap : Nat} {L : List α} {S : Nat → Prop} (h : Rw E T w p cap L) (hm : Mod S w w') (hp : ∀ a, p = some a → ¬ S a.block) : Rw E T w' p cap L := by
  rcases h.shape with ⟨rfl, rfl, rfl⟩ | ⟨g, rfl, hl, h1, h2, cur, hh, h3, h4⟩
  · exact Rw.empty _ _
  · exact Rw.of_row ((hm.block g hl (hp _ rfl)).trans hh) h1 h2 h3 h4
theorem Rw.old {T : TypeId} {w w' : World} {p : Option Addr} {cap : Nat} {L : List α} (h : Rw E T w p cap L) (hb : Below w.heap.size w w') : Rw E T w' p cap L :=
  h.kept (Mod.of_below hb) (fun a e hs => by subst e; exact Nat.lt_irrefl _ (Nat.lt_of_lt_of_le h.lt hs))
theorem Rw.rd {T : TypeId} {w : World} {p : Option Addr} {cap : Nat} {L : List α} (h : Rw E T w p cap L) : Rd E w p L := by
  intro j hj
  rcases h.shape with ⟨rfl, rfl, rfl⟩ | ⟨g, rfl, hl, h1, h2, cur, hh, h3, h4⟩
  · simp at hj
  · refine ⟨g, 0, rfl, hl, fun i u hu => ?_⟩
    have hi : i < E.k := by have := (List.getElem?_eq_some_iff.1 hu).1; rwa [E.len] at this
    rw [← E.all_get L j i hj hi, ← h4] at hu
    have hlt : j * E.k + i < L.length * E.k := by
      have := Nat.mul_le_mul_right E.k (show j + 1 ≤ L.length by omega); rw [Nat.add_mul] at this; omega
    rw [List.getElem?_take_of_lt hlt] at hu
    rw [cell_of_row w g _ _ T (0, 0) hh, Nat.zero_add]
    simpa using hu
/-- Behind an append: the slice holds more, in its own block or in a new one. -/
def PushR (E : Enc α) (T : TypeId) (w : World) (p : Option Addr) (B : List α) (q : Option Addr) (cap : Nat) (w' : World) : Prop :=
  Rw E T w' q cap B ∧ Mod (fun i => ∃ a, p = some a ∧ i = a.block) w w' ∧ ∀ a, q = some a → p = some a ∨ w.heap.size ≤ a.block
theorem run_append_no {P : Program} {w : World} (t ty e : TypeId) (i : TypeInfo) (ht : P.underlying t = some (.slice e)) (hi : P.info? e = some i)
    (p : Option Addr) (n cap : Nat) (hle : n ≤ cap) (hn : p = none → n = 0 ∧ cap = 0) (q : Option Addr) (c : Nat) :
    (Builtin.append_ #[t, t] ty #[.slice p n cap, .slice q 0 c]).run P w = .ok (.slice p n cap) w := by
  cases p with
  | some a => cases q <;> simp [Builtin.append_, run_underlying ht, sizeOf, typeInfo, hi, Builtin.lenOf, Builtin.firstCells, hle, storeCells, loadCells, loadCellsFrom]
  | none =>
    obtain ⟨rfl, rfl⟩ := hn rfl
    cases q <;> simp [Builtin.append_, run_underlying ht, sizeOf, typeInfo, hi, Builtin.lenOf, Builtin.firstCells, loadCells, loadCellsFrom]
theorem wpList_pushR {P : Program} {ops : Array Oper} {rest : List Oper} {o : Oper} {a : Act} {Q : Exit → Act → World → Prop} {w : World} (E : Enc α) (hgd : o.guard = none) (s x : Operand) (Ts T : TypeId) (z : Value) (by_ : Nat)
    (ho : o.op = .call { callee := .builtin .append, args := #[s, x], argTypes := #[Ts, Ts] }) (hT : P.underlying Ts = some (.slice T)) (hi : (P.info? T).map (fun i => (i.zero, i.size, i.bytes)) = some (some z, E.k, by_)) (hzs : z.cells.size = E.k) (hby : by_ ≤ 1024)
    (p : Option Addr) (cap n : Nat) (L : List α) (hn : L.length = n) (hs : a.eval s = .slice p n cap) (hS : Rw E T w p cap L) (ao : Option Addr) (m cx : Nat) (Y : List α) (hm : Y.length = m) (hx : a.eval x = .slice ao m cx) (hY : Rd E w ao Y) (hl : n + m ≤ 100000000000)
    (h : ∀ q c w', PushR E T w p (L ++ Y) q c w' → wpList P ops Q rest (a.put o.dst (.slice q (n + m) c)) w') :
    wpList P ops Q (o :: rest) a w := by
  cases hq : P.info? T with
  | none => rw [hq] at hi; cases hi
  | some i =>
    rw [hq] at hi
    simp only [Option.map_some, Option.some.injEq, Prod.mk.injEq] at hi
    obtain ⟨hz, h1, h2⟩ := hi
    subst hn
    subst hm
    have hmul : (L.length + Y.length) * by_ ≤ 140737488355328 := Nat.le_trans (Nat.mul_le_mul hl hby) (by decide)
    by_cases h0 : 0 < Y.length
    · obtain ⟨bs, off, rfl, hbs, _⟩ := hY 0 h0
      refine wpList_append_lies _ hgd s x Ts ho 0 T i z E.k by_ hT hq hz h1 h2 hzs E.pos _ L.length (E.all L) hs hS ⟨bs, off, none⟩ Y.length cx (E.all Y) hx (E.all_len Y) ?_ (E.all_one _) h0 (by unfold maxLen; omega) hmul (Nat.zero_le _) _ rfl ?_
      · intro j u hj
        have hjl : j < Y.length * E.k := by
          have := (List.getElem?_eq_some_iff.1 hj).1
          rwa [E.all_len] at this
        have hd : j / E.k < Y.length := by rw [Nat.div_lt_iff_lt_mul E.pos]; exact hjl
        have hr : j % E.k < E.k := Nat.mod_lt _ E.pos
        have he : j / E.k * E.k + j % E.k = j := by rw [Nat.mul_comm]; exact Nat.div_add_mod j E.k
        obtain ⟨bs', off', e, _, c1⟩ := hY (j / E.k) hd
        cases e
        have hadd : (⟨bs, off, none⟩ : Addr).add j = ⟨bs, off + j, none⟩ := by unfold Addr.add; split <;> simp_all
        rw [← he, E.all_get Y _ _ hd hr] at hj
        have := c1 _ _ hj
        rw [Nat.add_assoc, he] at this
        rw [hadd, this]
      · intro g c w' hown hgrow hat _
        refine h (some ⟨g, 0, none⟩) c w' ⟨?_, ?_, ?_⟩
        · unfold Rw; rw [List.length_append, E.all_app]; exact hown
        · refine (Mod.refl _ w).grown hgrow ?_
          intro j hj _
          cases p with
          | none => simp [Value.ownBlock] at hj
          | some a => simp [Value.ownBlock] at hj; exact ⟨a, rfl, hj.symm⟩
        · rintro a' e; cases e
          rcases hat with hat | hat
          · left
            rcases hS.shape with ⟨rfl, _⟩ | ⟨g', rfl, _⟩
            · simp [Value.ownBlock] at hat
            · simp [Value.ownBlock] at hat; subst hat; rfl
          · right; rw [hat]; exact Nat.le_refl _
    · obtain rfl : Y = [] := List.eq_nil_of_length_eq_zero (by omega)
      refine wpList_plain hgd fun K hK => ?_
      have hfin := h p cap w ⟨by rw [List.append_nil]; exact hS, Mod.refl _ w, fun a e => .inl e⟩
      have hle : L.length ≤ cap := hS.cap_le
      have hno : p = none → L.length = 0 ∧ cap = 0 := by
        intro e
        rcases hS.shape with ⟨_, rfl, hc⟩ | ⟨g', e', _⟩
        · exact ⟨rfl, hc⟩
        · rw [e] at e'; cases e'
      have hrun := run_append_no (P := P) (w := w) Ts o.type T i hT hq p L.length cap hle hno ao cx
      unfold Oper.wp
      simp only [List.length_nil] at hx
      simp [execOp, ho, resolve, invoke, builtin, hs, hx, hrun, Result.andThen]
      simp at hfin
      exact hK _ _ hfin
/-- Elements are gathered in a row of its own. -/
structure AccR (E : Enc α) (T : TypeId) (w : World) (i : Nat) (D : List α) (q : Option Addr) (c : Nat) (wr : World) : Prop where
  s : Rw E T wr q c D
  len : D.length = i
  new : ∀ a, q = some a → w.heap.size ≤ a.block
  m : Below w.heap.size w wr
theorem AccR.zero (E : Enc α) (T : TypeId) (w : World) : AccR E T w 0 [] none 0 w := ⟨Rw.empty _ _, rfl, (fun a e => by cases e), Below.refl _ _⟩
theorem AccR.push {T : TypeId} {w : World} {i : Nat} {D : List α} {q : Option Addr} {c : Nat} {wr w' : World} (h : AccR E T w i D q c wr) {Y : List α} {q' : Option Addr} {c' : Nat} (hP : PushR E T wr q (D ++ Y) q' c' w') : AccR E T w (i + Y.length) (D ++ Y) q' c' w' := by
  obtain ⟨hS, hm, hor⟩ := hP
  refine ⟨hS, by rw [List.length_append, h.len], ?_, h.m.trans (hm.to_below h.m.size (by rintro j hj ⟨a, e, rfl⟩; have := h.new a e; omega))⟩
  intro a e
  rcases hor a e with h1 | h1
  · exact h.new _ h1
  · exact Nat.le_trans h.m.size h1
theorem AccR.below {T : TypeId} {w : World} {i : Nat} {D : List α} {q : Option Addr} {c : Nat} {wr w' : World} (h : AccR E T w i D q c wr) (hb : Below wr.heap.size wr w') : AccR E T w i D q c w' :=
  ⟨h.s.old hb, h.len, h.new, h.m.trans (hb.mono h.m.size)⟩
theorem AccR.take {T : TypeId} {w : World} {i : Nat} {D : List α} {q : Option Addr} {c : Nat} {wr : World} (h : AccR E T w i D q c wr) : Rd E wr q D := h.s.rd
end
/-- Elements that were just laid. -/
theorem Rd.made {α : Type} (E : Enc α) (w : World) (T : TypeId) (L : List α) (hl : L.length ≤ maxLen) : Rd E (w.alloc (.cells (E.all L).toArray T)) (some ⟨w.heap.size, 0, none⟩) L := (Rw.made (E := E) T w L hl).rd

/-- Texts. -/
def encS : Enc (List UInt8) := ⟨fun s => [.string ⟨s.toArray⟩], 1, fun _ => rfl, fun _ v hv => by rw [List.mem_singleton.1 hv]; rfl, Nat.one_pos⟩
/-- Ints. -/
def encI : Enc Int := ⟨fun x => [.int .i64 x], 1, fun _ => rfl, fun _ v hv => by rw [List.mem_singleton.1 hv]; rfl, Nat.one_pos⟩
theorem encS_all (ss : List (List UInt8)) : encS.all ss = ss.map fun s => Value.string ⟨s.toArray⟩ := by
  induction ss with
  | nil => rfl
  | cons a l ih => rw [show encS.all (a :: l) = encS.f a ++ encS.all l from rfl, ih]; rfl
theorem Rd.str {w : World} {ao : Option Addr} {L : List (List UInt8)} (h : Rd encS w ao L) (j : Nat) (hj : j < L.length) : ∃ bs off, ao = some ⟨bs, off, none⟩ ∧ bs < w.heap.size ∧ w.cell? ⟨bs, off + j, none⟩ = some (.string ⟨(L[j]).toArray⟩) := by
  obtain ⟨bs, off, e, hlt, hc⟩ := h j hj
  exact ⟨bs, off, e, hlt, by have := hc 0 _ rfl; simpa [encS] using this⟩
end Go.Proofs.Ytdahkemeoefndaa

namespace Go.Proofs.Ytdahkemeoefndaa
open Go.RowKit

/-- Out at b, made at world W0's end, holds bs; nothing below it has turned since. -/
def OutSt (W0 : World) (b : Nat) (bs : List UInt8) (w : World) : Prop :=
  ∃ v, OutAt 53 5 w b v bs ∧ (∀ j, v.ownBlock = some j → b < j) ∧ Below b W0 w
theorem OutSt.made (W0 : World) : OutSt W0 W0.heap.size [] (W0.alloc (.cells #[.slice none 0 0] 53)) :=
  ⟨.slice none 0 0, OutAt.fresh W0, (fun j h => by simp [Value.ownBlock] at h), (Below.refl _ _).alloc (Nat.le_refl _) _⟩
theorem OutSt.lt {W0 w : World} {b : Nat} {bs : List UInt8} (h : OutSt W0 b bs w) : b < w.heap.size := by obtain ⟨v, h1, _, _⟩ := h; exact h1.lt
theorem OutSt.below {W0 w : World} {b : Nat} {bs : List UInt8} (h : OutSt W0 b bs w) : Below b W0 w := by obtain ⟨v, _, _, h3⟩ := h; exact h3
theorem OutAt.ownlt {T E : TypeId} {w : World} {b : Nat} {v : Value} {bs : List UInt8} (h : OutAt T E w b v bs) (k : Nat) (hk : v.ownBlock = some k) : k < w.heap.size := by
  rcases h.own.2 with ⟨rfl, _⟩ | ⟨g, cap, cur, rfl, _, hh, _⟩
  · simp [Value.ownBlock] at hk
  · simp [Value.ownBlock] at hk; subst hk; exact (Array.getElem?_eq_some_iff.1 hh).1
theorem OutSt.old {W0 w w' : World} {b : Nat} {bs : List UInt8} (h : OutSt W0 b bs w) (hb : Below w.heap.size w w') : OutSt W0 b bs w' := by
  obtain ⟨v, h1, h2, h3⟩ := h
  exact ⟨v, h1.kept (Mod.of_below hb) (by have := h1.lt; omega) (fun k hk => by have := h1.ownlt k hk; omega), h2, h3.trans (hb.mono (Nat.le_of_lt h1.lt))⟩
theorem OutSt.of_post {W0 w w' : World} {b : Nat} {v : Value} {bs bs' : List UInt8} {r : Ending} (hO : OutAt 53 5 w b v bs) (hv : ∀ j, v.ownBlock = some j → b < j) (hB : Below b W0 w) (h : NumPost b v bs' w r w') :
    r = .returned (.pointer (some ⟨b, 0, none⟩)) ∧ OutSt W0 b bs' w' := by
  obtain ⟨hr, v', hO', hM, hown⟩ := h
  refine ⟨hr, v', hO', ?_, hB.trans (hM.to_below (Nat.le_of_lt hO.lt) ?_)⟩
  · intro j hj
    rcases hown with h | h
    · exact hv j (h ▸ hj)
    · exact Nat.lt_of_lt_of_le hO.lt (h j hj)
  · rintro k hk (h | h)
    · omega
    · have := hv k h; omega
theorem out_num (W0 : World) (b : Nat) (bs : List UInt8) (x : Int) (w : World) (h : OutSt W0 b bs w) (hl : bs.length ≤ 1099511627776) (h0 : -9223372036854775808 ≤ x) (h1 : x ≤ 9223372036854775807) :
    Calls Try.prog 20 #[.pointer (some ⟨b, 0, none⟩), .int .i64 x] w fun r w' => r = .returned (.pointer (some ⟨b, 0, none⟩)) ∧ OutSt W0 b (bs ++ numL x) w' := by
  obtain ⟨v, hO, hv, hB⟩ := h
  exact (num_any x b v bs w h0 h1 hO hl).mono fun _ _ hp => OutSt.of_post hO hv hB hp
theorem out_bytes (W0 : World) (b : Nat) (bs : List UInt8) (w : World) (h : OutSt W0 b bs w) :
    Calls Try.prog 21 #[.pointer (some ⟨b, 0, none⟩)] w fun r w' => r = .returned (.string ⟨bs.toArray⟩) ∧ w = w' := by
  obtain ⟨v, hO, hv, hB⟩ := h
  exact bytes_any b v bs w hO
/-- In at b; nothing below n has turned since world W0. -/
def InSt (W0 : World) (n b : Nat) (s : List UInt8) (e : Int) (w : World) : Prop := n ≤ b ∧ InAt 61 w b s e ∧ Below n W0 w
theorem InSt.size {W0 w : World} {n b : Nat} {s : List UInt8} {e : Int} (h : InSt W0 n b s e w) (hn : n ≤ W0.heap.size) : n ≤ w.heap.size := Nat.le_trans hn h.2.2.size
end Go.Proofs.Ytdahkemeoefndaa
