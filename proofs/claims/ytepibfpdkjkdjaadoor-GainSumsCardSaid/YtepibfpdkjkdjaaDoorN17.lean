/- The law's closure: the same number. -/
import Derived.Test.YtepibfpdkjkdjaaDoorN16
import Derived.Test.YtepibfpdkjkdjaaDoorDraw
namespace Go.Proofs.YtepibfpdkjkdjaaDoor
open Go.RowKit

theorem cmpI_self (x : Nat) : cmpI x x = 0 := by simp [cmpI]
theorem same_any (p q : Option Addr) (cp cq x : Nat) (w : World) (hx : NatIn w p cp x) (hy : NatIn w q cq x) (lx : (lb x).length ≤ 100000) :
    Calls Tryd.prog 37 #[.agg #[.slice p (lb x).length cp], .agg #[.slice q (lb x).length cq]] w fun r w' => r = .returned (.bool true) ∧ Below w.heap.size w w' := by
  go_enter Tryd.func37, Tryd.ntmps37
  go_upto_region 1 with fail
  have k2 : Boxed ((w.alloc (.cells #[.slice p (lb x).length cp] 25)).alloc (.cells #[.slice q (lb x).length cq] 25)) w.heap.size 25 (.slice p (lb x).length cp) := (Boxed.new w _ _).alloc _
  have k3 : Boxed ((w.alloc (.cells #[.slice p (lb x).length cp] 25)).alloc (.cells #[.slice q (lb x).length cq] 25)) (w.heap.size + 1) 25 (.slice q (lb x).length cq) := by
    have := Boxed.new (w.alloc (.cells #[.slice p (lb x).length cp] 25)) 25 (.slice q (lb x).length cq)
    rwa [World.size_alloc] at this
  have hB : Below w.heap.size w ((w.alloc (.cells #[.slice p (lb x).length cp] 25)).alloc (.cells #[.slice q (lb x).length cq] 25)) := ((Below.refl _ _).alloc (Nat.le_refl _) _).alloc (by simp) _
  have hx2 := (hx.alloc (.cells #[.slice p (lb x).length cp] 25)).alloc (.cells #[.slice q (lb x).length cq] 25)
  have hy2 := (hy.alloc (.cells #[.slice p (lb x).length cp] 25)).alloc (.cells #[.slice q (lb x).length cq] 25)
  generalize ((w.alloc (.cells #[.slice p (lb x).length cp] 25)).alloc (.cells #[.slice q (lb x).length cq] 25)) = W at *
  refine wp_region_vals (fun t v w' => match t with
    | 5 => v = .agg #[.slice p (lb x).length cp]
    | 6 => v = .agg #[.slice q (lb x).length cq]
    | 7 => v = .int .i64 0
    | 8 => v = .bool true
    | 9 => v = .bool true
    | 10 => v = .agg #[.slice p (lb x).length cp]
    | 11 => v = .string ⟨(dec x).toArray⟩
    | 12 => v = .agg #[.slice q (lb x).length cq]
    | 13 => v = .string ⟨(dec x).toArray⟩
    | 14 => v = .bool true
    | 15 => v = .bool true
    | 4 => v = .bool true
    | _ => True) (fun w' => Below W.heap.size W w') 16 (by kernel_rfl) (by decide +kernel) rfl (Below.refl _ _).drew ?_ ?_
  · skip
    refine OweAll.cons (owes_val rfl rfl fun a w1 ha hG hV => ?_) ?_
    · skip
      have h2 := ha.outer 2 (by decide +kernel)
      simp only [Act.eval] at h2
      have c2 := (Boxed.below' k2 hG k2.lt).cell
      exact ⟨(.agg #[.slice p (lb x).length cp]), wanted_free rfl, by simp [execOp, go_sem, h2, c2], rfl⟩
    refine OweAll.cons (owes_val rfl rfl fun a w1 ha hG hV => ?_) ?_
    · skip
      have h3 := ha.outer 3 (by decide +kernel)
      simp only [Act.eval] at h3
      have c3 := (Boxed.below' k3 hG k3.lt).cell
      exact ⟨(.agg #[.slice q (lb x).length cq]), wanted_free rfl, by simp [execOp, go_sem, h3, c3], rfl⟩
    refine OweAll.cons (owes_call rfl rfl 26 fun a w1 ha hG hV => ?_) ?_
    · skip
      have h5 : a.tmps.getD 5 undef = (.agg #[.slice p (lb x).length cp]) := hV.get 5 (by decide +kernel)
      have h6 : a.tmps.getD 6 undef = (.agg #[.slice q (lb x).length cq]) := hV.get 6 (by decide +kernel)
      refine ⟨#[(.agg #[.slice p (lb x).length cp]), (.agg #[.slice q (lb x).length cq])], wanted_free rfl, by simp [execOp, resolve, invoke, go_sem, h5, h6], ?_⟩
      refine (cmp_any p q cp cq x x w1 (hx2.old hG) (hy2.old hG) (by omega)).mono ?_
      rintro r w2 ⟨rfl, hb⟩; exact ⟨_, rfl, by show Value.int .i64 (cmpI x x) = _; rw [cmpI_self], hG.trans (hb.mono hG.size), fun _ _ h => h⟩
    refine OweAll.cons (owes_val rfl rfl fun a w1 ha hG hV => ?_) ?_
    · skip
      have h7 : a.tmps.getD 7 undef = (.int .i64 0) := hV.get 7 (by decide +kernel)
      exact ⟨(.bool true), wanted_free rfl, by simp [execOp, go_sem, h7], rfl⟩
    refine OweAll.cons (owes_val rfl rfl fun a w1 ha hG hV => ?_) ?_
    · skip
      have h8 : a.tmps.getD 8 undef = (.bool true) := hV.get 8 (by decide +kernel)
      exact ⟨(.bool true), wanted_free rfl, by simp [execOp, go_sem, h8], rfl⟩
    refine OweAll.cons (owes_val rfl rfl fun a w1 ha hG hV => ?_) ?_
    · skip
      have h2 := ha.outer 2 (by decide +kernel)
      simp only [Act.eval] at h2
      have c2 := (Boxed.below' k2 hG k2.lt).cell
      exact ⟨(.agg #[.slice p (lb x).length cp]), (wanted_of (t := 9) rfl rfl (hV.get 9 (by decide +kernel))), by simp [execOp, go_sem, h2, c2], rfl⟩
    refine OweAll.cons (owes_call rfl rfl 21 fun a w1 ha hG hV => ?_) ?_
    · skip
      have h10 : a.tmps.getD 10 undef = (.agg #[.slice p (lb x).length cp]) := hV.get 10 (by decide +kernel)
      refine ⟨#[(.agg #[.slice p (lb x).length cp])], (wanted_of (t := 9) rfl rfl (hV.get 9 (by decide +kernel))), by simp [execOp, resolve, invoke, go_sem, h10], ?_⟩
      refine (text_any p cp x w1 (hx2.old hG) lx).mono ?_
      rintro r w2 ⟨rfl, hb⟩; exact ⟨_, rfl, rfl, hG.trans (hb.mono hG.size), fun _ _ h => h⟩
    refine OweAll.cons (owes_val rfl rfl fun a w1 ha hG hV => ?_) ?_
    · skip
      have h3 := ha.outer 3 (by decide +kernel)
      simp only [Act.eval] at h3
      have c3 := (Boxed.below' k3 hG k3.lt).cell
      exact ⟨(.agg #[.slice q (lb x).length cq]), (wanted_of (t := 9) rfl rfl (hV.get 9 (by decide +kernel))), by simp [execOp, go_sem, h3, c3], rfl⟩
    refine OweAll.cons (owes_call rfl rfl 21 fun a w1 ha hG hV => ?_) ?_
    · skip
      have h12 : a.tmps.getD 12 undef = (.agg #[.slice q (lb x).length cq]) := hV.get 12 (by decide +kernel)
      refine ⟨#[(.agg #[.slice q (lb x).length cq])], (wanted_of (t := 9) rfl rfl (hV.get 9 (by decide +kernel))), by simp [execOp, resolve, invoke, go_sem, h12], ?_⟩
      refine (text_any q cq x w1 (hy2.old hG) lx).mono ?_
      rintro r w2 ⟨rfl, hb⟩; exact ⟨_, rfl, rfl, hG.trans (hb.mono hG.size), fun _ _ h => h⟩
    refine OweAll.cons (owes_val rfl rfl fun a w1 ha hG hV => ?_) ?_
    · skip
      have h11 : a.tmps.getD 11 undef = (.string ⟨(dec x).toArray⟩) := hV.get 11 (by decide +kernel)
      have h13 : a.tmps.getD 13 undef = (.string ⟨(dec x).toArray⟩) := hV.get 13 (by decide +kernel)
      exact ⟨(.bool true), (wanted_of (t := 9) rfl rfl (hV.get 9 (by decide +kernel))), by simp [execOp, go_sem, h11, h13], rfl⟩
    refine OweAll.cons (owes_val rfl rfl fun a w1 ha hG hV => ?_) ?_
    · skip
      have h9 : a.tmps.getD 9 undef = (.bool true) := hV.get 9 (by decide +kernel)
      have h14 : a.tmps.getD 14 undef = (.bool true) := hV.get 14 (by decide +kernel)
      exact ⟨(.bool true), wanted_free rfl, by simp [execOp, go_sem, h9, h14], rfl⟩
    refine OweAll.cons (owes_val rfl rfl fun a w1 ha hG hV => ?_) ?_
    · skip
      have h15 : a.tmps.getD 15 undef = (.bool true) := hV.get 15 (by decide +kernel)
      exact ⟨(.bool true), wanted_free rfl, by simp [execOp, go_sem, h15], rfl⟩
    exact OweAll.nil
  · intro a w1 ha hG hv
    rename_i hK
    have h4 : a.tmps.getD 4 undef = .bool true := hv 11 _ 4 rfl rfl
    refine hK _ _ (wp_ret ?_)
    show bodyPost Tryd.prog Tryd.f37 _ .ret a w1
    refine bodyPost_ret (results_tmp (t := 4) rfl _ _ _) ha.defers ?_
    rw [h4]
    exact ⟨rfl, hB.trans (hG.mono hB.size)⟩
end Go.Proofs.YtepibfpdkjkdjaaDoor
