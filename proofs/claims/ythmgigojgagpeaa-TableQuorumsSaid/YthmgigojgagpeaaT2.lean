/- Table.Quorum. -/
import Derived.Test.YthmgigojgagpeaaT1
import Derived.Test.YthmgigojgagpeaaDraw
namespace Go.Proofs.Ythmgigojgagpeaa
open Go.RowKit

/-- The slice holds the numbers. -/
def IntsAt (w : World) (ao : Option Addr) (S : List Int) : Prop :=
  ∀ j (h : j < S.length), ∃ bs off, ao = some ⟨bs, off, none⟩ ∧ bs < w.heap.size ∧ w.cell? ⟨bs, off + j, none⟩ = some (.int .i64 S[j])
theorem IntsAt.old {w w' : World} {ao : Option Addr} {S : List Int} (h : IntsAt w ao S) (hb : Below w.heap.size w w') : IntsAt w' ao S := by
  intro j hj
  obtain ⟨bs, off, e, hlt, c1⟩ := h j hj
  exact ⟨bs, off, e, Nat.lt_of_lt_of_le hlt hb.size, (hb.cell (p := ⟨bs, off + j, none⟩) hlt).trans c1⟩
/-- A miner's power. -/
def pw (P : List Nat) (m : Int) : Nat := if 0 ≤ m ∧ m < 64 then P.getD m.toNat 0 else 0
/-- One signer more. -/
def sg (P Q : List Nat) (m : Int) : List Nat := if 0 < pw P m then Q.set m.toNat (pw P m) else Q
/-- What was signed. -/
def sig (P : List Nat) (S : List Int) : List Nat := S.foldl (sg P) (List.replicate 64 0)
theorem pw_le {P : List Nat} (h : IsTab P) (m : Int) : pw P m ≤ 1099511627776 := by
  unfold pw
  by_cases hm : 0 ≤ m ∧ m < 64
  · rw [if_pos hm]
    have hn : m.toNat < P.length := by rw [h.len]; omega
    rw [List.getD_eq_getElem?_getD, List.getElem?_eq_getElem hn]
    exact h.le _ (List.getElem_mem hn)
  · rw [if_neg hm]; exact Nat.zero_le _
theorem set_le {P : List Nat} {b : Nat} (h : ∀ p ∈ P, p ≤ b) {i x : Nat} (hx : x ≤ b) : ∀ p ∈ P.set i x, p ≤ b := by
  intro p hp
  rcases List.mem_or_eq_of_mem_set hp with h1 | h1
  · exact h p h1
  · rw [h1]; exact hx
theorem IsTab.sg {P Q : List Nat} (h : IsTab P) (hQ : IsTab Q) (m : Int) : IsTab (sg P Q m) := by
  unfold Go.Proofs.Ythmgigojgagpeaa.sg
  by_cases hp : 0 < pw P m
  · rw [if_pos hp]; exact ⟨by rw [List.length_set]; exact hQ.len, set_le hQ.le (pw_le h m)⟩
  · rw [if_neg hp]; exact hQ
theorem isTab_zero : IsTab (List.replicate 64 0) := ⟨by simp, fun p hp => by rw [List.eq_of_mem_replicate hp]; exact Nat.zero_le _⟩
theorem sig_take (P : List Nat) (S : List Int) (i : Nat) (hi : i < S.length) : sig P (S.take (i + 1)) = sg P (sig P (S.take i)) S[i] := by
  unfold sig
  rw [← List.take_append_getElem hi, List.foldl_append]; rfl

theorem exec_load_row {P : Program} {o : Oper} {a : Act} {w : World} (ty : TypeId) (x : Operand) (ho : o.op = .load ty x) (g : Nat) (hx : a.eval x = .pointer (some ⟨g, 0, none⟩)) (t : TypeId) (cs : Array Value) (fr : Nat × Nat) (d : TypeDesc) (hg : w.heap[g]? = some (.cells cs t fr))
    (hu : P.underlying ty = some d) (hd : (match d with | .struct _ | .array _ _ => true | _ => false) = true) (hi : (P.info? ty).map (·.size) = some cs.size) : (execOp a.eval o).run P w = .ok (.value (.agg cs)) w := by
  unfold execOp
  simp only [ho, hx, Instr.loadAt, Instr.sureAddr, Sem.run_bind, Sem.run_pure, Result.andThen_ok, run_loadVar_row w g t ty cs fr d hg hu hd hi]

/-- While the signers are gone through: i are. -/
structure QuoR (w : World) (P : List Nat) (A : Array Value) (S : List Int) (i : Nat) (Q : List Nat) (wr : World) : Prop where
  val : Q = sig P (S.take i)
  tab : IsTab Q
  row : RowAt .i64 28 wr (w.heap.size + 1) Q
  own : wr.heap[w.heap.size]? = some (.cells A 28 (0, 0))
  m : Below w.heap.size w wr
theorem QuoR.below {w : World} {P : List Nat} {A : Array Value} {S : List Int} {i : Nat} {Q : List Nat} {wr w' : World} (h : QuoR w P A S i Q wr) (hb : Below wr.heap.size wr w') : QuoR w P A S i Q w' :=
  ⟨h.val, h.tab, (hb.block _ h.row.lt).trans h.row, (hb.block _ (Array.getElem?_eq_some_iff.1 h.own).1).trans h.own, h.m.trans (hb.mono h.m.size)⟩

set_option maxRecDepth 20000 in
set_option maxHeartbeats 8000000 in
theorem quorum_any (P : List Nat) (ao : Option Addr) (cap : Nat) (S : List Int) (w : World) (hP : IsTab P) (hS : IntsAt w ao S) (hl : S.length ≤ 1000000) :
    Calls Try.prog 10 #[tval P, .slice ao S.length cap] w fun r w' => r = .returned (.bool (decide (2 * tsum P < 3 * tsum (sig P S)))) ∧ Below w.heap.size w w' := by
  have hpow : ∀ (m : Int) (w : World), Calls Try.prog 12 #[tval P, .int .i64 m] w fun r w' => r = .returned (.int .i64 (pw P m : Int)) ∧ Below w.heap.size w w' := fun m w => power_any P m w hP
  have htot : ∀ (Q : List Nat) (w : World), IsTab Q → Calls Try.prog 18 #[tval Q] w fun r w' => r = .returned (.int .i64 (tsum Q : Int)) ∧ Below w.heap.size w w' := fun Q w h => total_any Q w h
  have htP := htot P
  obtain ⟨n, hn⟩ : ∃ n, S.length = n := ⟨_, rfl⟩
  rw [hn] at hl ⊢
  have Hn := Lib.hid hn
  have HS := Lib.hid hS
  unfold tval at hpow htP ⊢
  obtain ⟨A, hA⟩ : ∃ A, A = (nums .i64 P).toArray := ⟨_, rfl⟩
  have hAs := hP.row hA
  rw [← hA] at hpow htP ⊢
  have Hpow := Lib.hid hpow
  have HtP := Lib.hid (fun w => htP w hP)
  have Htot := Lib.hid htot
  have HP := Lib.hid hP
  obtain ⟨Z, hZ⟩ : ∃ Z, Z = (nums .i64 (List.replicate 64 0)).toArray := ⟨_, rfl⟩
  have hz : ∀ w : World, (zeroValue 28).run Try.prog w = .ok (.agg Z) w := by rw [hZ]; exact fun _ => by kernel_rfl
  have HZ := Lib.hid hZ
  have hi28 : ∀ w : World, w.heap[w.heap.size]? = none := fun w => Array.getElem?_eq_none (Nat.le_refl _)
  clear hpow htP htot hA hn hS hP hZ hi28
  go_enter Try.func10, Try.ntmps10
  go_upto_region 2 with fail
  obtain ⟨W, hW⟩ : ∃ W, W = (w.alloc (.cells A 28)).alloc (.cells Z 28) := ⟨_, rfl⟩
  have hR0 : QuoR w P A S 0 (List.replicate 64 0) W := by
    rw [hW]
    refine ⟨rfl, isTab_zero, ?_, ?_, ((Below.refl _ _).alloc (Nat.le_refl _) _).alloc (by simp) _⟩
    · have := heap_alloc_new (w.alloc (.cells A 28)) (.cells Z 28)
      rw [World.size_alloc] at this
      rw [HZ.out] at this; rw [HZ.out]; exact this
    · exact (Below.heap_alloc _ _ _ (by simp)).trans (heap_alloc_new w _)
  rw [← hW]
  clear hW hz HZ
  go_wp2_with fail
  go_loopw [11] (fun s11 wr => ∃ (i : Nat) (Q : List Nat), i ≤ n ∧ s11 = .int .i64 (i : Int) ∧ QuoR w P A S i Q wr) (fun i _ => n - (intOf i).toNat)
  case atStart => exact ⟨0, _, by omega, rfl, hR0⟩
  case round =>
    clear hR0
    obtain ⟨i, Q, hi, rfl, hR⟩ := hrel
    by_cases hin : i < n
    · have hil : i < S.length := by rw [Hn.out]; exact hin
      obtain ⟨bs, off, rfl, hbs, c1⟩ := (HS.out.old hR.m) i hil
      obtain ⟨m, hm⟩ : ∃ m, m = S[i] := ⟨_, rfl⟩
      rw [← hm] at c1
      have hsg := sig_take P S i hil
      rw [← hm, ← hR.val] at hsg
      have Hsg := Lib.hid hsg
      have i1 : (i : Int) < n := by omega
      have i0 : (0 : Int) ≤ i := by omega
      have own := hR.own
      have HR := Lib.hid hR
      obtain ⟨x, hx⟩ : ∃ x, x = pw P m := ⟨_, rfl⟩
      have hpm := Hpow.out m wr
      rw [← hx] at hpm
      have Hx := Lib.hid hx
      clear hm hsg hR hx
      go_wp2_with (refine wpList_load_row rfl 28 (.tmp 2) rfl w.heap.size rfl 28 A (0, 0) _ own Try.underlying28 rfl ?s1 ?_)
      case s1 => rw [hAs]; kernel_rfl
      refine hpm.mono ?_
      clear hpm own
      rintro r w3 ⟨rfl, hb⟩
      have hR3 := HR.out.below hb
      clear hb c1 HR
      by_cases hx0 : 0 < x
      · have hm64 : 0 ≤ m ∧ m < 64 := by
          apply Classical.byContradiction; intro h
          have := Hx.out; unfold pw at this; rw [if_neg h] at this; omega
        obtain ⟨k, rfl⟩ : ∃ k : Nat, m = (k : Int) := ⟨m.toNat, by omega⟩
        have hkl : k < Q.length := by rw [hR3.tab.len]; omega
        have cS := hR3.row.cell k hkl
        have fS := hR3.row.froz k
        generalize Q[k] = old at cS
        have hrow := hR3.row.set k x
        have hQ2 : Hid (QuoR w P A S (i + 1) (Q.set k x) (w3.setCell ⟨w.heap.size + 1, k, none⟩ (.int .i64 (x : Int)))) := Lib.hid (by
          have e : sg P Q (k : Int) = Q.set k x := by unfold sg; rw [← Hx.out, if_pos hx0, Int.toNat_natCast]
          refine ⟨by rw [Hsg.out, e], by rw [← e]; exact HP.out.sg hR3.tab _, hrow, ?_, hR3.m.setCell (p := ⟨w.heap.size + 1, k, none⟩) (by show w.heap.size ≤ w.heap.size + 1; omega) _⟩
          exact (Below.heap_setCell _ _ _ _ (by show w.heap.size ≠ w.heap.size + 1; omega)).trans hR3.own)
        have b0 : (0 : Int) < x := by omega
        have k0 : (0 : Int) ≤ k := by omega
        have k1 : (k : Int) < 64 := by omega
        clear hR3 hrow hkl hm64
        go_wp2_with fail
        go_roundw
        case rel => exact ⟨i + 1, _, by omega, by go_num, hQ2.out⟩
        case measure => simp [intOf]; omega
      · have hQ2 : Hid (QuoR w P A S (i + 1) Q w3) := Lib.hid (by
          have e : sg P Q m = Q := by unfold sg; rw [← Hx.out, if_neg hx0]
          exact ⟨by rw [Hsg.out, e], hR3.tab, hR3.row, hR3.own, hR3.m⟩)
        have b0 : ¬ (0 : Int) < x := by omega
        clear hR3
        go_wp2_with fail
        go_roundw
        case rel => exact ⟨i + 1, Q, by omega, by go_num, hQ2.out⟩
        case measure => simp [intOf]; omega
    · obtain rfl : i = n := by omega
      have hv := hR.val
      rw [List.take_of_length_le (by rw [Hn.out]; exact Nat.le_refl _)] at hv
      obtain ⟨AQ, hAQ⟩ : ∃ AQ, AQ = (nums .i64 Q).toArray := ⟨_, rfl⟩
      have hQs := hR.tab.row hAQ
      have hrow : wr.heap[w.heap.size + 1]? = some (.cells AQ 28 (0, 0)) := by rw [hAQ]; exact hR.row
      have htQ := fun w => Htot.out Q w hR.tab
      have hq1 := hR.tab.sumle
      have hp1 := HP.out.sumle
      unfold tval at htQ
      rw [← hAQ] at htQ
      obtain ⟨tq, htq⟩ : ∃ t, t = tsum Q := ⟨_, rfl⟩
      have htP2 := HtP.out
      obtain ⟨tp, htp⟩ : ∃ t, t = tsum P := ⟨_, rfl⟩
      rw [← htq] at htQ hq1
      rw [← htp] at htP2 hp1
      clear HtP
      have HtQ := Lib.hid htQ
      have HtP := Lib.hid htP2
      have wq : IntKind.i64.wrap (3 * (tq : Int)) = 3 * (tq : Int) := by rw [IntKind.wrap_i64]; omega
      have wp' : IntKind.i64.wrap (2 * (tp : Int)) = 2 * (tp : Int) := by rw [IntKind.wrap_i64]; omega
      obtain ⟨b, hb1, hb2⟩ : ∃ b : Bool, decide (2 * (tp : Int) < 3 * (tq : Int)) = b ∧ decide (2 * tp < 3 * tq) = b := by
        by_cases h : 2 * tp < 3 * tq
        · exact ⟨true, by simp; omega, by simp; omega⟩
        · exact ⟨false, by simp; omega, by simp; omega⟩
      have Hb2 : Hid (decide (2 * tsum P < 3 * tsum (sig P S)) = b) := Lib.hid (by rw [← hv, ← htp, ← htq]; exact hb2)
      have hB := hR.m
      clear hv hAQ htQ htP2 htq htp hb2 hin hi
      go_upto_region 9 with fail
      refine wp_region_vals (fun t v _ => match t with
        | 25 => v = .agg AQ
        | 26 => v = .int .i64 (tq : Int)
        | 27 => v = .int .i64 (3 * (tq : Int))
        | 28 => v = .agg A
        | 29 => v = .int .i64 (tp : Int)
        | 30 => v = .int .i64 (2 * (tp : Int))
        | 31 => v = .bool b
        | 4 => v = .bool b
        | _ => True) (fun w' => Below wr.heap.size wr w') 32 (by kernel_rfl) (by decide +kernel) rfl (Below.refl _ _).drew ?_ ?_
      · skip
        refine OweAll.cons (owes_val rfl rfl fun a u1 ha hG hV => ?_) ?_
        · skip
          have h5 : a.eval (.tmp 5) = .pointer (some ⟨w.heap.size + 1, 0, none⟩) := (ha.outer 5 (by decide +kernel)).trans rfl
          exact ⟨.agg AQ, wanted_free rfl, exec_load_row 28 (.tmp 5) rfl _ h5 28 AQ (0, 0) _ ((hG.block _ hR.row.lt).trans hrow) Try.underlying28 rfl (by rw [hQs]; kernel_rfl), rfl⟩
        refine OweAll.cons (owes_call rfl rfl 18 fun a u1 ha hG hV => ?_) ?_
        · skip
          have h25 : a.tmps.getD 25 undef = .agg AQ := hV.get 25 (by decide +kernel)
          refine ⟨#[.agg AQ], wanted_free rfl, by simp [execOp, resolve, invoke, go_sem, h25], ?_⟩
          refine (HtQ.out u1).mono ?_
          rintro r u2 ⟨rfl, hb⟩; exact ⟨_, rfl, rfl, hG.trans (hb.mono hG.size), fun _ _ h => h⟩
        refine OweAll.cons (owes_val rfl rfl fun a u1 ha hG hV => ?_) ?_
        · skip
          have h26 : a.tmps.getD 26 undef = .int .i64 (tq : Int) := hV.get 26 (by decide +kernel)
          exact ⟨.int .i64 (3 * (tq : Int)), wanted_free rfl, by simp [execOp, go_sem, h26, wq], rfl⟩
        refine OweAll.cons (owes_val rfl rfl fun a u1 ha hG hV => ?_) ?_
        · skip
          have h2 : a.eval (.tmp 2) = .pointer (some ⟨w.heap.size, 0, none⟩) := (ha.outer 2 (by decide +kernel)).trans rfl
          exact ⟨.agg A, wanted_free rfl, exec_load_row 28 (.tmp 2) rfl _ h2 28 A (0, 0) _ ((hG.block _ (Array.getElem?_eq_some_iff.1 hR.own).1).trans hR.own) Try.underlying28 rfl (by rw [hAs]; kernel_rfl), rfl⟩
        refine OweAll.cons (owes_call rfl rfl 18 fun a u1 ha hG hV => ?_) ?_
        · skip
          have h28 : a.tmps.getD 28 undef = .agg A := hV.get 28 (by decide +kernel)
          refine ⟨#[.agg A], wanted_free rfl, by simp [execOp, resolve, invoke, go_sem, h28], ?_⟩
          refine (HtP.out u1).mono ?_
          rintro r u2 ⟨rfl, hb⟩; exact ⟨_, rfl, rfl, hG.trans (hb.mono hG.size), fun _ _ h => h⟩
        refine OweAll.cons (owes_val rfl rfl fun a u1 ha hG hV => ?_) ?_
        · skip
          have h29 : a.tmps.getD 29 undef = .int .i64 (tp : Int) := hV.get 29 (by decide +kernel)
          exact ⟨.int .i64 (2 * (tp : Int)), wanted_free rfl, by simp [execOp, go_sem, h29, wp'], rfl⟩
        refine OweAll.cons (owes_val rfl rfl fun a u1 ha hG hV => ?_) ?_
        · skip
          have h27 : a.tmps.getD 27 undef = .int .i64 (3 * (tq : Int)) := hV.get 27 (by decide +kernel)
          have h30 : a.tmps.getD 30 undef = .int .i64 (2 * (tp : Int)) := hV.get 30 (by decide +kernel)
          exact ⟨.bool b, wanted_free rfl, by simp [execOp, go_sem, h27, h30, hb1], rfl⟩
        refine OweAll.cons (owes_val rfl rfl fun a u1 ha hG hV => ?_) ?_
        · skip
          have h31 : a.tmps.getD 31 undef = .bool b := hV.get 31 (by decide +kernel)
          exact ⟨.bool b, wanted_free rfl, by simp [execOp, go_sem, h31], rfl⟩
        exact OweAll.nil
      · intro a u1 ha hG hv
        rename_i hK
        have h4 : a.tmps.getD 4 undef = .bool b := hv 7 _ 4 rfl rfl
        refine hK _ _ (wp_ret ?_)
        show bodyPost Try.prog Try.f10 _ .ret a u1
        refine bodyPost_ret (results_tmp (t := 4) rfl _ _ _) ha.defers ?_
        rw [h4]
        exact ⟨by rw [Hb2.out], hB.trans (hG.mono hB.size)⟩
end Go.Proofs.Ythmgigojgagpeaa
