/- Names that rise. -/
import Derived.Test.YtkejidmomnmdbaaDoorH2
import Derived.Deep.MidRow
namespace Go.Proofs.YtkejidmomnmdbaaDoor
open Go.RowKit

/-- Names. -/
abbrev Nm := { s : List UInt8 // s.length = 32 }
def encN : Enc Nm := ⟨fun s => vals s.1, 32, fun s => by rw [vals_len]; exact s.2, fun s => vals_one s.1, by decide⟩
theorem exec_load_mid {o : Oper} {a : Act} {w : World} (x : Operand) (ho : o.op = .load 25 x) (b off : Nat) (hx : a.eval x = .pointer (some ⟨b, off, none⟩)) (s : Nm)
    (hc : ∀ i u, (encN.f s)[i]? = some u → w.cell? ⟨b, off + i, none⟩ = some u) : (execOp a.eval o).run Tryd.prog w = .ok (.value (.agg (vals s.1).toArray)) w := by
  have hl := run_loadVar_mid (P := Tryd.prog) w b off 25 (vals s.1) _ (fun j v hv => hc j v hv) Tryd.underlying25 rfl (by rw [vals_len, s.2]; kernel_rfl)
  unfold execOp
  simp only [ho, hx, Instr.loadAt, Instr.sureAddr, Sem.run_bind, Sem.run_pure, Result.andThen_ok, hl]
/-- The first k + 1 rise. -/
def rs (L : List (List UInt8)) (k : Nat) : Bool := (List.range k).all fun i => decide (Lib.compareBytes (L.getD i []) (L.getD (i + 1) []) < 0)
theorem rs_succ (L : List (List UInt8)) (k : Nat) : rs L (k + 1) = (rs L k && decide (Lib.compareBytes (L.getD k []) (L.getD (k + 1) []) < 0)) := by
  unfold rs; rw [List.range_succ, List.all_append]; simp
theorem rs_stop {L : List (List UInt8)} {k n : Nat} (h : rs L (k + 1) = false) (hn : k < n) : rs L n = false := by
  obtain ⟨m, rfl⟩ : ∃ m, n = k + 1 + m := ⟨n - (k + 1), by omega⟩
  induction m with
  | zero => exact h
  | succ m ih => rw [← Nat.add_assoc, rs_succ, ih (by omega)]; rfl

set_option maxRecDepth 20000 in
set_option maxHeartbeats 4000000 in
theorem rising_any (ao : Option Addr) (cap : Nat) (L : List Nm) (w : World) (hL : Rd encN w ao L) (hn : L.length ≤ 1000000) :
    Calls Tryd.prog 95 #[.slice ao L.length cap] w fun r w' => r = .returned (.bool (rs (L.map (·.1)) (L.length - 1))) ∧ Below w.heap.size w w' := by
  obtain ⟨n, hnL⟩ : ∃ n, n = L.length := ⟨_, rfl⟩
  rw [← hnL] at hn ⊢
  obtain ⟨R, hR⟩ : ∃ R, R = rs (L.map (·.1)) (n - 1) := ⟨_, rfl⟩
  rw [← hR]
  have HR := Lib.hid hR
  clear hR
  have Hn := Lib.hid hnL
  have HL := Lib.hid hL
  have hB0 := Below.refl w.heap.size w
  clear hnL hL
  go_enter Tryd.func95, Tryd.ntmps95
  go_wp2_with fail
  go_loopw [3] (fun s3 wr => ∃ k : Nat, k ≤ n ∧ s3 = .int .i64 ((k : Int) + 1) ∧ Hid (rs (L.map (·.1)) k = true) ∧ Hid (k ≤ n - 1) ∧ Below w.heap.size w wr) (fun i _ => n + 1 - (intOf i).toNat)
  case atStart => exact ⟨0, by omega, by go_num, Lib.hid rfl, Lib.hid (Nat.zero_le _), hB0⟩
  case round =>
    clear hB0
    obtain ⟨i, hi, rfl, hrs, hin, hB⟩ := hrel
    by_cases hlt : i + 1 < n
    · have h1 : i < L.length := by rw [← Hn.out]; omega
      have h2 : i + 1 < L.length := by rw [← Hn.out]; omega
      obtain ⟨bs, off, rfl, hbs, c1⟩ := (HL.out.old hB) i h1
      obtain ⟨bs', off', e, _, c2⟩ := (HL.out.old hB) (i + 1) h2
      cases e
      have C1 : Hid (∀ w', Below wr.heap.size wr w' → ∀ k u, (encN.f L[i])[k]? = some u → w'.cell? ⟨bs, off + i * 32 + k, none⟩ = some u) := Lib.hid (fun w' hb k u hu => (World.cell?_of_block (hb.block bs hbs)).trans (c1 k u hu))
      have C2 : Hid (∀ w', Below wr.heap.size wr w' → ∀ k u, (encN.f L[i + 1])[k]? = some u → w'.cell? ⟨bs, off + (i + 1) * 32 + k, none⟩ = some u) := Lib.hid (fun w' hb k u hu => (World.cell?_of_block (hb.block bs hbs)).trans (c2 k u hu))
      obtain ⟨x, hx⟩ : ∃ x, x = L[i] := ⟨_, rfl⟩
      obtain ⟨y, hy⟩ : ∃ y, y = L[i + 1] := ⟨_, rfl⟩
      have hgx : (L.map (·.1)).getD i [] = x.1 := by simp [List.getD, h1, hx]
      have hgy : (L.map (·.1)).getD (i + 1) [] = y.1 := by simp [List.getD, h2, hy]
      have hsu := rs_succ (L.map (·.1)) i
      rw [hgx, hgy, hrs.out, Bool.true_and] at hsu
      rw [← hx] at C1
      rw [← hy] at C2
      obtain ⟨c, hc⟩ : ∃ c, c = Lib.compareBytes x.1 y.1 := ⟨_, rfl⟩
      have hcmp : Hid (∀ w, Calls Tryd.prog 106 #[.agg (vals x.1).toArray, .agg (vals y.1).toArray] w fun r w' => r = .returned (.int .i64 c) ∧ Below w.heap.size w w') := Lib.hid (fun w => by rw [hc]; exact hcompare_any x.1 y.1 w x.2 y.2)
      rw [← hc] at hsu
      have Hsu := Lib.hid hsu
      have i0 : (0 : Int) ≤ i := by omega
      have i1 : (i : Int) < n := by omega
      have i2 : (i : Int) + 1 < n := by omega
      have e1 : IntKind.i64.wrap ((i : Int) + 1 - 1) = (i : Int) := by rw [IntWalk.i64_in _ (by omega)]; omega
      have e0 : IntKind.i64.wrap (i : Int) = (i : Int) := IntWalk.i64_in _ (by omega)
      have e2 : ((i : Int) + 1).toNat = i + 1 := by omega
      have e3 : (0 : Int) ≤ (i : Int) + 1 := by omega
      have HB := Lib.hid hB
      clear hx hy hgx hgy hsu hc c1 c2 hB hrs
      go_wp2_with fail
      refine wp_region_puts (fun t v w => VK (match t with
        | 10 => .eq (.slice (some ⟨bs, off, none⟩) n cap)
        | 11 => .eq (.int .i64 ((i : Int) + 1))
        | 12 => .eq (.int .i64 (i : Int))
        | 13 => .eq (.pointer (some ⟨bs, off + i * 32, none⟩))
        | 14 => .eq (.agg (vals x.1).toArray)
        | 15 => .eq (.slice (some ⟨bs, off, none⟩) n cap)
        | 16 => .eq (.int .i64 ((i : Int) + 1))
        | 17 => .eq (.pointer (some ⟨bs, off + (i + 1) * 32, none⟩))
        | 18 => .eq (.agg (vals y.1).toArray)
        | 19 => .eq (.int .i64 c)
        | 20 => .eq (.bool (decide (0 ≤ c)))
        | _ => .any) v w) (fun w' => Below wr.heap.size wr w') 21 (by kernel_rfl) (by decide +kernel) rfl (Below.refl _ _).drew (by
        refine OweAll.cons (owesK rfl rfl fun a w1 ha hG hV => ?_) ?_
        · skip
          have h0 := ha.outer 0 (by decide +kernel)
          simp only [Act.eval] at h0
          exact ⟨.slice (some ⟨bs, off, none⟩) n cap, w1, wanted_free rfl, by simp [execOp, go_sem, h0], Below.refl _ _, rfl⟩
        refine OweAll.cons (owesK rfl rfl fun a w1 ha hG hV => ?_) ?_
        · skip
          have h3 := ha.outer 3 (by decide +kernel)
          simp only [Act.eval] at h3
          exact ⟨.int .i64 ((i : Int) + 1), w1, wanted_free rfl, by simp [execOp, go_sem, h3], Below.refl _ _, rfl⟩
        refine OweAll.cons (owesK rfl rfl fun a w1 ha hG hV => ?_) ?_
        · skip
          have h11 : a.tmps.getD 11 undef = .int .i64 ((i : Int) + 1) := hV.get 11 (by decide +kernel)
          exact ⟨.int .i64 (i : Int), w1, wanted_free rfl, by simp [execOp, go_sem, h11, e0, e1], Below.refl _ _, rfl⟩
        refine OweAll.cons (owesK rfl rfl fun a w1 ha hG hV => ?_) ?_
        · skip
          have h10 : a.tmps.getD 10 undef = .slice (some ⟨bs, off, none⟩) n cap := hV.get 10 (by decide +kernel)
          have h12 : a.tmps.getD 12 undef = .int .i64 (i : Int) := hV.get 12 (by decide +kernel)
          exact ⟨.pointer (some ⟨bs, off + i * 32, none⟩), w1, wanted_free rfl, by simp [execOp, go_sem, h10, h12, i0, i1], Below.refl _ _, rfl⟩
        refine OweAll.cons (owesK rfl rfl fun a w1 ha hG hV => ?_) ?_
        · skip
          have h13 : a.tmps.getD 13 undef = .pointer (some ⟨bs, off + i * 32, none⟩) := hV.get 13 (by decide +kernel)
          exact ⟨.agg (vals x.1).toArray, w1, wanted_free rfl, exec_load_mid (.tmp 13) rfl bs (off + i * 32) h13 x (C1.out w1 hG), Below.refl _ _, rfl⟩
        refine OweAll.cons (owesK rfl rfl fun a w1 ha hG hV => ?_) ?_
        · skip
          have h0 := ha.outer 0 (by decide +kernel)
          simp only [Act.eval] at h0
          exact ⟨.slice (some ⟨bs, off, none⟩) n cap, w1, wanted_free rfl, by simp [execOp, go_sem, h0], Below.refl _ _, rfl⟩
        refine OweAll.cons (owesK rfl rfl fun a w1 ha hG hV => ?_) ?_
        · skip
          have h3 := ha.outer 3 (by decide +kernel)
          simp only [Act.eval] at h3
          exact ⟨.int .i64 ((i : Int) + 1), w1, wanted_free rfl, by simp [execOp, go_sem, h3], Below.refl _ _, rfl⟩
        refine OweAll.cons (owesK rfl rfl fun a w1 ha hG hV => ?_) ?_
        · skip
          have h15 : a.tmps.getD 15 undef = .slice (some ⟨bs, off, none⟩) n cap := hV.get 15 (by decide +kernel)
          have h16 : a.tmps.getD 16 undef = .int .i64 ((i : Int) + 1) := hV.get 16 (by decide +kernel)
          exact ⟨.pointer (some ⟨bs, off + (i + 1) * 32, none⟩), w1, wanted_free rfl, by simp [execOp, go_sem, h15, h16, e2, e3, i2], Below.refl _ _, rfl⟩
        refine OweAll.cons (owesK rfl rfl fun a w1 ha hG hV => ?_) ?_
        · skip
          have h17 : a.tmps.getD 17 undef = .pointer (some ⟨bs, off + (i + 1) * 32, none⟩) := hV.get 17 (by decide +kernel)
          exact ⟨.agg (vals y.1).toArray, w1, wanted_free rfl, exec_load_mid (.tmp 17) rfl bs (off + (i + 1) * 32) h17 y (C2.out w1 hG), Below.refl _ _, rfl⟩
        refine OweAll.cons (owesK_call rfl rfl 106 fun a w1 ha hG hV => ?_) ?_
        · skip
          have h14 : a.tmps.getD 14 undef = .agg (vals x.1).toArray := hV.get 14 (by decide +kernel)
          have h18 : a.tmps.getD 18 undef = .agg (vals y.1).toArray := hV.get 18 (by decide +kernel)
          refine ⟨#[.agg (vals x.1).toArray, .agg (vals y.1).toArray], wanted_free rfl, by simp [execOp, resolve, invoke, go_sem, h14, h18], ?_⟩
          refine (hcmp.out w1).mono ?_
          rintro r u2 ⟨rfl, hb⟩; exact ⟨_, rfl, rfl, hb⟩
        refine OweAll.cons (owesK rfl rfl fun a w1 ha hG hV => ?_) ?_
        · skip
          have h19 : a.tmps.getD 19 undef = .int .i64 c := hV.get 19 (by decide +kernel)
          exact ⟨.bool (decide (0 ≤ c)), w1, wanted_free rfl, by simp [execOp, go_sem, h19], Below.refl _ _, rfl⟩
        exact OweAll.nil
        ) ?_
      intro f wz hG hv
      have e20 : f 20 = .bool (decide (0 ≤ c)) := hv 10 _ 20 rfl rfl
      rename_i hK
      refine hK _ _ ?_
      clear hK hv
      simp only [dsts, puts, List.filterMap_cons, List.filterMap_nil, List.foldl_cons, List.foldl_nil, Act.put, List.setIfInBounds_toArray, List.set_cons_succ, List.set_cons_zero, e20]
      clear e20
      have HG := Lib.hid (HB.out.trans (hG.mono HB.out.size))
      clear hG
      by_cases hc : 0 ≤ c
      · have t1 : decide (0 ≤ c) = true := decide_eq_true hc
        have hfin : R = false := HR.out.trans <| rs_stop (k := i) (by rw [Hsu.out, decide_eq_false_iff_not]; omega) (by omega)
        have Hfin := Lib.hid hfin
        clear hfin
        go_wp2_with fail
        go_ret
        exact ⟨by rw [Hfin.out]; rfl, HG.out⟩
      · have t1 : decide (0 ≤ c) = false := decide_eq_false hc
        have hnx : Hid (rs (L.map (·.1)) (i + 1) = true) := Lib.hid (by rw [Hsu.out, decide_eq_true_eq]; omega)
        go_wp2_with fail
        go_roundw
        case rel => exact ⟨i + 1, by omega, by go_num, hnx, Lib.hid (by omega), HG.out⟩
        case measure => simp [intOf]; omega
    · have hfin : R = true := by rw [HR.out]; have h := hin.out; have e : i = n - 1 := (by omega); rw [← e]; exact hrs.out
      have Hfin := Lib.hid hfin
      clear hfin
      have i2 : ¬ (i : Int) + 1 < n := by omega
      go_wp2_with fail
      go_ret
      exact ⟨by rw [Hfin.out]; rfl, hB⟩
end Go.Proofs.YtkejidmomnmdbaaDoor
