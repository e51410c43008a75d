import Derived.Test.YtepibfpdkjkdjaaDoorG1
import Derived.Test.YtepibfpdkjkdjaaDoorN6
import Derived.Test.YtepibfpdkjkdjaaDoorDrawR
namespace Go.Proofs.YtepibfpdkjkdjaaDoor
open Go.RowKit

/-- What a tipset weighs more. -/
def gw (p : Nat) (wins : Int) : Nat := lg p + lg p * wins.toNat / 10
theorem lg_le (p : Nat) (hp : p < 18446744073709551616) : lg p ≤ 16384 := by
  have h1 : (lb p).length ≤ 2 := lb_64 hp
  have h2 : ∀ k, (lb (p ^ (k + 1))).length ≤ 2 * (k + 1) := by
    intro k
    induction k with
    | zero => rw [Nat.pow_one]; omega
    | succ k ih => rw [Nat.pow_succ]; have := lb_mul (p ^ (k + 1)) p; omega
  have h3 := bl_le (h2 255)
  have e : lg p = bl (p ^ (255 + 1)) - 1 := rfl
  rw [e]
  omega

/-- The memory of Of. -/
def OfR (w : World) (L n gl : Nat) (q : Option Addr) (c : Nat) (wx : World) : Prop :=
  Boxed wx w.heap.size 25 (.slice none 0 0) ∧ Boxed wx gl 25 (.slice q n c) ∧ NatIn wx q c L ∧ Below w.heap.size w wx ∧ w.heap.size < gl ∧ (∀ a, q = some a → w.heap.size < a.block)
theorem OfR.below {w : World} {L n gl : Nat} {q : Option Addr} {c : Nat} {wx w' : World} (h : OfR w L n gl q c wx) (hb : Below wx.heap.size wx w') : OfR w L n gl q c w' := by
  obtain ⟨h1, h2, h3, h4, h5, h6⟩ := h
  exact ⟨Boxed.below' h1 hb h1.lt, Boxed.below' h2 hb h2.lt, h3.old hb, h4.trans (hb.mono h4.size), h5, h6⟩

set_option maxHeartbeats 4000000 in
theorem gof_any (p : Nat) (wins : Int) (w : World) (hp : Hid (p < 18446744073709551616)) (hw : Hid (wins ≤ 9223372036854775807)) :
    Calls Tryd.prog 46 #[.int .u64 p, .int .i64 wins] w (NatOut w (gw p wins)) := by
  obtain ⟨L, hL⟩ : ∃ L, L = lg p := ⟨_, rfl⟩
  have hLb : L ≤ 16384 := by rw [hL]; exact lg_le p hp.out
  obtain ⟨m, hm⟩ : ∃ m, m = wins.toNat := ⟨_, rfl⟩
  have e1 : max wins 0 = (m : Int) := by omega
  have hm64 : Hid (m < 18446744073709551616) := Lib.hid (by have := hw.out; omega)
  have hml : (lb m).length ≤ 2 := lb_64 hm64.out
  have e2 : IntKind.u64.wrap (m : Int) = (m : Int) := by have := hm64.out; rw [IntKind.wrap_u64]; omega
  have e3 : IntKind.u64.wrap (L : Int) = (L : Int) := by rw [IntKind.wrap_u64]; omega
  have hL64 : Hid (L < 18446744073709551616) := Lib.hid (by omega)
  have hLl : (lb L).length ≤ 2 := lb_64 hL64.out
  obtain ⟨u, hu⟩ : ∃ u, u = L * m := ⟨_, rfl⟩
  obtain ⟨v, hv⟩ : ∃ v, v = u / 10 := ⟨_, rfl⟩
  have hul : (lb u).length ≤ 4 := by rw [hu]; have := lb_mul L m; omega
  obtain ⟨z, hz⟩ : ∃ z, z = gw p wins := ⟨_, rfl⟩
  have hz2 : z = L + v := by rw [hz, hv, hu, hL, hm]; rfl
  rw [← hz]
  have HL := Lib.hid hL
  have Hm := Lib.hid hm
  have Hv := Lib.hid hv
  have Hu := Lib.hid hu
  have Hz := Lib.hid hz2
  clear hL hm hv hz hz2 hu
  have hlog := log_any p (w.alloc (.cells #[.slice none 0 0] 25)) hp
  rw [← HL.out] at hlog
  go_enter Tryd.func46, Tryd.ntmps46
  go_wp2_with fail
  refine hlog.mono ?_
  clear hlog
  rintro r w1 ⟨rfl, hb1⟩
  have k1 : Boxed w1 w.heap.size 25 (.slice none 0 0) := Boxed.below' (Boxed.new w _ _) hb1 (by simp)
  have hB1 : Below w.heap.size w w1 := ((Below.refl _ _).alloc (Nat.le_refl _) _).trans (hb1.mono (by simp))
  have hs1 : w.heap.size < w1.heap.size := k1.lt
  clear hb1
  go_wp2_with fail
  refine (nofn_any L w1 hL64).mono ?_
  rintro r w2 ⟨q, c, rfl, hN, hb, hf⟩
  have hR0 : OfR w L (lb L).length w2.heap.size q c (w2.alloc (.cells #[.slice q (lb L).length c] 25)) := by
    have hs := hb.size
    exact ⟨(Boxed.below' k1 hb k1.lt).alloc _, Boxed.new _ _ _, hN.alloc _, (hB1.trans (hb.mono hB1.size)).alloc (by omega) _, by omega, fun a e => by have := hf a e; omega⟩
  clear k1 hB1 hN hb hf hs1
  go_upto_region 2 with fail
  generalize w2.alloc (.cells #[.slice q (lb L).length c] 25) = W at hR0 ⊢
  generalize w2.heap.size = gl at hR0 ⊢
  -- region 2
  refine wp_region_puts2 (Γ := Option Nat) none (fun t vv γ w' => R.VR (
      match t with
      | 14 => .nat L
      | 15 => .eq (.int .i64 wins)
      | 16 => .eq (.int .i64 (m : Int))
      | 17 => .eq (.int .u64 (m : Int))
      | 18 => .nat m
      | 19 => .nat u
      | 20 => .tri v (.int .u32 ((u % 10 : Nat) : Int)) (.bool true)
      | 13 => .tri v (.int .u32 ((u % 10 : Nat) : Int)) (.bool true)
      | 21 => .nat v
      | 22 => .eq (.int .u32 ((u % 10 : Nat) : Int))
      | 23 => .eq (.bool true)
      | 6 => .ptr
      | 7 => .eq (.int .u32 ((u % 10 : Nat) : Int))
      | 8 => .eq (.bool true)
      | _ => .any) vv γ w') (R.UU 12 v) (R.GG W) 27 (by kernel_rfl) (by decide +kernel) rfl ⟨(Below.refl _ _).drew, fun g e => by cases e⟩ (by
    refine OweAll2.cons (R.owes2_val rfl rfl (by decide) fun γ a w1 ha hG hV hU => ?_) ?_
    · skip
      have h5 := ha.outer 5 (by decide +kernel)
      simp only [Act.eval] at h5
      have c5 := (Boxed.below' hR0.2.1 hG.b hR0.2.1.lt).cell
      exact ⟨.agg #[.slice q (lb L).length c], wanted_free rfl, by simp [execOp, go_sem, h5, c5], ⟨_, _, rfl, hR0.2.2.1.old hG.b, hG.far hR0.2.2.1⟩⟩
    refine OweAll2.cons (R.owes2_val rfl rfl (by decide) fun γ a w1 ha hG hV hU => ?_) ?_
    · skip
      have h1 := ha.outer 1 (by decide +kernel)
      simp only [Act.eval] at h1
      exact ⟨.int .i64 wins, wanted_free rfl, by simp [execOp, go_sem, h1], rfl⟩
    refine OweAll2.cons (R.owes2_val rfl rfl (by decide) fun γ a w1 ha hG hV hU => ?_) ?_
    · skip
      have h15 : a.tmps.getD 15 undef = (.int .i64 wins) := hV.get 15 (by decide +kernel)
      exact ⟨.int .i64 (m : Int), wanted_free rfl, by simp [execOp, resolve, invoke, builtin, go_sem, h15, e1], rfl⟩
    refine OweAll2.cons (R.owes2_val rfl rfl (by decide) fun γ a w1 ha hG hV hU => ?_) ?_
    · skip
      have h16 : a.tmps.getD 16 undef = (.int .i64 (m : Int)) := hV.get 16 (by decide +kernel)
      exact ⟨.int .u64 (m : Int), wanted_free rfl, by simp [execOp, go_sem, h16, e2], rfl⟩
    refine OweAll2.cons (R.owes2_call rfl rfl (by decide) 36 fun γ a w1 ha hG hV hU => ?_) ?_
    · skip
      have h17 : a.tmps.getD 17 undef = (.int .u64 (m : Int)) := hV.get 17 (by decide +kernel)
      refine ⟨#[.int .u64 (m : Int)], wanted_free rfl, by simp [execOp, resolve, invoke, go_sem, h17], ?_⟩
      refine (nofn_any m w1 hm64).mono ?_
      rintro r w2 ⟨qr, cr, rfl, hN, hb, hf⟩; exact ⟨_, rfl, ⟨qr, cr, rfl, hN, hG.fresh hf⟩, hb⟩
    refine OweAll2.cons (R.owes2_call rfl rfl (by decide) 24 fun γ a w1 ha hG hV hU => ?_) ?_
    · skip
      obtain ⟨q14, c14, h14, n14, o14⟩ : R.NG L (a.tmps.getD 14 undef) γ w1 := hV.get 14 (by decide +kernel)
      obtain ⟨q18, c18, h18, n18, o18⟩ : R.NG m (a.tmps.getD 18 undef) γ w1 := hV.get 18 (by decide +kernel)
      refine ⟨#[.agg #[.slice q14 (lb L).length c14], .agg #[.slice q18 (lb m).length c18]], wanted_free rfl, by simp [execOp, resolve, invoke, go_sem, h14, h18], ?_⟩
      have hmm := mul_any q14 q18 c14 c18 L m w1 n14 n18 (by omega) (by omega)
      rw [← Hu.out] at hmm
      refine hmm.mono ?_
      rintro r w2 ⟨qr, cr, rfl, hN, hb, hf⟩; exact ⟨_, rfl, ⟨qr, cr, rfl, hN, hG.fresh hf⟩, hb⟩
    refine OweAll2.cons (R.owes2_call rfl rfl (by decide) 29 fun γ a w1 ha hG hV hU => ?_) ?_
    · skip
      obtain ⟨q19, c19, h19, n19, o19⟩ : R.NG u (a.tmps.getD 19 undef) γ w1 := hV.get 19 (by decide +kernel)
      refine ⟨#[.agg #[.slice q19 (lb u).length c19], .int .u32 10], wanted_free rfl, by simp [execOp, resolve, invoke, go_sem, h19], ?_⟩
      have hdd := div_any q19 c19 u 10 w1 n19 (by omega) (by decide) (by decide)
      rw [← Hv.out] at hdd
      refine hdd.mono ?_
      rintro r w2 ⟨qr, cr, rfl, hN, hb, hf⟩; exact ⟨_, rfl, ⟨qr, cr, rfl, hN, hG.fresh hf⟩, hb⟩
    refine OweAll2.cons (R.owes2_val rfl rfl (by decide) fun γ a w1 ha hG hV hU => ?_) ?_
    · skip
      obtain ⟨q20, c20, h20, n20, o20⟩ : R.TG v (.int .u32 ((u % 10 : Nat) : Int)) (.bool true) (a.tmps.getD 20 undef) γ w1 := hV.get 20 (by decide +kernel)
      exact ⟨.tuple #[.agg #[.slice q20 (lb v).length c20], .int .u32 ((u % 10 : Nat) : Int), .bool true], wanted_free rfl, by simp [execOp, go_sem, h20], ⟨_, _, rfl, n20, o20⟩⟩
    refine OweAll2.cons (R.owes2_val rfl rfl (by decide) fun γ a w1 ha hG hV hU => ?_) ?_
    · skip
      obtain ⟨q13, c13, h13, n13, o13⟩ : R.TG v (.int .u32 ((u % 10 : Nat) : Int)) (.bool true) (a.tmps.getD 13 undef) γ w1 := hV.get 13 (by decide +kernel)
      exact ⟨.agg #[.slice q13 (lb v).length c13], wanted_free rfl, by simp [execOp, go_sem, h13], ⟨_, _, rfl, n13, o13⟩⟩
    refine OweAll2.cons (R.owes2_val rfl rfl (by decide) fun γ a w1 ha hG hV hU => ?_) ?_
    · skip
      obtain ⟨q13, c13, h13, n13, o13⟩ : R.TG v (.int .u32 ((u % 10 : Nat) : Int)) (.bool true) (a.tmps.getD 13 undef) γ w1 := hV.get 13 (by decide +kernel)
      exact ⟨.int .u32 ((u % 10 : Nat) : Int), wanted_free rfl, by simp [execOp, go_sem, h13], rfl⟩
    refine OweAll2.cons (R.owes2_val rfl rfl (by decide) fun γ a w1 ha hG hV hU => ?_) ?_
    · skip
      obtain ⟨q13, c13, h13, n13, o13⟩ : R.TG v (.int .u32 ((u % 10 : Nat) : Int)) (.bool true) (a.tmps.getD 13 undef) γ w1 := hV.get 13 (by decide +kernel)
      exact ⟨.bool true, wanted_free rfl, by simp [execOp, go_sem, h13], rfl⟩
    refine OweAll2.cons (R.owes2_alloc (t := 6) (z := .slice none 0 0) rfl rfl (by decide) rfl rfl ?_ (fun j p hp hj => (drawOk2_spec (md := .any) (N := 27) (by decide +kernel)).apart 11 j _ p 6 rfl hp hj rfl) ?_ ?_) ?_
    · intro x hx h
      split at h <;> first | contradiction | exact hx rfl
    · intro p hp
      obtain rfl := Option.some.inj hp
      exact ⟨⟨11, .data⟩, by simp, rfl, rfl⟩
    · intro a w1
      simp [execOp, go_sem]
    refine OweAll2.cons (R.owes2_store rfl rfl rfl fun γ a w1 ha hG hV => ?_) ?_
    · skip
      obtain ⟨g6, e6, h6, z6, b6⟩ : R.PG (a.tmps.getD 6 undef) γ w1 := hV.get 6 (by decide +kernel)
      obtain ⟨q21, c21, h21, n21, o21⟩ : R.NG v (a.tmps.getD 21 undef) γ w1 := hV.get 21 (by decide +kernel)
      have c6 := b6.cell
      have f6 := b6.frozen
      exact ⟨g6, q21, c21, e6, ⟨z6, b6⟩, n21, o21, by simp [execOp, go_sem, h6, h21, c6, f6]⟩
    refine OweAll2.cons (R.owes2_val rfl rfl (by decide) fun γ a w1 ha hG hV hU => ?_) ?_
    · skip
      have h22 : a.tmps.getD 22 undef = (.int .u32 ((u % 10 : Nat) : Int)) := hV.get 22 (by decide +kernel)
      exact ⟨.int .u32 ((u % 10 : Nat) : Int), wanted_free rfl, by simp [execOp, go_sem, h22], rfl⟩
    refine OweAll2.cons (R.owes2_val rfl rfl (by decide) fun γ a w1 ha hG hV hU => ?_) ?_
    · skip
      have h23 : a.tmps.getD 23 undef = (.bool true) := hV.get 23 (by decide +kernel)
      exact ⟨.bool true, wanted_free rfl, by simp [execOp, go_sem, h23], rfl⟩
    exact OweAll2.nil) ?_
  intro f γ W2 hG hv hU
  obtain ⟨gs, eg, h6, -⟩ : R.PG (f 6) γ W2 := hv 11 _ 6 rfl rfl
  have hu : R.UU 12 v 12 γ W2 := hU 12 _ rfl
  unfold R.UU at hu
  rw [if_pos rfl] at hu
  obtain ⟨gs', qs, cs, eg', kb, nb, -⟩ := hu
  have e : gs' = gs := by rw [eg] at eg'; exact (Option.some.inj eg').symm
  subst e
  rename_i hK
  refine hK _ _ ?_
  have hgs := (hG.g _ eg).1
  clear hK hv hU eg eg'
  replace hR0 := hR0.below hG.b
  clear hG
  simp only [dsts, puts, List.filterMap_cons, List.filterMap_nil, List.foldl_cons, List.foldl_nil, Act.put, List.setIfInBounds_toArray, List.set_cons_succ, List.set_cons_zero, h6]
  obtain ⟨k4, k5, nL, hB, hlt, hq⟩ := hR0
  have c5 := k5.cell
  have c6 := kb.cell
  have hvl : (lb v).length ≤ 100000 := Nat.le_trans (lb_le (show v ≤ u by rw [Hv.out]; exact Nat.div_le_self _ _)) (by omega)
  have hadd := add_any q qs c cs L v W2 nL nb (by omega) hvl
  rw [← Hz.out] at hadd
  clear c5 c6
  have c5 := k5.cell
  have c6 := kb.cell
  go_wp2_with fail
  refine hadd.mono ?_
  clear hadd
  rintro r w5 ⟨q5, cc5, rfl, n5, hb, hf⟩
  have k45 := Boxed.below' k4 hb k4.lt
  have hB5 := hB.trans (hb.mono hB.size)
  have hf5 : ∀ a, q5 = some a → w.heap.size < a.block := fun a e => by have := hf a e; have := k4.lt; omega
  have c4 := k45.cell
  have f4 := k45.frozen
  clear k4 k5 kb hb hf c5 c6 nb nL
  go_wp2_with fail
  have c7 := (k45.set (.slice q5 (lb z).length cc5)).cell
  refine bodyPost_ret (v := .agg #[.slice q5 (lb z).length cc5]) (by simp [results, Tryd.results46, go_sem, c7]) rfl ⟨q5, cc5, rfl, ?_, ?_, fun a e => by have := hf5 a e; omega⟩
  · exact n5.other ⟨w.heap.size, 0, none⟩ _ (fun a e => by have := hf5 a e; show a.block ≠ w.heap.size; omega)
  · exact hB5.setCell (p := ⟨w.heap.size, 0, none⟩) (Nat.le_refl _) _
end Go.Proofs.YtepibfpdkjkdjaaDoor
