/- Texts 4: what the laws lean on. -/
import Derived.Test.YtdiiechkhlbkcaaVQy3
import Derived.Deep.MidRow
namespace Go.Proofs.Ytdiiechkhlbkcaa
open Go.RowKit PS

abbrev Gh := Option Nat × Option Nat
structure G2 (Wb : World) (γ : Gh) (w : World) : Prop where
  m : Below Wb.heap.size Wb w
  a1 : ∀ g, γ.1 = some g → Wb.heap.size ≤ g ∧ ∃ Z : Array Value, Z.size = 3 ∧ w.heap[g]? = some (.cells Z 38 (0, 0))
  a2 : ∀ g, γ.2 = some g → Wb.heap.size ≤ g ∧ ∃ Z : Array Value, Z.size = 3 ∧ w.heap[g]? = some (.cells Z 38 (0, 0))
  ne : ∀ g g', γ.1 = some g → γ.2 = some g' → g ≠ g'
theorem G2.grow {Wb : World} {γ : Gh} {w w' : World} (h : G2 Wb γ w) (hb : Below w.heap.size w w') : G2 Wb γ w' := by
  refine ⟨h.m.trans (hb.mono h.m.size), fun g e => ?_, fun g e => ?_, h.ne⟩
  · obtain ⟨h1, Z, h2, h3⟩ := h.a1 g e; exact ⟨h1, Z, h2, (hb.block g (Array.getElem?_eq_some_iff.1 h3).1).trans h3⟩
  · obtain ⟨h1, Z, h2, h3⟩ := h.a2 g e; exact ⟨h1, Z, h2, (hb.block g (Array.getElem?_eq_some_iff.1 h3).1).trans h3⟩
theorem G2.store {Wb : World} {γ : Gh} {w : World} (h : G2 Wb γ w) {g : Nat} {Z Y : Array Value} (hg : w.heap[g]? = some (.cells Z 38 (0, 0))) (hlo : Wb.heap.size ≤ g) (hY : Y.size = 3) : G2 Wb γ (w.setRow g Y) := by
  have hk : ∀ g', Wb.heap.size ≤ g' ∧ (∃ Z : Array Value, Z.size = 3 ∧ w.heap[g']? = some (.cells Z 38 (0, 0))) → Wb.heap.size ≤ g' ∧ ∃ Z : Array Value, Z.size = 3 ∧ (w.setRow g Y).heap[g']? = some (.cells Z 38 (0, 0)) := by
    rintro g' ⟨h1, Z', h2, h3⟩
    by_cases e : g' = g
    · subst e; exact ⟨h1, Y, hY, setRow_heap _ _ _ _ _ _ hg⟩
    · exact ⟨h1, Z', h2, (setRow_other w _ _ Y e).trans h3⟩
  refine ⟨h.m.trans (((Mod.refl (fun _ => False) w).setRow (g := g) Y).to_below h.m.size (by rintro k hk (e | e) <;> first | exact e | omega)), fun g' e => hk g' (h.a1 g' e), fun g' e => hk g' (h.a2 g' e), h.ne⟩
theorem exec_store_rowA {P : Program} {o : Oper} {a : Act} {w : World} (ty : TypeId) (x y : Operand) (ho : o.op = .store ty x y)
    (g : Nat) (hx : a.eval x = .pointer (some ⟨g, 0, none⟩)) (t : TypeId) (old cs : Array Value) (hy : a.eval y = .agg cs) (hg : w.heap[g]? = some (.cells old t (0, 0))) (hsz : old.size = cs.size)
    (hi : (P.info? ty).map (·.size) = some cs.size) (h1 : ∀ v ∈ cs.toList, v.oneCell' = true) : (execOp a.eval o).run P w = .ok .skip (w.setRow g cs) := by
  have hst := run_storeCells_at P g 0 t cs.toList 0 old w hg (by simp; omega) h1
  have e : (old.toList.take (0 + 0) ++ cs.toList ++ old.toList.drop (0 + 0 + cs.toList.length)).toArray = cs := by
    have : old.toList.drop (0 + 0 + cs.toList.length) = [] := List.drop_eq_nil_of_le (by simp; omega)
    rw [this]; simp
  rw [e] at hst
  cases hq : P.info? ty with
  | none => simp [hq] at hi
  | some i =>
    have hs : i.size = cs.size := by simpa [hq] using hi
    have hv : (storeVar ty ⟨g, 0, none⟩ (.agg cs)).run P w = .ok () (w.setRow g cs) := by
      simp [storeVar, sizeOf, typeInfo, hq, hs, Value.cells, hst]
    unfold execOp
    simp only [ho, hx, hy, Instr.storeAt, Instr.sureAddr, Sem.run_bind, Sem.run_pure, Result.andThen_ok, hv]
def itemAt (w : World) (g off : Nat) (x : SI) : Prop := w.cell? ⟨g, off, none⟩ = some (.string ⟨x.1.toArray⟩) ∧ w.cell? ⟨g, off + 1, none⟩ = some (.int .i64 x.2.1) ∧ w.cell? ⟨g, off + 2, none⟩ = some (.string ⟨x.2.2.toArray⟩)
theorem exec_load_item {o : Oper} {a : Act} {w : World} (x : Operand) (ho : o.op = .load 38 x) (b off : Nat) (hx : a.eval x = .pointer (some ⟨b, off, none⟩)) {s : SI} (hc : itemAt w b off s) :
    (execOp a.eval o).run Try.prog w = .ok (.value (.agg #[.string ⟨s.1.toArray⟩, .int .i64 s.2.1, .string ⟨s.2.2.toArray⟩])) w := by
  have hl := run_loadVar_mid (P := Try.prog) w b off 38 [.string ⟨s.1.toArray⟩, .int .i64 s.2.1, .string ⟨s.2.2.toArray⟩] _ (fun j v hv => by
    have hj : j < 3 := (List.getElem?_eq_some_iff.1 hv).1
    match j, hj with
    | 0, _ => simp at hv; subst hv; exact hc.1
    | 1, _ => simp at hv; subst hv; exact hc.2.1
    | 2, _ => simp at hv; subst hv; exact hc.2.2) Try.underlying38 rfl (by kernel_rfl)
  unfold execOp
  simp only [ho, hx, Instr.loadAt, Instr.sureAddr, Sem.run_bind, Sem.run_pure, Result.andThen_ok, hl]
theorem itemAt.old {w w' : World} {g off : Nat} {x : SI} (h : itemAt w g off x) (hg : g < w.heap.size) (hb : Below w.heap.size w w') : itemAt w' g off x :=
  ⟨(World.cell?_of_block (hb.block g hg)).trans h.1, (World.cell?_of_block (hb.block g hg)).trans h.2.1, (World.cell?_of_block (hb.block g hg)).trans h.2.2⟩
theorem rput100 {ao : Option Addr} {c : Nat} {X : List SI} (xk : List UInt8) (xr : Int) (xv : List UInt8) {w : World} (hL : Rd encT w ao (sortS X)) (hn : X.length ≤ 40) (hX : ApS (X ++ [(xk, xr, xv)])) :
    Calls Try.prog 19 #[.slice ao X.length c, .int .i64 100, .agg #[.string ⟨xk.toArray⟩, .int .i64 xr, .string ⟨xv.toArray⟩]] w fun r w' => ∃ q c', r = .returned (.tuple #[.slice q (X.length + 1) c', .string ⟨#[]⟩, .bool false]) ∧ Rd encT w' q (sortS (X ++ [(xk, xr, xv)])) ∧ X.length + 1 ≤ c' ∧ Below w.heap.size w w' := by
  have hl := (sortS_perm X).length_eq
  have h100 := put100 hX hn
  have hp : putS (xk, xr, xv) (sortS X) = sortS (X ++ [(xk, xr, xv)]) := by
    unfold putM at h100
    split at h100
    · exact (Prod.mk.inj h100).1
    · simp at h100
  have hl2 := (sortS_perm (X ++ [(xk, xr, xv)])).length_eq
  rw [List.length_append] at hl2
  have := rput_anyC ao c (sortS X) 100 xk xr xv w hL (by omega) (by decide)
  rw [hl] at this
  refine this.mono ?_
  rintro r w' ⟨h1, _, hb⟩
  rw [hp] at h1
  obtain ⟨q, c', e, hR, hc⟩ := h1 (by simp at hl2; omega)
  simp at hl2
  exact ⟨q, c', by rw [e, hl2], hR, by omega, hb⟩
/-- What stands in the second loop. -/
structure OrR (w wr : World) (p b q bq : Nat) (M : Int) (D : List SI) (t gq : Nat) (j : Nat) (qw : Option Addr) : Prop where
  s1 : Same wr p b M (fewS M (D.take j))
  s2 : Same wr q bq M (fewS M (turnL D t j))
  wa : Rd encT wr qw (sortS (D.take j))
  ow : Rd encT wr (some ⟨gq, 0, none⟩) D
  m : Below w.heap.size w wr
  lo : w.heap.size ≤ b ∧ w.heap.size ≤ bq ∧ b ≠ bq ∧ p ≠ bq ∧ q ≠ b
theorem fewS_le (M : Int) (hM : 0 ≤ M) (X : List SI) (h : ApS X) : ((fewS M X).length : Int) ≤ M := by
  rw [fewS_eq M hM X h, List.length_take]; omega

theorem isK {p b : Nat} {M : Int} {L : List SI} {ao : Option Addr} {c m : Nat} {w : World} (hm : m = L.length) (h : Same w p b M L) (hL : Rd encT w ao L) :
    Calls Try.prog 16 #[.pointer (some ⟨p, 0, none⟩), .slice ao m c] w fun r w' => r = .returned (.bool true) ∧ Below w.heap.size w w' := by
  rw [hm]; exact is_any p b M L ao c w h hL
set_option maxRecDepth 20000 in
set_option maxHeartbeats 16000000 in
theorem order_walk (most : Int) (ao : Option Addr) (c : Nat) (A : List SI) (turn : Int) (w : World) (hA : Rd encT w ao A) (hok : ∀ a ∈ A, okT a) (hn : A.length ≤ 9223372036854775807) (htu : i64ok turn) :
    Calls Try.prog 4 #[.int .i64 most, .slice ao A.length c, .int .i64 turn] w fun e w' => e = .returned (.bool true) ∧ Below w.heap.size w w' := by
  obtain ⟨m1, e1⟩ : ∃ m, min most 64 = m := ⟨_, rfl⟩
  obtain ⟨M, e2⟩ : ∃ m, max 0 m1 = m := ⟨_, rfl⟩
  have E0 : Hid (0 ≤ M ∧ M ≤ 64) := Lib.hid (by omega)
  obtain ⟨n, hnA⟩ : ∃ n, n = A.length := ⟨_, rfl⟩
  have h63 : (n : Int) ≤ 9223372036854775807 := by omega
  rw [← hnA]
  have HN := Lib.hid hnA
  have HA := Lib.hid hA
  have HOK := Lib.hid hok
  have HTU := Lib.hid htu
  have HAW := Lib.hid (awake_any w)
  clear hnA hA hok hn htu
  go_enter Try.func4, Try.ntmps4
  go_wp2_with fail
  refine HAW.out.mono ?_
  rintro r w1 ⟨rfl, hb1⟩
  have HB1 := Lib.hid hb1
  clear hb1 HAW
  go_wp2_with fail
  clear e1 e2
  have H0 : Hid (AccR encT 38 w1 0 [] none 0 w1 ∧ ApS [] ∧ ∀ x ∈ ([] : List SI), x.1.length ≤ 1000000) := Lib.hid ⟨AccR.zero _ _ _, List.Pairwise.nil, fun x hx => by cases hx⟩
  go_loopw [7, 8] (fun s7 s8 wr => ∃ (i m : Nat) (D : List SI) (q : Option Addr) (cq : Nat), i ≤ n ∧ m ≤ 40 ∧ s8 = .int .i64 (i : Int) ∧ s7 = .slice q m cq ∧ Hid (AccR encT 38 w1 m D q cq wr ∧ ApS D ∧ ∀ x ∈ D, x.1.length ≤ 1000000)) (fun _ i _ => n - (intOf i).toNat)
  case atStart => exact ⟨0, 0, [], none, 0, Nat.zero_le _, Nat.zero_le _, rfl, rfl, H0⟩
  case round =>
    clear H0
    obtain ⟨i, m, D, q, cq, hi, hm40, rfl, rfl, HR⟩ := hrel
    by_cases hin : i < n ∧ m < 40
    · obtain ⟨hin, hm⟩ := hin
      have hil : i < A.length := by rw [← HN.out]; exact hin
      have hbw := HB1.out.trans (HR.out.1.m.mono HB1.out.size)
      obtain ⟨bs, off, rfl, hbs, c0, c1, c2⟩ := (HA.out.old hbw).it i hil
      have hka := HOK.out A[i] (List.getElem_mem hil)
      obtain ⟨y, hy⟩ : ∃ y, y = A[i] := ⟨_, rfl⟩
      rw [← hy] at c0 c1 c2 hka
      obtain ⟨yk, yr, yv⟩ := y
      simp only at c0 c1 c2
      have i0 : (0 : Int) ≤ i := by omega
      have i1 : (i : Int) < n := by omega
      have m40 : (m : Int) < 40 := by omega
      obtain ⟨kk, hkk⟩ : ∃ kk, kk = yk.take 4 := ⟨_, rfl⟩
      have HCUT : Hid (∀ w1, Calls Try.prog 8 #[.string ⟨yk.toArray⟩, .int .i64 4] w1 fun r w' => r = .returned (.string ⟨kk.toArray⟩) ∧ w' = w1) := Lib.hid (fun w1 => by rw [hkk]; exact cut_any yk 4 w1 hka.1 (by decide))
      have HKK : Hid (kk.length ≤ 1000000) := Lib.hid (by rw [hkk, List.length_take]; omega)
      have HBS := Lib.hid hbs
      have HC0 := Lib.hid c0
      have HC1 := Lib.hid c1
      have HC2 := Lib.hid c2
      have HI := Lib.hid hin
      have ksz : (Try.prog.info? 38).map (·.size) = some 3 := by kernel_rfl
      have ksz3 := ksz
      clear hil hka hy hkk hbw hin hm c0 c1 c2
      go_wp2_with fail
      have HG0 : Hid ((fun (j : Nat) (_ : Value) (w' : World) => Below wr.heap.size wr w' ∧ w'.heap.size = wr.heap.size + (if j = 0 then 0 else 1) ∧ (j = 1 → w'.heap[wr.heap.size]? = some (.cells #[.string ⟨#[]⟩, .int .i64 0, .string ⟨#[]⟩] 38 (0, 0))) ∧ (j = 2 → w'.heap[wr.heap.size]? = some (.cells #[.string ⟨kk.toArray⟩, .int .i64 yr, .string ⟨yv.toArray⟩] 38 (0, 0)))) 0 undef wr.drew) := Lib.hid ⟨(Below.refl _ _).drew, rfl, (fun h => absurd h (by omega)), (fun h => absurd h (by omega))⟩
      refine wp_region_chain (fun t v => match t with
        | 33 => v = .slice (some ⟨bs, off, none⟩) n c
        | 34 => v = .int .i64 (i : Int)
        | 35 => v = .pointer (some ⟨bs, off + i * 3, none⟩)
        | 36 => v = .pointer (some ⟨bs, off + i * 3, none⟩)
        | 37 => v = .string ⟨yk.toArray⟩
        | 38 => v = .string ⟨kk.toArray⟩
        | 39 => v = .slice (some ⟨bs, off, none⟩) n c
        | 40 => v = .int .i64 (i : Int)
        | 41 => v = .pointer (some ⟨bs, off + i * 3, none⟩)
        | 42 => v = .pointer (some ⟨bs, off + i * 3 + 1, none⟩)
        | 43 => v = .int .i64 yr
        | 44 => v = .slice (some ⟨bs, off, none⟩) n c
        | 45 => v = .int .i64 (i : Int)
        | 46 => v = .pointer (some ⟨bs, off + i * 3, none⟩)
        | 47 => v = .pointer (some ⟨bs, off + i * 3 + 2, none⟩)
        | 48 => v = .string ⟨yv.toArray⟩
        | 49 => v = .agg #[.string ⟨kk.toArray⟩, .int .i64 yr, .string ⟨yv.toArray⟩]
        | 9 => v = .pointer (some ⟨wr.heap.size, 0, none⟩)
        | _ => True) (fun (j : Nat) (_ : Value) (w' : World) => Below wr.heap.size wr w' ∧ w'.heap.size = wr.heap.size + (if j = 0 then 0 else 1) ∧ (j = 1 → w'.heap[wr.heap.size]? = some (.cells #[.string ⟨#[]⟩, .int .i64 0, .string ⟨#[]⟩] 38 (0, 0))) ∧ (j = 2 → w'.heap[wr.heap.size]? = some (.cells #[.string ⟨kk.toArray⟩, .int .i64 yr, .string ⟨yv.toArray⟩] 38 (0, 0)))) [17, 18] 136 (by kernel_rfl) (by decide +kernel) rfl (by decide +kernel) (by decide) (by decide) HG0.out (by
        refine OweAllC.cons (owesC_val 1 (by decide +kernel) (by decide) rfl rfl fun k' a w1 x hk ha hG hV => ?_) ?_
        · skip
          have h1 := ha.outer 1 (by decide +kernel)
          simp only [Act.eval] at h1
          exact ⟨.slice (some ⟨bs, off, none⟩) n c, wanted_free rfl, by simp [execOp, go_sem, h1], rfl⟩
        refine OweAllC.cons (owesC_val 1 (by decide +kernel) (by decide) rfl rfl fun k' a w1 x hk ha hG hV => ?_) ?_
        · skip
          have h8 := ha.outer 8 (by decide +kernel)
          simp only [Act.eval] at h8
          exact ⟨.int .i64 (i : Int), wanted_free rfl, by simp [execOp, go_sem, h8], rfl⟩
        refine OweAllC.cons (owesC_val 1 (by decide +kernel) (by decide) rfl rfl fun k' a w1 x hk ha hG hV => ?_) ?_
        · skip
          have h33 : a.tmps.getD 33 undef = .slice (some ⟨bs, off, none⟩) n c := hV.get 33 (by decide +kernel)
          have h34 : a.tmps.getD 34 undef = .int .i64 (i : Int) := hV.get 34 (by decide +kernel)
          exact ⟨.pointer (some ⟨bs, off + i * 3, none⟩), wanted_free rfl, by simp [execOp, go_sem, h33, h34, Try.underlying26, i0, i1, ksz], rfl⟩
        refine OweAllC.cons (owesC_val 1 (by decide +kernel) (by decide) rfl rfl fun k' a w1 x hk ha hG hV => ?_) ?_
        · skip
          have h35 : a.tmps.getD 35 undef = .pointer (some ⟨bs, off + i * 3, none⟩) := hV.get 35 (by decide +kernel)
          exact ⟨.pointer (some ⟨bs, off + i * 3, none⟩), wanted_free rfl, by simp [execOp, go_sem, h35], rfl⟩
        refine OweAllC.cons (owesC_val 1 (by decide +kernel) (by decide) rfl rfl fun k' a w1 x hk ha hG hV => ?_) ?_
        · skip
          have h36 : a.tmps.getD 36 undef = .pointer (some ⟨bs, off + i * 3, none⟩) := hV.get 36 (by decide +kernel)
          have cc := (World.cell?_of_block (hG.1.block bs HBS.out)).trans HC0.out
          exact ⟨.string ⟨yk.toArray⟩, wanted_free rfl, by simp [execOp, go_sem, h36, cc], rfl⟩
        refine OweAllC.cons (owesC_side 1 (by decide +kernel) (by decide) rfl rfl 8 fun k' a w1 x hk ha hG hV => ?_) ?_
        · skip
          have h37 : a.tmps.getD 37 undef = .string ⟨yk.toArray⟩ := hV.get 37 (by decide +kernel)
          refine ⟨#[.string ⟨yk.toArray⟩, .int .i64 4], wanted_free rfl, by simp [execOp, resolve, invoke, go_sem, h37], ?_⟩
          refine (HCUT.out w1).mono ?_
          rintro e u2 ⟨rfl, rfl⟩; exact ⟨_, rfl, rfl, hG⟩
        refine OweAllC.cons (owesC_val 1 (by decide +kernel) (by decide) rfl rfl fun k' a w1 x hk ha hG hV => ?_) ?_
        · skip
          have h1 := ha.outer 1 (by decide +kernel)
          simp only [Act.eval] at h1
          exact ⟨.slice (some ⟨bs, off, none⟩) n c, wanted_free rfl, by simp [execOp, go_sem, h1], rfl⟩
        refine OweAllC.cons (owesC_val 1 (by decide +kernel) (by decide) rfl rfl fun k' a w1 x hk ha hG hV => ?_) ?_
        · skip
          have h8 := ha.outer 8 (by decide +kernel)
          simp only [Act.eval] at h8
          exact ⟨.int .i64 (i : Int), wanted_free rfl, by simp [execOp, go_sem, h8], rfl⟩
        refine OweAllC.cons (owesC_val 1 (by decide +kernel) (by decide) rfl rfl fun k' a w1 x hk ha hG hV => ?_) ?_
        · skip
          have h39 : a.tmps.getD 39 undef = .slice (some ⟨bs, off, none⟩) n c := hV.get 39 (by decide +kernel)
          have h40 : a.tmps.getD 40 undef = .int .i64 (i : Int) := hV.get 40 (by decide +kernel)
          exact ⟨.pointer (some ⟨bs, off + i * 3, none⟩), wanted_free rfl, by simp [execOp, go_sem, h39, h40, Try.underlying26, i0, i1, ksz], rfl⟩
        refine OweAllC.cons (owesC_val 1 (by decide +kernel) (by decide) rfl rfl fun k' a w1 x hk ha hG hV => ?_) ?_
        · skip
          have h41 : a.tmps.getD 41 undef = .pointer (some ⟨bs, off + i * 3, none⟩) := hV.get 41 (by decide +kernel)
          exact ⟨.pointer (some ⟨bs, off + i * 3 + 1, none⟩), wanted_free rfl, by simp [execOp, go_sem, h41], rfl⟩
        refine OweAllC.cons (owesC_val 1 (by decide +kernel) (by decide) rfl rfl fun k' a w1 x hk ha hG hV => ?_) ?_
        · skip
          have h42 : a.tmps.getD 42 undef = .pointer (some ⟨bs, off + i * 3 + 1, none⟩) := hV.get 42 (by decide +kernel)
          have cc := (World.cell?_of_block (hG.1.block bs HBS.out)).trans HC1.out
          exact ⟨.int .i64 yr, wanted_free rfl, by simp [execOp, go_sem, h42, cc], rfl⟩
        refine OweAllC.cons (owesC_val 1 (by decide +kernel) (by decide) rfl rfl fun k' a w1 x hk ha hG hV => ?_) ?_
        · skip
          have h1 := ha.outer 1 (by decide +kernel)
          simp only [Act.eval] at h1
          exact ⟨.slice (some ⟨bs, off, none⟩) n c, wanted_free rfl, by simp [execOp, go_sem, h1], rfl⟩
        refine OweAllC.cons (owesC_val 1 (by decide +kernel) (by decide) rfl rfl fun k' a w1 x hk ha hG hV => ?_) ?_
        · skip
          have h8 := ha.outer 8 (by decide +kernel)
          simp only [Act.eval] at h8
          exact ⟨.int .i64 (i : Int), wanted_free rfl, by simp [execOp, go_sem, h8], rfl⟩
        refine OweAllC.cons (owesC_val 1 (by decide +kernel) (by decide) rfl rfl fun k' a w1 x hk ha hG hV => ?_) ?_
        · skip
          have h44 : a.tmps.getD 44 undef = .slice (some ⟨bs, off, none⟩) n c := hV.get 44 (by decide +kernel)
          have h45 : a.tmps.getD 45 undef = .int .i64 (i : Int) := hV.get 45 (by decide +kernel)
          exact ⟨.pointer (some ⟨bs, off + i * 3, none⟩), wanted_free rfl, by simp [execOp, go_sem, h44, h45, Try.underlying26, i0, i1, ksz], rfl⟩
        refine OweAllC.cons (owesC_val 1 (by decide +kernel) (by decide) rfl rfl fun k' a w1 x hk ha hG hV => ?_) ?_
        · skip
          have h46 : a.tmps.getD 46 undef = .pointer (some ⟨bs, off + i * 3, none⟩) := hV.get 46 (by decide +kernel)
          exact ⟨.pointer (some ⟨bs, off + i * 3 + 2, none⟩), wanted_free rfl, by simp [execOp, go_sem, h46], rfl⟩
        refine OweAllC.cons (owesC_val 1 (by decide +kernel) (by decide) rfl rfl fun k' a w1 x hk ha hG hV => ?_) ?_
        · skip
          have h47 : a.tmps.getD 47 undef = .pointer (some ⟨bs, off + i * 3 + 2, none⟩) := hV.get 47 (by decide +kernel)
          have cc := (World.cell?_of_block (hG.1.block bs HBS.out)).trans HC2.out
          exact ⟨.string ⟨yv.toArray⟩, wanted_free rfl, by simp [execOp, go_sem, h47, cc], rfl⟩
        refine OweAllC.cons (owesC_val 1 (by decide +kernel) (by decide) rfl rfl fun k' a w1 x hk ha hG hV => ?_) ?_
        · skip
          have h38 : a.tmps.getD 38 undef = .string ⟨kk.toArray⟩ := hV.get 38 (by decide +kernel)
          have h43 : a.tmps.getD 43 undef = .int .i64 yr := hV.get 43 (by decide +kernel)
          have h48 : a.tmps.getD 48 undef = .string ⟨yv.toArray⟩ := hV.get 48 (by decide +kernel)
          have g38 : a.tmps[38]?.getD undef = .string ⟨kk.toArray⟩ := by simpa using h38
          have g43 : a.tmps[43]?.getD undef = .int .i64 yr := by simpa using h43
          have g48 : a.tmps[48]?.getD undef = .string ⟨yv.toArray⟩ := by simpa using h48
          exact ⟨.agg #[.string ⟨kk.toArray⟩, .int .i64 yr, .string ⟨yv.toArray⟩], wanted_free rfl, by simp [execOp, go_sem, h38, h43, h48, g38, g43, g48], rfl⟩
        refine OweAllC.cons (owesC_mem 0 rfl rfl rfl fun a w1 x ha hG hx hV => ?_) ?_
        · skip
          have hs : w1.heap.size = wr.heap.size := by simpa using hG.2.1
          refine ⟨.pointer (some ⟨wr.heap.size, 0, none⟩), w1.alloc (.cells #[.string ⟨#[]⟩, .int .i64 0, .string ⟨#[]⟩] 38), wanted_free rfl, by simp [execOp, go_sem, hs], rfl, hG.1.alloc hG.1.size _, by simp [hs], fun _ => by rw [← hs]; exact heap_alloc_new _ _, (fun h => absurd h (by omega))⟩
        refine OweAllC.cons (owesC_store 1 rfl rfl rfl fun a w1 x ha hG hx hV => ?_) ?_
        · skip
          have h9 : a.tmps.getD 9 undef = .pointer (some ⟨wr.heap.size, 0, none⟩) := hV.get 9 (by decide +kernel)
          have h49 : a.tmps.getD 49 undef = .agg #[.string ⟨kk.toArray⟩, .int .i64 yr, .string ⟨yv.toArray⟩] := hV.get 49 (by decide +kernel)
          have hh := hG.2.2.1 rfl
          refine ⟨w1.setRow wr.heap.size #[.string ⟨kk.toArray⟩, .int .i64 yr, .string ⟨yv.toArray⟩], wanted_free rfl, exec_store_rowA 38 (.tmp 9) (.tmp 49) rfl wr.heap.size h9 38 _ _ h49 hh rfl ksz3 (by intro v hv; simp at hv; rcases hv with rfl | rfl | rfl <;> rfl), ?_, ?_, (fun h => absurd h (by omega)), fun _ => setRow_heap _ _ _ _ _ _ hh⟩
          · exact ((Mod.of_below hG.1).setRow _).to_below (Nat.le_refl _) (by rintro k hk (h | h) <;> omega)
          · have := hG.2.1; simp [World.setRow] at this ⊢; exact this
        exact OweAllC.nil
        ) ?_
      intro f wz xz hG hx hv
      have e9 : f 9 = .pointer (some ⟨wr.heap.size, 0, none⟩) := hv 17 _ 9 rfl rfl
      refine moves_back (P := Try.prog) (ops := #[]) f _ _ _ ?_
      simp only [dsts, List.filterMap_cons, List.filterMap_nil, List.map_cons, List.map_nil]
      rw [e9]
      clear hv hx
      unfold mv
      clear e9
      have HRZ := Lib.hid (HR.out.1.below hG.1)
      have hcz := hG.2.2.2 rfl
      have y0 : wz.cell? ⟨wr.heap.size, 0, none⟩ = some (.string ⟨kk.toArray⟩) := by unfold World.cell?; rw [hcz]; rfl
      have HCZ := Lib.hid hcz
      have hget := rget_any q cq D kk wz HRZ.out.s.rd (by rw [HRZ.out.len]; omega)
      rw [HRZ.out.len] at hget
      have HGET := Lib.hid hget
      clear hG hcz hget ksz ksz3
      generalize wr.heap.size = g at y0 HCZ ⊢
      go_wp2_with fail
      refine HGET.out.mono ?_
      rintro e u2 ⟨⟨z, rfl, hz1, hz2⟩, hb2⟩
      have hc2 := (hb2.block _ (Array.getElem?_eq_some_iff.1 HCZ.out).1).trans HCZ.out
      have z0 : u2.cell? ⟨g, 0, none⟩ = some (.string ⟨kk.toArray⟩) := by unfold World.cell?; rw [hc2]; rfl
      have z1 : u2.cell? ⟨g, 1, none⟩ = some (.int .i64 yr) := by unfold World.cell?; rw [hc2]; rfl
      have z2 : u2.cell? ⟨g, 2, none⟩ = some (.string ⟨yv.toArray⟩) := by unfold World.cell?; rw [hc2]; rfl
      have hgl : g < u2.heap.size := (Array.getElem?_eq_some_iff.1 hc2).1
      have HR2 := Lib.hid (HRZ.out.below hb2)
      have HZ := Lib.hid (And.intro hz1 hz2)
      clear hz1 hz2 hb2 hc2 HGET HCZ HRZ y0
      cases hh : hasS kk D with
      | true =>
        have zz : ¬ z < 0 := by have := HZ.out.1 hh; omega
        have zz2 : 0 ≤ z := HZ.out.1 hh
        clear hh
        go_wp2_with fail
        have hin := HI.out
        go_roundw
        case rel => exact ⟨i + 1, m, D, q, cq, by omega, by omega, by go_num, rfl, Lib.hid ⟨HR2.out, HR.out.2⟩⟩
        case measure => simp [intOf]; omega
      | false =>
        have zz : z < 0 := HZ.out.2 hh
        have HHH := Lib.hid hh
        obtain ⟨x1, x2, x3⟩ := HR2.out.oneT (kk, yr, yv)
        simp only at x1 x2 x3
        have X1 := Lib.hid x1
        have X2 := Lib.hid x2
        have X3 := Lib.hid x3
        have HLn := Lib.hid HR2.out.len
        have hmb : m + 1 ≤ 100000000000 := by omega
        clear hh x1 x2 x3
        go_wp2_with (at_builtin; refine wpList_pushR encT rfl (.tmp 55) (.tmp 57) 26 38 (.agg #[.string ⟨#[]⟩, .int .i64 0, .string ⟨#[]⟩]) 40 rfl Try.underlying26 info_item rfl (by decide) q cq m D HLn.out rfl X1.out (some ⟨u2.heap.size, 0, none⟩) 1 1 [(kk, yr, yv)] rfl rfl X2.out hmb ?_; intro q9 c9 w9 hP9; have HP9 := Lib.hid (X3.out _ _ _ hP9); clear hP9; go_frame)
        have hin := HI.out
        go_roundw
        case rel =>
          refine ⟨i + 1, m + 1, D ++ [(kk, yr, yv)], q9, c9, by omega, by omega, by go_num, rfl, Lib.hid ⟨HP9.out, ?_, ?_⟩⟩
          · refine List.pairwise_append.2 ⟨HR.out.2.1, List.pairwise_singleton _ _, fun x hx y hy => ?_⟩
            rw [List.mem_singleton.1 hy]
            intro e
            have h1 : hasS kk D = true := by unfold hasS; rw [List.any_eq_true]; exact ⟨x, hx, by simpa using e⟩
            rw [HHH.out] at h1; cases h1
          · intro x hx
            rcases List.mem_append.1 hx with hx | hx
            · exact HR.out.2.2 x hx
            · rw [List.mem_singleton.1 hx]; exact HKK.out
        case measure => simp [intOf]; omega
    · by_cases hn2 : i < n
      · have i1 : (i : Int) < n := by omega
        have i2 : ¬ (m : Int) < 40 := by omega
        clear hin hn2
        by_cases hm0 : m = 0
        · have HBF : Hid (Below w.heap.size w wr) := Lib.hid (HB1.out.trans (HR.out.1.m.mono HB1.out.size))
          first
            | (exfalso; omega)
            | (subst hm0; go_wp2_with fail; go_ret; exact ⟨rfl, HBF.out⟩)
        · have HBF : Hid (Below w.heap.size w wr) := Lib.hid (HB1.out.trans (HR.out.1.m.mono HB1.out.size))
          have hm1 : 0 < m := by omega
          obtain ⟨gq, hq⟩ : ∃ g, q = some ⟨g, 0, none⟩ := by
            rcases HR.out.1.s.shape with ⟨_, e, _⟩ | ⟨g, e, _⟩
            · have := HR.out.1.len; rw [e] at this; simp at this; omega
            · exact ⟨g, e⟩
          subst hq
          have HDL : Hid (D.length = m) := Lib.hid HR.out.1.len
          have HAP : Hid (ApS D) := Lib.hid HR.out.2.1
          have HKY := Lib.hid HR.out.2.2
          have HRD := Lib.hid HR.out.1.s.rd
          have mz : (m : Int) ≠ 0 := by omega
          have mz2 : ((m : Int) == 0) = false := by simpa using mz
          obtain ⟨r1, T1⟩ : ∃ r, Int.tmod turn (m : Int) = r := ⟨_, rfl⟩
          have r1a : r1 < (m : Int) := by rw [← T1]; exact Int.tmod_lt_of_pos _ (by omega)
          have r1b : -(m : Int) < r1 := by rw [← T1]; exact Int.lt_tmod_of_pos _ (by omega)
          obtain ⟨tn, ht⟩ : ∃ tn : Nat, tn = ((r1 + (m : Int)) % (m : Int)).toNat := ⟨_, rfl⟩
          have ht0 : 0 ≤ (r1 + (m : Int)) % (m : Int) := Int.emod_nonneg _ mz
          have htl : (r1 + (m : Int)) % (m : Int) < m := Int.emod_lt_of_pos _ (by omega)
          have T2 : Int.tmod (r1 + (m : Int)) (m : Int) = (tn : Int) := by rw [Int.tmod_eq_emod_of_nonneg (by omega), ht]; omega
          have htm : tn < m := by omega
          have HT := Lib.hid htm
          have r1c : -9223372036854775808 ≤ r1 + (m : Int) := by omega
          have r1d : r1 + (m : Int) ≤ 9223372036854775807 := by omega
          have r1e : -9223372036854775808 ≤ r1 := by omega
          have r1f : r1 ≤ 9223372036854775807 := by omega
          have r2 : wrap64 (r1 + (m : Int)) = r1 + (m : Int) := IntWalk.wrap64_in _ ⟨r1c, r1d⟩
          have r3 : wrap64 r1 = r1 := IntWalk.wrap64_in _ ⟨r1e, r1f⟩
          have r4 : wrap64 (tn : Int) = (tn : Int) := IntWalk.wrap64_in _ (by omega)
          have HNEW := Lib.hid (fun w1 => newS M M M w1 (by have := E0.out; omega) (by have := E0.out; omega))
          clear ht ht0 htl htm HR
          go_wp2_with fail
          refine (HNEW.out wr).mono ?_
          rintro e v1 ⟨p, b, rfl, hS1, hv1, hp1, hb1⟩
          have HS1 := Lib.hid hS1
          have HV1 := Lib.hid hv1
          have HL1 := Lib.hid (And.intro hp1 hb1)
          clear hS1 hv1 hp1 hb1
          go_wp2_with fail
          refine (HNEW.out v1).mono ?_
          rintro e v2 ⟨p2, b2, rfl, hS2, hv2, hp2, hb2⟩
          have HR0 : Hid (0 ≤ 0 ∧ OrR w v2 p b p2 b2 M D tn gq 0 none) := Lib.hid ⟨Nat.le_refl _, by
            have hm1 := HBF.out.trans (HV1.out.mono HBF.out.size)
            have hm2 := hm1.trans (hv2.mono hm1.size)
            have g1 := HS1.out.at_.plt
            have g2 := HS1.out.at_.blt
            have g3 := HL1.out
            have g4 := HV1.out.size
            have g5 := HBF.out.size
            refine ⟨by rw [List.take_zero]; exact HS1.out.old hv2, by rw [show turnL D tn 0 = [] by simp [turnL]]; exact hS2, Rd.nil _ _, (HRD.out.old HV1.out).old hv2, hm2, ?_⟩
            refine ⟨?_, ?_, ?_, ?_, ?_⟩ <;> omega⟩
          clear hS2 hv2 hp2 hb2 HS1 HL1 HNEW HRD HV1
          have m0 : (0 : Int) ≤ m := by omega
          have mm : (m : Int) ≤ 40 := by omega
          go_wp2_with fail
          clear T1 T2 r1a r1b r1c r1d r1e r1f r2 r3 mz2
          go_loopw [13, 81] (fun s13 s81 wr => ∃ (j : Nat) (qw : Option Addr) (cw : Nat), j ≤ m ∧ s81 = .int .i64 (j : Int) ∧ s13 = .slice qw j cw ∧ Hid (j ≤ cw ∧ OrR w wr p b p2 b2 M D tn gq j qw)) (fun _ j _ => m - (intOf j).toNat)
          case atStart => exact ⟨0, none, 0, Nat.zero_le _, rfl, rfl, HR0⟩
          case round =>
            clear HR0
            obtain ⟨j, qw, cw, hj, rfl, rfl, HO⟩ := hrel
            by_cases hjm : j < m
            · have hjl : j < D.length := by rw [HDL.out]; exact hjm
              have hsl : turnI m tn j < D.length := by rw [HDL.out]; exact turnI_lt (by omega)
              obtain ⟨sg, hsg⟩ : ∃ s, s = turnI m tn j := ⟨_, rfl⟩
              rw [← hsg] at hsl
              have hX := HO.out.2.ow.it j hjl
              have hZ := HO.out.2.ow.it sg hsl
              obtain ⟨xb, xo, xe, xl, x0, x1, x2⟩ := hX
              simp only [Option.some.injEq, Addr.mk.injEq] at xe
              obtain ⟨rfl, rfl, _⟩ := xe
              obtain ⟨zb, zo, ze, zl, z0, z1, z2⟩ := hZ
              simp only [Option.some.injEq, Addr.mk.injEq] at ze
              obtain ⟨rfl, rfl, _⟩ := ze
              simp only [Nat.zero_add] at x0 x1 x2 z0 z1 z2
              have HTK : Hid (D.take (j + 1) = D.take j ++ [D[j]]) := Lib.hid (List.take_succ_eq_append_getElem hjl)
              have HTL : Hid (turnL D tn (j + 1) = turnL D tn j ++ [D[sg]]) := Lib.hid (by rw [turnL_succ, HDL.out, ← hsg, getD_eq _ _ hsl])
              have hkx := HKY.out D[j] (List.getElem_mem hjl)
              have hkz := HKY.out D[sg] (List.getElem_mem hsl)
              obtain ⟨X, hXe⟩ : ∃ X, X = D[j] := ⟨_, rfl⟩
              obtain ⟨Z, hZe⟩ : ∃ Z, Z = D[sg] := ⟨_, rfl⟩
              rw [← hXe] at x0 x1 x2 HTK hkx
              rw [← hZe] at z0 z1 z2 HTL hkz
              obtain ⟨xk, xr, xv⟩ := X
              obtain ⟨zk, zr, zv⟩ := Z
              simp only at x0 x1 x2 z0 z1 z2
              have HO1 : Hid (∀ w', Below wr.heap.size wr w' → itemAt w' gq (j * 3) (xk, xr, xv)) := Lib.hid (fun w' hb => (show itemAt wr gq (j * 3) (xk, xr, xv) from ⟨x0, x1, x2⟩).old xl hb)
              have HO2 : Hid (∀ w', Below wr.heap.size wr w' → itemAt w' gq (sg * 3) (zk, zr, zv)) := Lib.hid (fun w' hb => (show itemAt wr gq (sg * 3) (zk, zr, zv) from ⟨z0, z1, z2⟩).old zl hb)
              have htm := HT.out
              have j0 : (0 : Int) ≤ j := by omega
              have j1 : (j : Int) < m := by omega
              have g0 : (0 : Int) ≤ sg := by omega
              have g1 : (sg : Int) < m := by rw [HDL.out] at hsl; omega
              have s1 : IntKind.i64.wrap ((m : Int) - 1) = (m : Int) - 1 := IntWalk.i64_in _ (by omega)
              have s2 : IntKind.i64.wrap ((m : Int) - 1 - j) = (m : Int) - 1 - j := IntWalk.i64_in _ (by omega)
              have s3 : IntKind.i64.wrap ((m : Int) - 1 - j + tn) = (m : Int) - 1 - j + tn := IntWalk.i64_in _ (by omega)
              have s4 : Int.tmod ((m : Int) - 1 - j + tn) (m : Int) = (sg : Int) := by
                rw [Int.tmod_eq_emod_of_nonneg (by omega), hsg]
                unfold turnI
                have e : ((m : Int) - 1 - j + tn) = ((m - 1 - j + tn : Nat) : Int) := by omega
                rw [e]; rfl
              have s5 : (m : Int) ≠ 0 := mz
              have s7 : ¬ m = 0 := hm0
              have s6 : IntKind.i64.wrap (sg : Int) = (sg : Int) := IntWalk.i64_in _ (by omega)
              have ksz3 : (Try.prog.info? 38).map (·.size) = some 3 := by kernel_rfl
              have HAPJ : Hid (ApS (D.take j ++ [(xk, xr, xv)]) ∧ (D.take j).length = j) := Lib.hid ⟨by rw [← HTK.out]; exact apS_take HAP.out _, by rw [List.length_take]; omega⟩
              have HAPT : Hid (ApS (turnL D tn j)) := Lib.hid (turnL_apart HAP.out (by rw [HDL.out]; exact htm) (by omega))
              have HP1 : Hid (∀ w', Same w' p b M (fewS M (D.take j)) → Calls Try.prog 18 #[.pointer (some ⟨p, 0, none⟩), .string ⟨xk.toArray⟩, .int .i64 xr, .string ⟨xv.toArray⟩] w' fun e w'' => (∃ g d, e = .returned (.tuple #[.string g, .bool d])) ∧ Same w'' p b M (fewS M (D.take (j + 1))) ∧ Mod (fun i => i = b) w' w'') := Lib.hid (fun w' h => by
                refine (h.putC (fewS_le M E0.out.1 _ (apS_take HAP.out j)) E0.out.2 xk hkx xr xv).mono ?_
                rintro e w'' ⟨rfl, h2, h3⟩
                exact ⟨⟨_, _, rfl⟩, by rw [HTK.out, fewS_snoc]; exact h2, h3⟩)
              have HP2 : Hid (∀ w', Same w' p2 b2 M (fewS M (turnL D tn j)) → Calls Try.prog 18 #[.pointer (some ⟨p2, 0, none⟩), .string ⟨zk.toArray⟩, .int .i64 zr, .string ⟨zv.toArray⟩] w' fun e w'' => (∃ g d, e = .returned (.tuple #[.string g, .bool d])) ∧ Same w'' p2 b2 M (fewS M (turnL D tn (j + 1))) ∧ Mod (fun i => i = b2) w' w'') := Lib.hid (fun w' h => by
                refine (h.putC (fewS_le M E0.out.1 _ HAPT.out) E0.out.2 zk hkz zr zv).mono ?_
                rintro e w'' ⟨rfl, h2, h3⟩
                exact ⟨⟨_, _, rfl⟩, by rw [HTL.out, fewS_snoc]; exact h2, h3⟩)
              have HJ := Lib.hid hjm
              clear hjl hsl hsg xl zl x0 x1 x2 z0 z1 z2 hkx hkz hXe hZe htm hjm
              go_wp2_with fail
              refine wp_region_puts2 (Γ := Gh) (none, none) (fun t v γ _ => match t with
                | 84 => v = .slice (some ⟨gq, 0, none⟩) m cq
                | 85 => v = .int .i64 (j : Int)
                | 86 => v = .pointer (some ⟨gq, j * 3, none⟩)
                | 87 => v = .agg #[.string ⟨xk.toArray⟩, .int .i64 xr, .string ⟨xv.toArray⟩]
                | 88 => v = .slice (some ⟨gq, 0, none⟩) m cq
                | 89 => v = .int .i64 (m : Int)
                | 90 => v = .int .i64 ((m : Int) - 1)
                | 91 => v = .int .i64 (j : Int)
                | 92 => v = .int .i64 ((m : Int) - 1 - j)
                | 93 => v = .int .i64 (tn : Int)
                | 94 => v = .int .i64 ((m : Int) - 1 - j + tn)
                | 95 => v = .int .i64 (m : Int)
                | 96 => v = .int .i64 (sg : Int)
                | 97 => v = .pointer (some ⟨gq, sg * 3, none⟩)
                | 98 => v = .agg #[.string ⟨zk.toArray⟩, .int .i64 zr, .string ⟨zv.toArray⟩]
                | 15 => ∃ g, γ.1 = some g ∧ v = .pointer (some ⟨g, 0, none⟩)
                | 16 => ∃ g, γ.2 = some g ∧ v = .pointer (some ⟨g, 0, none⟩)
                | _ => True) (fun i γ w' => match i with | 17 => ∃ g, γ.1 = some g ∧ w'.heap[g]? = some (.cells #[.string ⟨xk.toArray⟩, .int .i64 xr, .string ⟨xv.toArray⟩] 38 (0, 0)) | 18 => ∃ g, γ.2 = some g ∧ w'.heap[g]? = some (.cells #[.string ⟨zk.toArray⟩, .int .i64 zr, .string ⟨zv.toArray⟩] 38 (0, 0)) | _ => True) (G2 wr) 136 (by kernel_rfl) (by decide +kernel) rfl ⟨(Below.refl _ _).drew, (fun g e => by cases e), (fun g e => by cases e), (fun g g' e => by cases e)⟩ (by
              refine OweAll2.cons (owes2_val rfl rfl (fun _ _ => trivial) fun γ a w1 ha hGG hV => ?_) ?_
              · have hG := hGG.m
                have h7 := ha.outer 7 (by decide +kernel)
                simp only [Act.eval] at h7
                exact ⟨.slice (some ⟨gq, 0, none⟩) m cq, wanted_free rfl, by simp [execOp, go_sem, h7], rfl⟩
              refine OweAll2.cons (owes2_val rfl rfl (fun _ _ => trivial) fun γ a w1 ha hGG hV => ?_) ?_
              · have hG := hGG.m
                have h14 := ha.outer 14 (by decide +kernel)
                simp only [Act.eval] at h14
                exact ⟨.int .i64 (j : Int), wanted_free rfl, by simp [execOp, go_sem, h14], rfl⟩
              refine OweAll2.cons (owes2_val rfl rfl (fun _ _ => trivial) fun γ a w1 ha hGG hV => ?_) ?_
              · have hG := hGG.m
                have h84 : a.tmps.getD 84 undef = .slice (some ⟨gq, 0, none⟩) m cq := hV.get 84 (by decide +kernel)
                have h85 : a.tmps.getD 85 undef = .int .i64 (j : Int) := hV.get 85 (by decide +kernel)
                exact ⟨.pointer (some ⟨gq, j * 3, none⟩), wanted_free rfl, by simp [execOp, go_sem, h84, h85, Try.underlying26, ksz3, j0, j1], rfl⟩
              refine OweAll2.cons (owes2_val rfl rfl (fun _ _ => trivial) fun γ a w1 ha hGG hV => ?_) ?_
              · have hG := hGG.m
                have h86 : a.tmps.getD 86 undef = .pointer (some ⟨gq, j * 3, none⟩) := hV.get 86 (by decide +kernel)
                exact ⟨.agg #[.string ⟨xk.toArray⟩, .int .i64 xr, .string ⟨xv.toArray⟩], wanted_free rfl, exec_load_item (.tmp 86) rfl gq (j * 3) h86 (HO1.out w1 hG), rfl⟩
              refine OweAll2.cons (owes2_val rfl rfl (fun _ _ => trivial) fun γ a w1 ha hGG hV => ?_) ?_
              · have hG := hGG.m
                have h7 := ha.outer 7 (by decide +kernel)
                simp only [Act.eval] at h7
                exact ⟨.slice (some ⟨gq, 0, none⟩) m cq, wanted_free rfl, by simp [execOp, go_sem, h7], rfl⟩
              refine OweAll2.cons (owes2_val rfl rfl (fun _ _ => trivial) fun γ a w1 ha hGG hV => ?_) ?_
              · have hG := hGG.m
                have h10 := ha.outer 10 (by decide +kernel)
                simp only [Act.eval] at h10
                exact ⟨.int .i64 (m : Int), wanted_free rfl, by simp [execOp, go_sem, h10], rfl⟩
              refine OweAll2.cons (owes2_val rfl rfl (fun _ _ => trivial) fun γ a w1 ha hGG hV => ?_) ?_
              · have hG := hGG.m
                have h89 : a.tmps.getD 89 undef = .int .i64 (m : Int) := hV.get 89 (by decide +kernel)
                exact ⟨.int .i64 ((m : Int) - 1), wanted_free rfl, by simp [execOp, go_sem, h89, s1], rfl⟩
              refine OweAll2.cons (owes2_val rfl rfl (fun _ _ => trivial) fun γ a w1 ha hGG hV => ?_) ?_
              · have hG := hGG.m
                have h14 := ha.outer 14 (by decide +kernel)
                simp only [Act.eval] at h14
                exact ⟨.int .i64 (j : Int), wanted_free rfl, by simp [execOp, go_sem, h14], rfl⟩
              refine OweAll2.cons (owes2_val rfl rfl (fun _ _ => trivial) fun γ a w1 ha hGG hV => ?_) ?_
              · have hG := hGG.m
                have h90 : a.tmps.getD 90 undef = .int .i64 ((m : Int) - 1) := hV.get 90 (by decide +kernel)
                have h91 : a.tmps.getD 91 undef = .int .i64 (j : Int) := hV.get 91 (by decide +kernel)
                exact ⟨.int .i64 ((m : Int) - 1 - j), wanted_free rfl, by simp [execOp, go_sem, h90, h91, s2], rfl⟩
              refine OweAll2.cons (owes2_val rfl rfl (fun _ _ => trivial) fun γ a w1 ha hGG hV => ?_) ?_
              · have hG := hGG.m
                have h2 := ha.outer 2 (by decide +kernel)
                simp only [Act.eval] at h2
                exact ⟨.int .i64 (tn : Int), wanted_free rfl, by simp [execOp, go_sem, h2], rfl⟩
              refine OweAll2.cons (owes2_val rfl rfl (fun _ _ => trivial) fun γ a w1 ha hGG hV => ?_) ?_
              · have hG := hGG.m
                have h92 : a.tmps.getD 92 undef = .int .i64 ((m : Int) - 1 - j) := hV.get 92 (by decide +kernel)
                have h93 : a.tmps.getD 93 undef = .int .i64 (tn : Int) := hV.get 93 (by decide +kernel)
                exact ⟨.int .i64 ((m : Int) - 1 - j + tn), wanted_free rfl, by simp [execOp, go_sem, h92, h93, s3], rfl⟩
              refine OweAll2.cons (owes2_val rfl rfl (fun _ _ => trivial) fun γ a w1 ha hGG hV => ?_) ?_
              · have hG := hGG.m
                have h10 := ha.outer 10 (by decide +kernel)
                simp only [Act.eval] at h10
                exact ⟨.int .i64 (m : Int), wanted_free rfl, by simp [execOp, go_sem, h10], rfl⟩
              refine OweAll2.cons (owes2_val rfl rfl (fun _ _ => trivial) fun γ a w1 ha hGG hV => ?_) ?_
              · have hG := hGG.m
                have h94 : a.tmps.getD 94 undef = .int .i64 ((m : Int) - 1 - j + tn) := hV.get 94 (by decide +kernel)
                have h95 : a.tmps.getD 95 undef = .int .i64 (m : Int) := hV.get 95 (by decide +kernel)
                exact ⟨.int .i64 (sg : Int), wanted_free rfl, by simp [execOp, go_sem, h94, h95, s4, s5, s6, s7], rfl⟩
              refine OweAll2.cons (owes2_val rfl rfl (fun _ _ => trivial) fun γ a w1 ha hGG hV => ?_) ?_
              · have hG := hGG.m
                have h88 : a.tmps.getD 88 undef = .slice (some ⟨gq, 0, none⟩) m cq := hV.get 88 (by decide +kernel)
                have h96 : a.tmps.getD 96 undef = .int .i64 (sg : Int) := hV.get 96 (by decide +kernel)
                exact ⟨.pointer (some ⟨gq, sg * 3, none⟩), wanted_free rfl, by simp [execOp, go_sem, h88, h96, Try.underlying26, ksz3, g0, g1], rfl⟩
              refine OweAll2.cons (owes2_val rfl rfl (fun _ _ => trivial) fun γ a w1 ha hGG hV => ?_) ?_
              · have hG := hGG.m
                have h97 : a.tmps.getD 97 undef = .pointer (some ⟨gq, sg * 3, none⟩) := hV.get 97 (by decide +kernel)
                exact ⟨.agg #[.string ⟨zk.toArray⟩, .int .i64 zr, .string ⟨zv.toArray⟩], wanted_free rfl, exec_load_item (.tmp 97) rfl gq (sg * 3) h97 (HO2.out w1 hG), rfl⟩
              refine OweAll2.cons (owes2_mem [17, 18] (by decide +kernel) (by decide +kernel) rfl rfl fun γ a w2 ha hG hV => ?_) ?_
              · have hb : Below w2.heap.size w2 (w2.alloc (.cells #[.string ⟨#[]⟩, .int .i64 0, .string ⟨#[]⟩] 38)) := (Below.refl _ _).alloc (Nat.le_refl _) _
                have hG2 := hG.grow hb
                refine ⟨.pointer (some ⟨w2.heap.size, 0, none⟩), w2.alloc (.cells #[.string ⟨#[]⟩, .int .i64 0, .string ⟨#[]⟩] 38), (some w2.heap.size, γ.2), wanted_free rfl, by simp [execOp, go_sem], ⟨_, rfl, rfl⟩, trivial, ?_, ?_, ?_⟩
                · exact ⟨hG2.m, fun g e => by cases e; exact ⟨hG.m.size, _, rfl, heap_alloc_new _ _⟩, hG2.a2, fun g g' e e' => by cases e; obtain ⟨_, Z, _, h⟩ := hG.a2 g' e'; have := (Array.getElem?_eq_some_iff.1 h).1; omega⟩
                · intro t' x ht h
                  split at h <;> first | exact h | exact absurd rfl ht | trivial
                · intro j' hj hji h
                  split at h <;> first | exact absurd hj (by decide) | trivial
              refine OweAll2.cons (owes2_mem [17, 18] (by decide +kernel) (by decide +kernel) rfl rfl fun γ a w2 ha hG hV => ?_) ?_
              · have hb : Below w2.heap.size w2 (w2.alloc (.cells #[.string ⟨#[]⟩, .int .i64 0, .string ⟨#[]⟩] 38)) := (Below.refl _ _).alloc (Nat.le_refl _) _
                have hG2 := hG.grow hb
                refine ⟨.pointer (some ⟨w2.heap.size, 0, none⟩), w2.alloc (.cells #[.string ⟨#[]⟩, .int .i64 0, .string ⟨#[]⟩] 38), (γ.1, some w2.heap.size), wanted_free rfl, by simp [execOp, go_sem], ⟨_, rfl, rfl⟩, trivial, ?_, ?_, ?_⟩
                · exact ⟨hG2.m, hG2.a1, fun g e => by cases e; exact ⟨hG.m.size, _, rfl, heap_alloc_new _ _⟩, fun g g' e e' => by cases e'; obtain ⟨_, Z, _, h⟩ := hG.a1 g e; have := (Array.getElem?_eq_some_iff.1 h).1; omega⟩
                · intro t' x ht h
                  split at h <;> first | exact h | exact absurd rfl ht | trivial
                · intro j' hj hji h
                  split at h <;> first | exact absurd hj (by decide) | trivial
              refine OweAll2.cons (owes2_store [18] (by decide +kernel) rfl rfl fun γ a w2 ha hG hV => ?_) ?_
              · obtain ⟨g, eg, h5⟩ : ∃ g, γ.1 = some g ∧ a.tmps.getD 15 undef = .pointer (some ⟨g, 0, none⟩) := hV.get 15 (by decide +kernel)
                have h6 : a.tmps.getD 87 undef = .agg #[.string ⟨xk.toArray⟩, .int .i64 xr, .string ⟨xv.toArray⟩] := hV.get 87 (by decide +kernel)
                obtain ⟨hlo, Z, hZ, hbx⟩ := hG.a1 g eg
                refine ⟨w2.setRow g #[.string ⟨xk.toArray⟩, .int .i64 xr, .string ⟨xv.toArray⟩], γ, wanted_free rfl, exec_store_rowA 38 (.tmp 15) (.tmp 87) rfl g h5 38 Z _ h6 hbx (by rw [hZ]; rfl) ksz3 (by intro v hv; simp at hv; rcases hv with rfl | rfl | rfl <;> rfl), ⟨g, eg, setRow_heap _ _ _ _ _ _ hbx⟩, hG.store hbx hlo rfl, fun t' x h => (by split at h <;> first | exact h | trivial), ?_⟩
                intro j' hj hji h
                split at h <;> first | exact absurd rfl hji | exact absurd (by decide) hj | trivial
              refine OweAll2.cons (owes2_store [] (by decide +kernel) rfl rfl fun γ a w2 ha hG hV => ?_) ?_
              · obtain ⟨g, eg, h5⟩ : ∃ g, γ.2 = some g ∧ a.tmps.getD 16 undef = .pointer (some ⟨g, 0, none⟩) := hV.get 16 (by decide +kernel)
                have h6 : a.tmps.getD 98 undef = .agg #[.string ⟨zk.toArray⟩, .int .i64 zr, .string ⟨zv.toArray⟩] := hV.get 98 (by decide +kernel)
                obtain ⟨hlo, Z, hZ, hbx⟩ := hG.a2 g eg
                refine ⟨w2.setRow g #[.string ⟨zk.toArray⟩, .int .i64 zr, .string ⟨zv.toArray⟩], γ, wanted_free rfl, exec_store_rowA 38 (.tmp 16) (.tmp 98) rfl g h5 38 Z _ h6 hbx (by rw [hZ]; rfl) ksz3 (by intro v hv; simp at hv; rcases hv with rfl | rfl | rfl <;> rfl), ⟨g, eg, setRow_heap _ _ _ _ _ _ hbx⟩, hG.store hbx hlo rfl, fun t' x h => (by split at h <;> first | exact h | trivial), ?_⟩
                intro j' hj hji h
                split at h
                · obtain ⟨g', e', hB⟩ := h; exact ⟨g', e', (setRow_other _ _ _ _ (hG.ne g' g e' eg)).trans hB⟩
                · exact absurd rfl hji
                · trivial
              exact OweAll2.nil
              ) ?_
              intro f γ wz hGG hv hU
              obtain ⟨g5, eg5, e15⟩ : ∃ g, γ.1 = some g ∧ f 15 = .pointer (some ⟨g, 0, none⟩) := hv 15 _ 15 rfl rfl
              obtain ⟨g6, eg6, e16⟩ : ∃ g, γ.2 = some g ∧ f 16 = .pointer (some ⟨g, 0, none⟩) := hv 16 _ 16 rfl rfl
              obtain ⟨g5', eg5', bx5⟩ : ∃ g, γ.1 = some g ∧ wz.heap[g]? = some (.cells #[.string ⟨xk.toArray⟩, .int .i64 xr, .string ⟨xv.toArray⟩] 38 (0, 0)) := hU 17 _ rfl
              obtain ⟨g6', eg6', bx6⟩ : ∃ g, γ.2 = some g ∧ wz.heap[g]? = some (.cells #[.string ⟨zk.toArray⟩, .int .i64 zr, .string ⟨zv.toArray⟩] 38 (0, 0)) := hU 18 _ rfl
              obtain rfl : g5' = g5 := Option.some.inj (eg5'.symm.trans eg5)
              obtain rfl : g6' = g6 := Option.some.inj (eg6'.symm.trans eg6)
              have hG := hGG.m
              refine moves_back (P := Try.prog) (ops := #[]) f _ _ _ ?_
              simp only [dsts, List.filterMap_cons, List.filterMap_nil, List.map_cons, List.map_nil]
              rw [e15, e16]
              clear hv hU hGG eg5 eg6 eg5' eg6'
              unfold mv
              clear e15 e16
              have HB := Lib.hid hG
              have HOz := HO.out.2
              have HS1 := HOz.s1.old hG
              have HS2 := HOz.s2.old hG
              have a0 : wz.cell? ⟨g5', 0, none⟩ = some (.string ⟨xk.toArray⟩) := by unfold World.cell?; rw [bx5]; rfl
              have a1 : wz.cell? ⟨g5', 1, none⟩ = some (.int .i64 xr) := by unfold World.cell?; rw [bx5]; rfl
              have a2 : wz.cell? ⟨g5', 2, none⟩ = some (.string ⟨xv.toArray⟩) := by unfold World.cell?; rw [bx5]; rfl
              have HPA := Lib.hid (HP1.out wz HS1)
              have HS1' := Lib.hid HS1
              have HS2' := Lib.hid HS2
              have HX5 := Lib.hid bx5
              have HX6 := Lib.hid bx6
              clear hG HOz HS1 HS2 bx5 bx6 s1 s2 s3 s4 s6 s7 ksz3 HP1 HO1 HO2
              go_wp2_with fail
              refine HPA.out.mono ?_
              rintro e u1 ⟨⟨ga, da, rfl⟩, hT1, hm1⟩
              have HT1 := Lib.hid hT1
              have HM1 := Lib.hid hm1
              have bx6b := (hm1.block g6' (Array.getElem?_eq_some_iff.1 HX6.out).1 (HS1'.out.at_.2.notCells HX6.out)).trans HX6.out
              have c0 : u1.cell? ⟨g6', 0, none⟩ = some (.string ⟨zk.toArray⟩) := by unfold World.cell?; rw [bx6b]; rfl
              have c1 : u1.cell? ⟨g6', 1, none⟩ = some (.int .i64 zr) := by unfold World.cell?; rw [bx6b]; rfl
              have c2 : u1.cell? ⟨g6', 2, none⟩ = some (.string ⟨zv.toArray⟩) := by unfold World.cell?; rw [bx6b]; rfl
              have hlo := HO.out.2.lo
              have hS2b := HS2'.out.kept hm1 (fun e => hlo.2.2.2.2 e) (fun e => hlo.2.2.1 e.symm)
              have HPB := Lib.hid (HP2.out u1 hS2b)
              have HS2b := Lib.hid hS2b
              have HX5b := Lib.hid ((hm1.block g5' (Array.getElem?_eq_some_iff.1 HX5.out).1 (HS1'.out.at_.2.notCells HX5.out)).trans HX5.out)
              clear hT1 hm1 bx6b hlo hS2b HPA a0 a1 a2 HP2
              go_wp2_with fail
              refine HPB.out.mono ?_
              rintro e u2 ⟨⟨gb, db, rfl⟩, hT2, hm2⟩
              have HT2 := Lib.hid hT2
              have HM2 := Lib.hid hm2
              have bx5c := (hm2.block g5' (Array.getElem?_eq_some_iff.1 HX5b.out).1 (HS2b.out.at_.2.notCells HX5b.out)).trans HX5b.out
              have d0 : u2.cell? ⟨g5', 0, none⟩ = some (.string ⟨xk.toArray⟩) := by unfold World.cell?; rw [bx5c]; rfl
              have d1 : u2.cell? ⟨g5', 1, none⟩ = some (.int .i64 xr) := by unfold World.cell?; rw [bx5c]; rfl
              have d2 : u2.cell? ⟨g5', 2, none⟩ = some (.string ⟨xv.toArray⟩) := by unfold World.cell?; rw [bx5c]; rfl
              have hwa : Rd encT u2 qw (sortS (D.take j)) := ((HO.out.2.wa.old HB.out).mapMod HS1'.out.at_.2 HM1.out).mapMod HS2b.out.at_.2 hm2
              have how : Rd encT u2 (some ⟨gq, 0, none⟩) D := ((HO.out.2.ow.old HB.out).mapMod HS1'.out.at_.2 HM1.out).mapMod HS2b.out.at_.2 hm2
              have hrp := rput100 (c := cw) xk xr xv hwa (by rw [HAPJ.out.2]; omega) HAPJ.out.1
              rw [HAPJ.out.2, ← HTK.out] at hrp
              have HRP := Lib.hid hrp
              have HOW := Lib.hid how
              have HBU : Hid (Below w.heap.size w u2) := Lib.hid (by
                have l := HO.out.2.lo
                have t1 := HO.out.2.m.trans (HB.out.mono HO.out.2.m.size)
                have t2 := t1.trans (HM1.out.to_below t1.size (by rintro k hk rfl; omega))
                exact t2.trans (hm2.to_below t2.size (by rintro k hk rfl; omega)))
              clear hT2 hm2 bx5c hwa how hrp HPB c0 c1 c2
              go_wp2_with fail
              refine HRP.out.mono ?_
              rintro e u3 ⟨q3, c3, rfl, hr3, hc3, hb3⟩
              have HFI : Hid (j + 1 ≤ c3 ∧ OrR w u3 p b p2 b2 M D tn gq (j + 1) q3) := Lib.hid ⟨hc3, by
                have l := HO.out.2.lo
                exact ⟨(HT1.out.kept HM2.out (fun e => l.2.2.2.1 e) (fun e => l.2.2.1 e)).old hb3, HT2.out.old hb3, hr3, HOW.out.old hb3, HBU.out.trans (hb3.mono HBU.out.size), l⟩⟩
              clear hr3 hc3 hb3 HRP d0 d1 d2
              go_wp2_with fail
              have hjm := HJ.out
              go_roundw
              case rel => exact ⟨j + 1, q3, c3, by omega, by go_num, rfl, HFI⟩
              case measure => simp [intOf]; omega
            · obtain rfl : j = m := by omega
              obtain ⟨K, hK⟩ : ∃ K : Nat, (K : Int) = min M (j : Int) := ⟨(min M (j : Int)).toNat, by have := E0.out; omega⟩
              have e5 : min M (j : Int) = (K : Int) := hK.symm
              have hDj : D.take j = D := List.take_of_length_le (by rw [HDL.out]; exact Nat.le_refl _)
              have hsl := (sortS_perm D).length_eq
              have HFW : Hid (fewS M D = (sortS D).take K ∧ fewS M (turnL D tn j) = (sortS D).take K ∧ ((sortS D).take K).length = K) := Lib.hid (by
                have hE := E0.out
                have h1 : (sortS D).take M.toNat = (sortS D).take K := by
                  by_cases hMj : M ≤ (j : Int)
                  · have : M.toNat = K := by omega
                    rw [this]
                  · rw [List.take_of_length_le (by rw [hsl, HDL.out]; omega), List.take_of_length_le (by rw [hsl, HDL.out]; omega)]
                have hp := turnL_perm HAP.out (t := tn) (by rw [HDL.out]; exact HT.out)
                rw [HDL.out] at hp
                refine ⟨by rw [fewS_eq M hE.1 D HAP.out, h1], ?_, by rw [List.length_take, hsl, HDL.out]; omega⟩
                rw [fewS_eq M hE.1 _ (turnL_apart HAP.out (by rw [HDL.out]; exact HT.out) (by rw [HDL.out]; exact Nat.le_refl _)), sortS_eq hp ((hp.symm.pairwise_iff (fun {_ _} h => Ne.symm h)).1 HAP.out), h1])
              have k3 : (0 : Int) ≤ (K : Int) := by omega
              have k4 : (K : Int) ≤ (cw : Int) := by have := HO.out.1; omega
              have HS1 : Hid (Same wr p b M ((sortS D).take K)) := Lib.hid (by have := HO.out.2.s1; rw [hDj, HFW.out.1] at this; exact this)
              have HS2 : Hid (Same wr p2 b2 M ((sortS D).take K)) := Lib.hid (by have := HO.out.2.s2; rw [HFW.out.2.1] at this; exact this)
              have hrw := HO.out.2.wa
              rw [hDj] at hrw
              have HI1 := Lib.hid (isK (c := cw) HFW.out.2.2.symm HS1.out (hrw.take K))
              have HI2 : Hid (∀ w', Below wr.heap.size wr w' → Calls Try.prog 16 #[.pointer (some ⟨p2, 0, none⟩), .slice qw K cw] w' fun r w'' => r = .returned (.bool true) ∧ Below w'.heap.size w' w'') := Lib.hid (fun w' hb => isK (c := cw) HFW.out.2.2.symm (HS2.out.old hb) ((hrw.take K).old hb))
              have HBW2 := Lib.hid HO.out.2.m
              clear hK hDj hsl hrw HO HS1 HS2
              go_wp2_with fail
              refine HI1.out.mono ?_
              rintro e u1 ⟨rfl, hb1⟩
              have HI3 := Lib.hid (HI2.out u1 hb1)
              have HBU := Lib.hid (HBW2.out.trans (hb1.mono HBW2.out.size))
              clear hb1 HI2
              go_wp2_with fail
              refine HI3.out.mono ?_
              rintro e u2 ⟨rfl, hb2⟩
              have HBZ := Lib.hid (HBU.out.trans (hb2.mono HBU.out.size))
              clear hb2
              go_wp2_with fail
              go_ret
              exact ⟨rfl, HBZ.out⟩
      · have i1 : ¬ (i : Int) < n := by omega
        clear hin hn2
        by_cases hm0 : m = 0
        · have HBF : Hid (Below w.heap.size w wr) := Lib.hid (HB1.out.trans (HR.out.1.m.mono HB1.out.size))
          first
            | (exfalso; omega)
            | (subst hm0; go_wp2_with fail; go_ret; exact ⟨rfl, HBF.out⟩)
        · have HBF : Hid (Below w.heap.size w wr) := Lib.hid (HB1.out.trans (HR.out.1.m.mono HB1.out.size))
          have hm1 : 0 < m := by omega
          obtain ⟨gq, hq⟩ : ∃ g, q = some ⟨g, 0, none⟩ := by
            rcases HR.out.1.s.shape with ⟨_, e, _⟩ | ⟨g, e, _⟩
            · have := HR.out.1.len; rw [e] at this; simp at this; omega
            · exact ⟨g, e⟩
          subst hq
          have HDL : Hid (D.length = m) := Lib.hid HR.out.1.len
          have HAP : Hid (ApS D) := Lib.hid HR.out.2.1
          have HKY := Lib.hid HR.out.2.2
          have HRD := Lib.hid HR.out.1.s.rd
          have mz : (m : Int) ≠ 0 := by omega
          have mz2 : ((m : Int) == 0) = false := by simpa using mz
          obtain ⟨r1, T1⟩ : ∃ r, Int.tmod turn (m : Int) = r := ⟨_, rfl⟩
          have r1a : r1 < (m : Int) := by rw [← T1]; exact Int.tmod_lt_of_pos _ (by omega)
          have r1b : -(m : Int) < r1 := by rw [← T1]; exact Int.lt_tmod_of_pos _ (by omega)
          obtain ⟨tn, ht⟩ : ∃ tn : Nat, tn = ((r1 + (m : Int)) % (m : Int)).toNat := ⟨_, rfl⟩
          have ht0 : 0 ≤ (r1 + (m : Int)) % (m : Int) := Int.emod_nonneg _ mz
          have htl : (r1 + (m : Int)) % (m : Int) < m := Int.emod_lt_of_pos _ (by omega)
          have T2 : Int.tmod (r1 + (m : Int)) (m : Int) = (tn : Int) := by rw [Int.tmod_eq_emod_of_nonneg (by omega), ht]; omega
          have htm : tn < m := by omega
          have HT := Lib.hid htm
          have r1c : -9223372036854775808 ≤ r1 + (m : Int) := by omega
          have r1d : r1 + (m : Int) ≤ 9223372036854775807 := by omega
          have r1e : -9223372036854775808 ≤ r1 := by omega
          have r1f : r1 ≤ 9223372036854775807 := by omega
          have r2 : wrap64 (r1 + (m : Int)) = r1 + (m : Int) := IntWalk.wrap64_in _ ⟨r1c, r1d⟩
          have r3 : wrap64 r1 = r1 := IntWalk.wrap64_in _ ⟨r1e, r1f⟩
          have r4 : wrap64 (tn : Int) = (tn : Int) := IntWalk.wrap64_in _ (by omega)
          have HNEW := Lib.hid (fun w1 => newS M M M w1 (by have := E0.out; omega) (by have := E0.out; omega))
          clear ht ht0 htl htm HR
          go_wp2_with fail
          refine (HNEW.out wr).mono ?_
          rintro e v1 ⟨p, b, rfl, hS1, hv1, hp1, hb1⟩
          have HS1 := Lib.hid hS1
          have HV1 := Lib.hid hv1
          have HL1 := Lib.hid (And.intro hp1 hb1)
          clear hS1 hv1 hp1 hb1
          go_wp2_with fail
          refine (HNEW.out v1).mono ?_
          rintro e v2 ⟨p2, b2, rfl, hS2, hv2, hp2, hb2⟩
          have HR0 : Hid (0 ≤ 0 ∧ OrR w v2 p b p2 b2 M D tn gq 0 none) := Lib.hid ⟨Nat.le_refl _, by
            have hm1 := HBF.out.trans (HV1.out.mono HBF.out.size)
            have hm2 := hm1.trans (hv2.mono hm1.size)
            have g1 := HS1.out.at_.plt
            have g2 := HS1.out.at_.blt
            have g3 := HL1.out
            have g4 := HV1.out.size
            have g5 := HBF.out.size
            refine ⟨by rw [List.take_zero]; exact HS1.out.old hv2, by rw [show turnL D tn 0 = [] by simp [turnL]]; exact hS2, Rd.nil _ _, (HRD.out.old HV1.out).old hv2, hm2, ?_⟩
            refine ⟨?_, ?_, ?_, ?_, ?_⟩ <;> omega⟩
          clear hS2 hv2 hp2 hb2 HS1 HL1 HNEW HRD HV1
          have m0 : (0 : Int) ≤ m := by omega
          have mm : (m : Int) ≤ 40 := by omega
          go_wp2_with fail
          clear T1 T2 r1a r1b r1c r1d r1e r1f r2 r3 mz2
          go_loopw [13, 81] (fun s13 s81 wr => ∃ (j : Nat) (qw : Option Addr) (cw : Nat), j ≤ m ∧ s81 = .int .i64 (j : Int) ∧ s13 = .slice qw j cw ∧ Hid (j ≤ cw ∧ OrR w wr p b p2 b2 M D tn gq j qw)) (fun _ j _ => m - (intOf j).toNat)
          case atStart => exact ⟨0, none, 0, Nat.zero_le _, rfl, rfl, HR0⟩
          case round =>
            clear HR0
            obtain ⟨j, qw, cw, hj, rfl, rfl, HO⟩ := hrel
            by_cases hjm : j < m
            · have hjl : j < D.length := by rw [HDL.out]; exact hjm
              have hsl : turnI m tn j < D.length := by rw [HDL.out]; exact turnI_lt (by omega)
              obtain ⟨sg, hsg⟩ : ∃ s, s = turnI m tn j := ⟨_, rfl⟩
              rw [← hsg] at hsl
              have hX := HO.out.2.ow.it j hjl
              have hZ := HO.out.2.ow.it sg hsl
              obtain ⟨xb, xo, xe, xl, x0, x1, x2⟩ := hX
              simp only [Option.some.injEq, Addr.mk.injEq] at xe
              obtain ⟨rfl, rfl, _⟩ := xe
              obtain ⟨zb, zo, ze, zl, z0, z1, z2⟩ := hZ
              simp only [Option.some.injEq, Addr.mk.injEq] at ze
              obtain ⟨rfl, rfl, _⟩ := ze
              simp only [Nat.zero_add] at x0 x1 x2 z0 z1 z2
              have HTK : Hid (D.take (j + 1) = D.take j ++ [D[j]]) := Lib.hid (List.take_succ_eq_append_getElem hjl)
              have HTL : Hid (turnL D tn (j + 1) = turnL D tn j ++ [D[sg]]) := Lib.hid (by rw [turnL_succ, HDL.out, ← hsg, getD_eq _ _ hsl])
              have hkx := HKY.out D[j] (List.getElem_mem hjl)
              have hkz := HKY.out D[sg] (List.getElem_mem hsl)
              obtain ⟨X, hXe⟩ : ∃ X, X = D[j] := ⟨_, rfl⟩
              obtain ⟨Z, hZe⟩ : ∃ Z, Z = D[sg] := ⟨_, rfl⟩
              rw [← hXe] at x0 x1 x2 HTK hkx
              rw [← hZe] at z0 z1 z2 HTL hkz
              obtain ⟨xk, xr, xv⟩ := X
              obtain ⟨zk, zr, zv⟩ := Z
              simp only at x0 x1 x2 z0 z1 z2
              have HO1 : Hid (∀ w', Below wr.heap.size wr w' → itemAt w' gq (j * 3) (xk, xr, xv)) := Lib.hid (fun w' hb => (show itemAt wr gq (j * 3) (xk, xr, xv) from ⟨x0, x1, x2⟩).old xl hb)
              have HO2 : Hid (∀ w', Below wr.heap.size wr w' → itemAt w' gq (sg * 3) (zk, zr, zv)) := Lib.hid (fun w' hb => (show itemAt wr gq (sg * 3) (zk, zr, zv) from ⟨z0, z1, z2⟩).old zl hb)
              have htm := HT.out
              have j0 : (0 : Int) ≤ j := by omega
              have j1 : (j : Int) < m := by omega
              have g0 : (0 : Int) ≤ sg := by omega
              have g1 : (sg : Int) < m := by rw [HDL.out] at hsl; omega
              have s1 : IntKind.i64.wrap ((m : Int) - 1) = (m : Int) - 1 := IntWalk.i64_in _ (by omega)
              have s2 : IntKind.i64.wrap ((m : Int) - 1 - j) = (m : Int) - 1 - j := IntWalk.i64_in _ (by omega)
              have s3 : IntKind.i64.wrap ((m : Int) - 1 - j + tn) = (m : Int) - 1 - j + tn := IntWalk.i64_in _ (by omega)
              have s4 : Int.tmod ((m : Int) - 1 - j + tn) (m : Int) = (sg : Int) := by
                rw [Int.tmod_eq_emod_of_nonneg (by omega), hsg]
                unfold turnI
                have e : ((m : Int) - 1 - j + tn) = ((m - 1 - j + tn : Nat) : Int) := by omega
                rw [e]; rfl
              have s5 : (m : Int) ≠ 0 := mz
              have s7 : ¬ m = 0 := hm0
              have s6 : IntKind.i64.wrap (sg : Int) = (sg : Int) := IntWalk.i64_in _ (by omega)
              have ksz3 : (Try.prog.info? 38).map (·.size) = some 3 := by kernel_rfl
              have HAPJ : Hid (ApS (D.take j ++ [(xk, xr, xv)]) ∧ (D.take j).length = j) := Lib.hid ⟨by rw [← HTK.out]; exact apS_take HAP.out _, by rw [List.length_take]; omega⟩
              have HAPT : Hid (ApS (turnL D tn j)) := Lib.hid (turnL_apart HAP.out (by rw [HDL.out]; exact htm) (by omega))
              have HP1 : Hid (∀ w', Same w' p b M (fewS M (D.take j)) → Calls Try.prog 18 #[.pointer (some ⟨p, 0, none⟩), .string ⟨xk.toArray⟩, .int .i64 xr, .string ⟨xv.toArray⟩] w' fun e w'' => (∃ g d, e = .returned (.tuple #[.string g, .bool d])) ∧ Same w'' p b M (fewS M (D.take (j + 1))) ∧ Mod (fun i => i = b) w' w'') := Lib.hid (fun w' h => by
                refine (h.putC (fewS_le M E0.out.1 _ (apS_take HAP.out j)) E0.out.2 xk hkx xr xv).mono ?_
                rintro e w'' ⟨rfl, h2, h3⟩
                exact ⟨⟨_, _, rfl⟩, by rw [HTK.out, fewS_snoc]; exact h2, h3⟩)
              have HP2 : Hid (∀ w', Same w' p2 b2 M (fewS M (turnL D tn j)) → Calls Try.prog 18 #[.pointer (some ⟨p2, 0, none⟩), .string ⟨zk.toArray⟩, .int .i64 zr, .string ⟨zv.toArray⟩] w' fun e w'' => (∃ g d, e = .returned (.tuple #[.string g, .bool d])) ∧ Same w'' p2 b2 M (fewS M (turnL D tn (j + 1))) ∧ Mod (fun i => i = b2) w' w'') := Lib.hid (fun w' h => by
                refine (h.putC (fewS_le M E0.out.1 _ HAPT.out) E0.out.2 zk hkz zr zv).mono ?_
                rintro e w'' ⟨rfl, h2, h3⟩
                exact ⟨⟨_, _, rfl⟩, by rw [HTL.out, fewS_snoc]; exact h2, h3⟩)
              have HJ := Lib.hid hjm
              clear hjl hsl hsg xl zl x0 x1 x2 z0 z1 z2 hkx hkz hXe hZe htm hjm
              go_wp2_with fail
              refine wp_region_puts2 (Γ := Gh) (none, none) (fun t v γ _ => match t with
                | 84 => v = .slice (some ⟨gq, 0, none⟩) m cq
                | 85 => v = .int .i64 (j : Int)
                | 86 => v = .pointer (some ⟨gq, j * 3, none⟩)
                | 87 => v = .agg #[.string ⟨xk.toArray⟩, .int .i64 xr, .string ⟨xv.toArray⟩]
                | 88 => v = .slice (some ⟨gq, 0, none⟩) m cq
                | 89 => v = .int .i64 (m : Int)
                | 90 => v = .int .i64 ((m : Int) - 1)
                | 91 => v = .int .i64 (j : Int)
                | 92 => v = .int .i64 ((m : Int) - 1 - j)
                | 93 => v = .int .i64 (tn : Int)
                | 94 => v = .int .i64 ((m : Int) - 1 - j + tn)
                | 95 => v = .int .i64 (m : Int)
                | 96 => v = .int .i64 (sg : Int)
                | 97 => v = .pointer (some ⟨gq, sg * 3, none⟩)
                | 98 => v = .agg #[.string ⟨zk.toArray⟩, .int .i64 zr, .string ⟨zv.toArray⟩]
                | 15 => ∃ g, γ.1 = some g ∧ v = .pointer (some ⟨g, 0, none⟩)
                | 16 => ∃ g, γ.2 = some g ∧ v = .pointer (some ⟨g, 0, none⟩)
                | _ => True) (fun i γ w' => match i with | 17 => ∃ g, γ.1 = some g ∧ w'.heap[g]? = some (.cells #[.string ⟨xk.toArray⟩, .int .i64 xr, .string ⟨xv.toArray⟩] 38 (0, 0)) | 18 => ∃ g, γ.2 = some g ∧ w'.heap[g]? = some (.cells #[.string ⟨zk.toArray⟩, .int .i64 zr, .string ⟨zv.toArray⟩] 38 (0, 0)) | _ => True) (G2 wr) 136 (by kernel_rfl) (by decide +kernel) rfl ⟨(Below.refl _ _).drew, (fun g e => by cases e), (fun g e => by cases e), (fun g g' e => by cases e)⟩ (by
              refine OweAll2.cons (owes2_val rfl rfl (fun _ _ => trivial) fun γ a w1 ha hGG hV => ?_) ?_
              · have hG := hGG.m
                have h7 := ha.outer 7 (by decide +kernel)
                simp only [Act.eval] at h7
                exact ⟨.slice (some ⟨gq, 0, none⟩) m cq, wanted_free rfl, by simp [execOp, go_sem, h7], rfl⟩
              refine OweAll2.cons (owes2_val rfl rfl (fun _ _ => trivial) fun γ a w1 ha hGG hV => ?_) ?_
              · have hG := hGG.m
                have h14 := ha.outer 14 (by decide +kernel)
                simp only [Act.eval] at h14
                exact ⟨.int .i64 (j : Int), wanted_free rfl, by simp [execOp, go_sem, h14], rfl⟩
              refine OweAll2.cons (owes2_val rfl rfl (fun _ _ => trivial) fun γ a w1 ha hGG hV => ?_) ?_
              · have hG := hGG.m
                have h84 : a.tmps.getD 84 undef = .slice (some ⟨gq, 0, none⟩) m cq := hV.get 84 (by decide +kernel)
                have h85 : a.tmps.getD 85 undef = .int .i64 (j : Int) := hV.get 85 (by decide +kernel)
                exact ⟨.pointer (some ⟨gq, j * 3, none⟩), wanted_free rfl, by simp [execOp, go_sem, h84, h85, Try.underlying26, ksz3, j0, j1], rfl⟩
              refine OweAll2.cons (owes2_val rfl rfl (fun _ _ => trivial) fun γ a w1 ha hGG hV => ?_) ?_
              · have hG := hGG.m
                have h86 : a.tmps.getD 86 undef = .pointer (some ⟨gq, j * 3, none⟩) := hV.get 86 (by decide +kernel)
                exact ⟨.agg #[.string ⟨xk.toArray⟩, .int .i64 xr, .string ⟨xv.toArray⟩], wanted_free rfl, exec_load_item (.tmp 86) rfl gq (j * 3) h86 (HO1.out w1 hG), rfl⟩
              refine OweAll2.cons (owes2_val rfl rfl (fun _ _ => trivial) fun γ a w1 ha hGG hV => ?_) ?_
              · have hG := hGG.m
                have h7 := ha.outer 7 (by decide +kernel)
                simp only [Act.eval] at h7
                exact ⟨.slice (some ⟨gq, 0, none⟩) m cq, wanted_free rfl, by simp [execOp, go_sem, h7], rfl⟩
              refine OweAll2.cons (owes2_val rfl rfl (fun _ _ => trivial) fun γ a w1 ha hGG hV => ?_) ?_
              · have hG := hGG.m
                have h10 := ha.outer 10 (by decide +kernel)
                simp only [Act.eval] at h10
                exact ⟨.int .i64 (m : Int), wanted_free rfl, by simp [execOp, go_sem, h10], rfl⟩
              refine OweAll2.cons (owes2_val rfl rfl (fun _ _ => trivial) fun γ a w1 ha hGG hV => ?_) ?_
              · have hG := hGG.m
                have h89 : a.tmps.getD 89 undef = .int .i64 (m : Int) := hV.get 89 (by decide +kernel)
                exact ⟨.int .i64 ((m : Int) - 1), wanted_free rfl, by simp [execOp, go_sem, h89, s1], rfl⟩
              refine OweAll2.cons (owes2_val rfl rfl (fun _ _ => trivial) fun γ a w1 ha hGG hV => ?_) ?_
              · have hG := hGG.m
                have h14 := ha.outer 14 (by decide +kernel)
                simp only [Act.eval] at h14
                exact ⟨.int .i64 (j : Int), wanted_free rfl, by simp [execOp, go_sem, h14], rfl⟩
              refine OweAll2.cons (owes2_val rfl rfl (fun _ _ => trivial) fun γ a w1 ha hGG hV => ?_) ?_
              · have hG := hGG.m
                have h90 : a.tmps.getD 90 undef = .int .i64 ((m : Int) - 1) := hV.get 90 (by decide +kernel)
                have h91 : a.tmps.getD 91 undef = .int .i64 (j : Int) := hV.get 91 (by decide +kernel)
                exact ⟨.int .i64 ((m : Int) - 1 - j), wanted_free rfl, by simp [execOp, go_sem, h90, h91, s2], rfl⟩
              refine OweAll2.cons (owes2_val rfl rfl (fun _ _ => trivial) fun γ a w1 ha hGG hV => ?_) ?_
              · have hG := hGG.m
                have h2 := ha.outer 2 (by decide +kernel)
                simp only [Act.eval] at h2
                exact ⟨.int .i64 (tn : Int), wanted_free rfl, by simp [execOp, go_sem, h2], rfl⟩
              refine OweAll2.cons (owes2_val rfl rfl (fun _ _ => trivial) fun γ a w1 ha hGG hV => ?_) ?_
              · have hG := hGG.m
                have h92 : a.tmps.getD 92 undef = .int .i64 ((m : Int) - 1 - j) := hV.get 92 (by decide +kernel)
                have h93 : a.tmps.getD 93 undef = .int .i64 (tn : Int) := hV.get 93 (by decide +kernel)
                exact ⟨.int .i64 ((m : Int) - 1 - j + tn), wanted_free rfl, by simp [execOp, go_sem, h92, h93, s3], rfl⟩
              refine OweAll2.cons (owes2_val rfl rfl (fun _ _ => trivial) fun γ a w1 ha hGG hV => ?_) ?_
              · have hG := hGG.m
                have h10 := ha.outer 10 (by decide +kernel)
                simp only [Act.eval] at h10
                exact ⟨.int .i64 (m : Int), wanted_free rfl, by simp [execOp, go_sem, h10], rfl⟩
              refine OweAll2.cons (owes2_val rfl rfl (fun _ _ => trivial) fun γ a w1 ha hGG hV => ?_) ?_
              · have hG := hGG.m
                have h94 : a.tmps.getD 94 undef = .int .i64 ((m : Int) - 1 - j + tn) := hV.get 94 (by decide +kernel)
                have h95 : a.tmps.getD 95 undef = .int .i64 (m : Int) := hV.get 95 (by decide +kernel)
                exact ⟨.int .i64 (sg : Int), wanted_free rfl, by simp [execOp, go_sem, h94, h95, s4, s5, s6, s7], rfl⟩
              refine OweAll2.cons (owes2_val rfl rfl (fun _ _ => trivial) fun γ a w1 ha hGG hV => ?_) ?_
              · have hG := hGG.m
                have h88 : a.tmps.getD 88 undef = .slice (some ⟨gq, 0, none⟩) m cq := hV.get 88 (by decide +kernel)
                have h96 : a.tmps.getD 96 undef = .int .i64 (sg : Int) := hV.get 96 (by decide +kernel)
                exact ⟨.pointer (some ⟨gq, sg * 3, none⟩), wanted_free rfl, by simp [execOp, go_sem, h88, h96, Try.underlying26, ksz3, g0, g1], rfl⟩
              refine OweAll2.cons (owes2_val rfl rfl (fun _ _ => trivial) fun γ a w1 ha hGG hV => ?_) ?_
              · have hG := hGG.m
                have h97 : a.tmps.getD 97 undef = .pointer (some ⟨gq, sg * 3, none⟩) := hV.get 97 (by decide +kernel)
                exact ⟨.agg #[.string ⟨zk.toArray⟩, .int .i64 zr, .string ⟨zv.toArray⟩], wanted_free rfl, exec_load_item (.tmp 97) rfl gq (sg * 3) h97 (HO2.out w1 hG), rfl⟩
              refine OweAll2.cons (owes2_mem [17, 18] (by decide +kernel) (by decide +kernel) rfl rfl fun γ a w2 ha hG hV => ?_) ?_
              · have hb : Below w2.heap.size w2 (w2.alloc (.cells #[.string ⟨#[]⟩, .int .i64 0, .string ⟨#[]⟩] 38)) := (Below.refl _ _).alloc (Nat.le_refl _) _
                have hG2 := hG.grow hb
                refine ⟨.pointer (some ⟨w2.heap.size, 0, none⟩), w2.alloc (.cells #[.string ⟨#[]⟩, .int .i64 0, .string ⟨#[]⟩] 38), (some w2.heap.size, γ.2), wanted_free rfl, by simp [execOp, go_sem], ⟨_, rfl, rfl⟩, trivial, ?_, ?_, ?_⟩
                · exact ⟨hG2.m, fun g e => by cases e; exact ⟨hG.m.size, _, rfl, heap_alloc_new _ _⟩, hG2.a2, fun g g' e e' => by cases e; obtain ⟨_, Z, _, h⟩ := hG.a2 g' e'; have := (Array.getElem?_eq_some_iff.1 h).1; omega⟩
                · intro t' x ht h
                  split at h <;> first | exact h | exact absurd rfl ht | trivial
                · intro j' hj hji h
                  split at h <;> first | exact absurd hj (by decide) | trivial
              refine OweAll2.cons (owes2_mem [17, 18] (by decide +kernel) (by decide +kernel) rfl rfl fun γ a w2 ha hG hV => ?_) ?_
              · have hb : Below w2.heap.size w2 (w2.alloc (.cells #[.string ⟨#[]⟩, .int .i64 0, .string ⟨#[]⟩] 38)) := (Below.refl _ _).alloc (Nat.le_refl _) _
                have hG2 := hG.grow hb
                refine ⟨.pointer (some ⟨w2.heap.size, 0, none⟩), w2.alloc (.cells #[.string ⟨#[]⟩, .int .i64 0, .string ⟨#[]⟩] 38), (γ.1, some w2.heap.size), wanted_free rfl, by simp [execOp, go_sem], ⟨_, rfl, rfl⟩, trivial, ?_, ?_, ?_⟩
                · exact ⟨hG2.m, hG2.a1, fun g e => by cases e; exact ⟨hG.m.size, _, rfl, heap_alloc_new _ _⟩, fun g g' e e' => by cases e'; obtain ⟨_, Z, _, h⟩ := hG.a1 g e; have := (Array.getElem?_eq_some_iff.1 h).1; omega⟩
                · intro t' x ht h
                  split at h <;> first | exact h | exact absurd rfl ht | trivial
                · intro j' hj hji h
                  split at h <;> first | exact absurd hj (by decide) | trivial
              refine OweAll2.cons (owes2_store [18] (by decide +kernel) rfl rfl fun γ a w2 ha hG hV => ?_) ?_
              · obtain ⟨g, eg, h5⟩ : ∃ g, γ.1 = some g ∧ a.tmps.getD 15 undef = .pointer (some ⟨g, 0, none⟩) := hV.get 15 (by decide +kernel)
                have h6 : a.tmps.getD 87 undef = .agg #[.string ⟨xk.toArray⟩, .int .i64 xr, .string ⟨xv.toArray⟩] := hV.get 87 (by decide +kernel)
                obtain ⟨hlo, Z, hZ, hbx⟩ := hG.a1 g eg
                refine ⟨w2.setRow g #[.string ⟨xk.toArray⟩, .int .i64 xr, .string ⟨xv.toArray⟩], γ, wanted_free rfl, exec_store_rowA 38 (.tmp 15) (.tmp 87) rfl g h5 38 Z _ h6 hbx (by rw [hZ]; rfl) ksz3 (by intro v hv; simp at hv; rcases hv with rfl | rfl | rfl <;> rfl), ⟨g, eg, setRow_heap _ _ _ _ _ _ hbx⟩, hG.store hbx hlo rfl, fun t' x h => (by split at h <;> first | exact h | trivial), ?_⟩
                intro j' hj hji h
                split at h <;> first | exact absurd rfl hji | exact absurd (by decide) hj | trivial
              refine OweAll2.cons (owes2_store [] (by decide +kernel) rfl rfl fun γ a w2 ha hG hV => ?_) ?_
              · obtain ⟨g, eg, h5⟩ : ∃ g, γ.2 = some g ∧ a.tmps.getD 16 undef = .pointer (some ⟨g, 0, none⟩) := hV.get 16 (by decide +kernel)
                have h6 : a.tmps.getD 98 undef = .agg #[.string ⟨zk.toArray⟩, .int .i64 zr, .string ⟨zv.toArray⟩] := hV.get 98 (by decide +kernel)
                obtain ⟨hlo, Z, hZ, hbx⟩ := hG.a2 g eg
                refine ⟨w2.setRow g #[.string ⟨zk.toArray⟩, .int .i64 zr, .string ⟨zv.toArray⟩], γ, wanted_free rfl, exec_store_rowA 38 (.tmp 16) (.tmp 98) rfl g h5 38 Z _ h6 hbx (by rw [hZ]; rfl) ksz3 (by intro v hv; simp at hv; rcases hv with rfl | rfl | rfl <;> rfl), ⟨g, eg, setRow_heap _ _ _ _ _ _ hbx⟩, hG.store hbx hlo rfl, fun t' x h => (by split at h <;> first | exact h | trivial), ?_⟩
                intro j' hj hji h
                split at h
                · obtain ⟨g', e', hB⟩ := h; exact ⟨g', e', (setRow_other _ _ _ _ (hG.ne g' g e' eg)).trans hB⟩
                · exact absurd rfl hji
                · trivial
              exact OweAll2.nil
              ) ?_
              intro f γ wz hGG hv hU
              obtain ⟨g5, eg5, e15⟩ : ∃ g, γ.1 = some g ∧ f 15 = .pointer (some ⟨g, 0, none⟩) := hv 15 _ 15 rfl rfl
              obtain ⟨g6, eg6, e16⟩ : ∃ g, γ.2 = some g ∧ f 16 = .pointer (some ⟨g, 0, none⟩) := hv 16 _ 16 rfl rfl
              obtain ⟨g5', eg5', bx5⟩ : ∃ g, γ.1 = some g ∧ wz.heap[g]? = some (.cells #[.string ⟨xk.toArray⟩, .int .i64 xr, .string ⟨xv.toArray⟩] 38 (0, 0)) := hU 17 _ rfl
              obtain ⟨g6', eg6', bx6⟩ : ∃ g, γ.2 = some g ∧ wz.heap[g]? = some (.cells #[.string ⟨zk.toArray⟩, .int .i64 zr, .string ⟨zv.toArray⟩] 38 (0, 0)) := hU 18 _ rfl
              obtain rfl : g5' = g5 := Option.some.inj (eg5'.symm.trans eg5)
              obtain rfl : g6' = g6 := Option.some.inj (eg6'.symm.trans eg6)
              have hG := hGG.m
              refine moves_back (P := Try.prog) (ops := #[]) f _ _ _ ?_
              simp only [dsts, List.filterMap_cons, List.filterMap_nil, List.map_cons, List.map_nil]
              rw [e15, e16]
              clear hv hU hGG eg5 eg6 eg5' eg6'
              unfold mv
              clear e15 e16
              have HB := Lib.hid hG
              have HOz := HO.out.2
              have HS1 := HOz.s1.old hG
              have HS2 := HOz.s2.old hG
              have a0 : wz.cell? ⟨g5', 0, none⟩ = some (.string ⟨xk.toArray⟩) := by unfold World.cell?; rw [bx5]; rfl
              have a1 : wz.cell? ⟨g5', 1, none⟩ = some (.int .i64 xr) := by unfold World.cell?; rw [bx5]; rfl
              have a2 : wz.cell? ⟨g5', 2, none⟩ = some (.string ⟨xv.toArray⟩) := by unfold World.cell?; rw [bx5]; rfl
              have HPA := Lib.hid (HP1.out wz HS1)
              have HS1' := Lib.hid HS1
              have HS2' := Lib.hid HS2
              have HX5 := Lib.hid bx5
              have HX6 := Lib.hid bx6
              clear hG HOz HS1 HS2 bx5 bx6 s1 s2 s3 s4 s6 s7 ksz3 HP1 HO1 HO2
              go_wp2_with fail
              refine HPA.out.mono ?_
              rintro e u1 ⟨⟨ga, da, rfl⟩, hT1, hm1⟩
              have HT1 := Lib.hid hT1
              have HM1 := Lib.hid hm1
              have bx6b := (hm1.block g6' (Array.getElem?_eq_some_iff.1 HX6.out).1 (HS1'.out.at_.2.notCells HX6.out)).trans HX6.out
              have c0 : u1.cell? ⟨g6', 0, none⟩ = some (.string ⟨zk.toArray⟩) := by unfold World.cell?; rw [bx6b]; rfl
              have c1 : u1.cell? ⟨g6', 1, none⟩ = some (.int .i64 zr) := by unfold World.cell?; rw [bx6b]; rfl
              have c2 : u1.cell? ⟨g6', 2, none⟩ = some (.string ⟨zv.toArray⟩) := by unfold World.cell?; rw [bx6b]; rfl
              have hlo := HO.out.2.lo
              have hS2b := HS2'.out.kept hm1 (fun e => hlo.2.2.2.2 e) (fun e => hlo.2.2.1 e.symm)
              have HPB := Lib.hid (HP2.out u1 hS2b)
              have HS2b := Lib.hid hS2b
              have HX5b := Lib.hid ((hm1.block g5' (Array.getElem?_eq_some_iff.1 HX5.out).1 (HS1'.out.at_.2.notCells HX5.out)).trans HX5.out)
              clear hT1 hm1 bx6b hlo hS2b HPA a0 a1 a2 HP2
              go_wp2_with fail
              refine HPB.out.mono ?_
              rintro e u2 ⟨⟨gb, db, rfl⟩, hT2, hm2⟩
              have HT2 := Lib.hid hT2
              have HM2 := Lib.hid hm2
              have bx5c := (hm2.block g5' (Array.getElem?_eq_some_iff.1 HX5b.out).1 (HS2b.out.at_.2.notCells HX5b.out)).trans HX5b.out
              have d0 : u2.cell? ⟨g5', 0, none⟩ = some (.string ⟨xk.toArray⟩) := by unfold World.cell?; rw [bx5c]; rfl
              have d1 : u2.cell? ⟨g5', 1, none⟩ = some (.int .i64 xr) := by unfold World.cell?; rw [bx5c]; rfl
              have d2 : u2.cell? ⟨g5', 2, none⟩ = some (.string ⟨xv.toArray⟩) := by unfold World.cell?; rw [bx5c]; rfl
              have hwa : Rd encT u2 qw (sortS (D.take j)) := ((HO.out.2.wa.old HB.out).mapMod HS1'.out.at_.2 HM1.out).mapMod HS2b.out.at_.2 hm2
              have how : Rd encT u2 (some ⟨gq, 0, none⟩) D := ((HO.out.2.ow.old HB.out).mapMod HS1'.out.at_.2 HM1.out).mapMod HS2b.out.at_.2 hm2
              have hrp := rput100 (c := cw) xk xr xv hwa (by rw [HAPJ.out.2]; omega) HAPJ.out.1
              rw [HAPJ.out.2, ← HTK.out] at hrp
              have HRP := Lib.hid hrp
              have HOW := Lib.hid how
              have HBU : Hid (Below w.heap.size w u2) := Lib.hid (by
                have l := HO.out.2.lo
                have t1 := HO.out.2.m.trans (HB.out.mono HO.out.2.m.size)
                have t2 := t1.trans (HM1.out.to_below t1.size (by rintro k hk rfl; omega))
                exact t2.trans (hm2.to_below t2.size (by rintro k hk rfl; omega)))
              clear hT2 hm2 bx5c hwa how hrp HPB c0 c1 c2
              go_wp2_with fail
              refine HRP.out.mono ?_
              rintro e u3 ⟨q3, c3, rfl, hr3, hc3, hb3⟩
              have HFI : Hid (j + 1 ≤ c3 ∧ OrR w u3 p b p2 b2 M D tn gq (j + 1) q3) := Lib.hid ⟨hc3, by
                have l := HO.out.2.lo
                exact ⟨(HT1.out.kept HM2.out (fun e => l.2.2.2.1 e) (fun e => l.2.2.1 e)).old hb3, HT2.out.old hb3, hr3, HOW.out.old hb3, HBU.out.trans (hb3.mono HBU.out.size), l⟩⟩
              clear hr3 hc3 hb3 HRP d0 d1 d2
              go_wp2_with fail
              have hjm := HJ.out
              go_roundw
              case rel => exact ⟨j + 1, q3, c3, by omega, by go_num, rfl, HFI⟩
              case measure => simp [intOf]; omega
            · obtain rfl : j = m := by omega
              obtain ⟨K, hK⟩ : ∃ K : Nat, (K : Int) = min M (j : Int) := ⟨(min M (j : Int)).toNat, by have := E0.out; omega⟩
              have e5 : min M (j : Int) = (K : Int) := hK.symm
              have hDj : D.take j = D := List.take_of_length_le (by rw [HDL.out]; exact Nat.le_refl _)
              have hsl := (sortS_perm D).length_eq
              have HFW : Hid (fewS M D = (sortS D).take K ∧ fewS M (turnL D tn j) = (sortS D).take K ∧ ((sortS D).take K).length = K) := Lib.hid (by
                have hE := E0.out
                have h1 : (sortS D).take M.toNat = (sortS D).take K := by
                  by_cases hMj : M ≤ (j : Int)
                  · have : M.toNat = K := by omega
                    rw [this]
                  · rw [List.take_of_length_le (by rw [hsl, HDL.out]; omega), List.take_of_length_le (by rw [hsl, HDL.out]; omega)]
                have hp := turnL_perm HAP.out (t := tn) (by rw [HDL.out]; exact HT.out)
                rw [HDL.out] at hp
                refine ⟨by rw [fewS_eq M hE.1 D HAP.out, h1], ?_, by rw [List.length_take, hsl, HDL.out]; omega⟩
                rw [fewS_eq M hE.1 _ (turnL_apart HAP.out (by rw [HDL.out]; exact HT.out) (by rw [HDL.out]; exact Nat.le_refl _)), sortS_eq hp ((hp.symm.pairwise_iff (fun {_ _} h => Ne.symm h)).1 HAP.out), h1])
              have k3 : (0 : Int) ≤ (K : Int) := by omega
              have k4 : (K : Int) ≤ (cw : Int) := by have := HO.out.1; omega
              have HS1 : Hid (Same wr p b M ((sortS D).take K)) := Lib.hid (by have := HO.out.2.s1; rw [hDj, HFW.out.1] at this; exact this)
              have HS2 : Hid (Same wr p2 b2 M ((sortS D).take K)) := Lib.hid (by have := HO.out.2.s2; rw [HFW.out.2.1] at this; exact this)
              have hrw := HO.out.2.wa
              rw [hDj] at hrw
              have HI1 := Lib.hid (isK (c := cw) HFW.out.2.2.symm HS1.out (hrw.take K))
              have HI2 : Hid (∀ w', Below wr.heap.size wr w' → Calls Try.prog 16 #[.pointer (some ⟨p2, 0, none⟩), .slice qw K cw] w' fun r w'' => r = .returned (.bool true) ∧ Below w'.heap.size w' w'') := Lib.hid (fun w' hb => isK (c := cw) HFW.out.2.2.symm (HS2.out.old hb) ((hrw.take K).old hb))
              have HBW2 := Lib.hid HO.out.2.m
              clear hK hDj hsl hrw HO HS1 HS2
              go_wp2_with fail
              refine HI1.out.mono ?_
              rintro e u1 ⟨rfl, hb1⟩
              have HI3 := Lib.hid (HI2.out u1 hb1)
              have HBU := Lib.hid (HBW2.out.trans (hb1.mono HBW2.out.size))
              clear hb1 HI2
              go_wp2_with fail
              refine HI3.out.mono ?_
              rintro e u2 ⟨rfl, hb2⟩
              have HBZ := Lib.hid (HBU.out.trans (hb2.mono HBU.out.size))
              clear hb2
              go_wp2_with fail
              go_ret
              exact ⟨rfl, HBZ.out⟩
end Go.Proofs.Ytdiiechkhlbkcaa
