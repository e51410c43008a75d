/- Texts 7: what the laws lean on. -/
import Derived.Test.YtemnebbdaljfbaaGreatDoorZ6
import Derived.Lib.AppendZerosOnto
import Derived.Lib.Overlaps
import Derived.Laws.Externs
import Derived.Laws.NewBlocks
import Derived.Test.YtemnebbdaljfbaaGreatDoorZ3
import Derived.Test.YtemnebbdaljfbaaGreatDoorZ4
set_option linter.unusedVariables false
set_option linter.unusedSimpArgs false
namespace Go.Proofs.YtemnebbdaljfbaaGreatDoor
open Go.RowKit

theorem addr_add (g off j : Nat) : (⟨g, off, none⟩ : Addr).add j = ⟨g, off + j, none⟩ := by unfold Addr.add; split <;> simp_all
/-- copy onto an owned row. -/
theorem run_copyR {α : Type} {P : Program} {E : Enc α} {T : TypeId} {w : World} {g cap : Nat} {M : List α} (h : Rw E T w (some ⟨g, 0, none⟩) cap M) (tD tS : TypeId) (hu : P.underlying tD = some (.slice T)) (hs : (P.info? T).map (·.size) = some E.k)
    (d : Nat) (Y : List α) (a : Addr) (dLen dCap sLen sCap : Nat) (hn : Y.length = Nat.min sLen dLen) (hd : d ≤ M.length) (hf : d + Y.length ≤ cap) (hsrc : ∀ j v, (E.all Y)[j]? = some v → w.cell? (a.add j) = some v) :
    ∃ w', (∀ ty, (Builtin.copy_ #[tD, tS] ty #[.slice (some ⟨g, d * E.k, none⟩) dLen dCap, .slice (some a) sLen sCap]).run P w = .ok (goInt Y.length) w') ∧ Rw E T w' (some ⟨g, 0, none⟩) cap (M.take d ++ Y ++ M.drop (d + Y.length)) ∧ Mod (fun k => k = g) w w' := by
  obtain ⟨cur, hh, h3, h1, h2, R, hR⟩ := h.parts
  have hfit : d * E.k + (E.all Y).length ≤ cur.size := by rw [E.all_len, h3, ← Nat.add_mul]; exact Nat.mul_le_mul_right _ hf
  have hst := run_storeCells_at P g (d * E.k) T (E.all Y) 0 cur w hh (by rw [Nat.add_zero]; exact hfit) (E.all_one Y)
  rw [Nat.add_zero] at hst
  have hl := run_loadCells_list (P := P) w a (E.all Y) hsrc
  rw [E.all_len, hn] at hl
  refine ⟨w.setRow g (cur.toList.take (d * E.k) ++ E.all Y ++ cur.toList.drop (d * E.k + (E.all Y).length)).toArray, fun ty => ?_, ?_, ?_⟩
  rotate_left 2
  · exact ((Mod.refl (fun _ => False) w).setRow (g := g) _).mono (fun i _ hi => by rcases hi with hi | hi; exact hi.elim; exact hi)
  · cases hq : P.info? T with
    | none => rw [hq] at hs; cases hs
    | some i =>
      have hi : i.size = E.k := by rw [hq] at hs; simpa using hs
      simp [Builtin.copy_, run_underlying hu, Builtin.lenOf, Builtin.firstCells, sizeOf, typeInfo, hq, hi, hl, hst, hn]
  · have hA : (E.all (M.take d)).length = d * E.k := by rw [E.all_len, List.length_take, Nat.min_eq_left hd]
    have htk : cur.toList.take (d * E.k) = E.all (M.take d) := by
      rw [hR]
      have : E.all M = E.all (M.take d) ++ E.all (M.drop d) := by rw [← E.all_app, List.take_append_drop]
      rw [this, List.append_assoc, List.take_left' hA]
    obtain ⟨R', hR'⟩ : ∃ R', cur.toList.drop (d * E.k + (E.all Y).length) = E.all (M.drop (d + Y.length)) ++ R' := by
      rw [E.all_len, ← Nat.add_mul]
      by_cases hc : d + Y.length ≤ M.length
      · refine ⟨R, ?_⟩
        rw [hR]
        have : E.all M = E.all (M.take (d + Y.length)) ++ E.all (M.drop (d + Y.length)) := by rw [← E.all_app, List.take_append_drop]
        rw [this, List.append_assoc, List.drop_left' (by rw [E.all_len, List.length_take, Nat.min_eq_left hc])]
      · refine ⟨cur.toList.drop ((d + Y.length) * E.k), ?_⟩
        rw [List.drop_eq_nil_of_le (show M.length ≤ d + Y.length by omega), E.all_nil, List.nil_append]
    have hnew : cur.toList.take (d * E.k) ++ E.all Y ++ cur.toList.drop (d * E.k + (E.all Y).length) = E.all (M.take d ++ Y ++ M.drop (d + Y.length)) ++ R' := by
      rw [htk, hR', E.all_app, E.all_app, ← List.append_assoc]
    have hsz : (cur.toList.take (d * E.k) ++ E.all Y ++ cur.toList.drop (d * E.k + (E.all Y).length)).length = cap * E.k := by
      rw [List.length_append, List.length_append, List.length_take, List.length_drop, Array.length_toList, h3]
      rw [h3] at hfit
      omega
    refine Rw.of_row (setRow_heap w g cur _ T (0, 0) hh) ?_ h2 ?_ ?_
    · rw [List.length_append, List.length_append, List.length_take, List.length_drop]; omega
    · rw [List.size_toArray, hsz]
    · rw [List.toList_toArray, hnew, List.take_left' (by rw [E.all_len])]
theorem exec_copy {P : Program} {o : Oper} {a : Act} {w : World} (x y : Operand) (t t' : TypeId) (ho : o.op = .call { callee := .builtin .copy, args := #[x, y], argTypes := #[t, t'] }) (u v : Value) (hx : a.eval x = u) (hy : a.eval y = v) {r : Value} {w' : World}
    (hr : ∀ ty, (Builtin.copy_ #[t, t'] ty #[u, v]).run P w = .ok r w') : (execOp a.eval o).run P w = .ok (.value r) w' := by
  unfold execOp
  simp only [ho, resolve, invoke, builtin, Sem.run_bind, Sem.run_pure, Result.andThen_ok, List.map_toArray, List.map_cons, List.map_nil, hx, hy, hr]
set_option maxRecDepth 20000 in
theorem ids_elem : Tryz.prog.elem 39 = 70 := by kernel_rfl
theorem exec_slice_l {o : Oper} {a : Act} {w : World} (x y : Operand) (ho : o.op = .slice 39 x (some y) none none) (g off len cap l : Nat) (hx : a.eval x = .slice (some ⟨g, off, none⟩) len cap) (hy : a.eval y = .int .i64 (l : Int)) (h1 : l ≤ len) (hc : cap ≠ l) {o' l' c' : Nat} (e1 : off + l * 32 = o') (e2 : len - l = l') (e3 : cap - l = c') :
    (execOp a.eval o).run Tryz.prog w = .ok (.value (.slice (some ⟨g, o', none⟩) l' c')) w := by
  subst e1 e2 e3
  have hs := run_slice_l (P := Tryz.prog) w 39 (some ⟨g, off, none⟩) len cap (by rw [ids_elem]; exact Tryz.underlying39) .i64 (l : Int) (by omega) (by omega)
  rw [ids_elem, Tryz.sizeOf70] at hs
  have hA := run_sliceAt_slice (P := Tryz.prog) w 39 (.slice (some ⟨g, off, none⟩) len cap) (some (.int .i64 (l : Int))) none none (by rw [ids_elem]; exact Tryz.underlying39)
  unfold execOp
  simp only [ho, hx, hy, Option.map_some, Option.map_none, Sem.run_bind, hA, hs]
  simp [sliced, hc, addr_add]
theorem exec_slice_h {o : Oper} {a : Act} {w : World} (x y : Operand) (ho : o.op = .slice 39 x none (some y) none) (g off len cap l : Nat) (hx : a.eval x = .slice (some ⟨g, off, none⟩) len cap) (hy : a.eval y = .int .i64 (l : Int)) (h1 : l ≤ cap) :
    (execOp a.eval o).run Tryz.prog w = .ok (.value (.slice (some ⟨g, off, none⟩) l cap)) w := by
  have hs := run_slice_h (P := Tryz.prog) w 39 (some ⟨g, off, none⟩) len cap (by rw [ids_elem]; exact Tryz.underlying39) .i64 (l : Int) (by omega) (by omega)
  rw [ids_elem, Tryz.sizeOf70] at hs
  have hA := run_sliceAt_slice (P := Tryz.prog) w 39 (.slice (some ⟨g, off, none⟩) len cap) none (some (.int .i64 (l : Int))) none (by rw [ids_elem]; exact Tryz.underlying39)
  unfold execOp
  simp only [ho, hx, hy, Option.map_some, Option.map_none, Sem.run_bind, hA, hs]
  simp [sliced, addr_add]
theorem rd_cells {α : Type} {E : Enc α} {w : World} {bs off : Nat} {Y : List α} (h : Rd E w (some ⟨bs, off, none⟩) Y) : ∀ j v, (E.all Y)[j]? = some v → w.cell? ((⟨bs, off, none⟩ : Addr).add j) = some v := by
  intro j v hj
  have hjl : j < Y.length * E.k := by
    have := (List.getElem?_eq_some_iff.1 hj).1
    rwa [E.all_len] at this
  have hd : j / E.k < Y.length := by rw [Nat.div_lt_iff_lt_mul E.pos]; exact hjl
  have hr : j % E.k < E.k := Nat.mod_lt _ E.pos
  have he : j / E.k * E.k + j % E.k = j := by rw [Nat.mul_comm]; exact Nat.div_add_mod j E.k
  obtain ⟨bs', off', e, _, c1⟩ := h (j / E.k) hd
  cases e
  rw [addr_add]
  rw [← he, E.all_get Y _ _ hd hr] at hj
  have := c1 _ _ hj
  rw [Nat.add_assoc, he] at this
  exact this
theorem id_rd {w : World} {g : Nat} {t : Nm} (h : w.heap[g]? = some (.cells (vals t.1).toArray 70 (0, 0))) : Rd encN w (some ⟨g, 0, none⟩) [t] := by
  intro j hj
  obtain rfl : j = 0 := by simpa using hj
  refine ⟨g, 0, rfl, (Array.getElem?_eq_some_iff.1 h).1, fun i u hu => ?_⟩
  rw [cell_of_row _ g _ _ _ _ h, Nat.zero_mul, Nat.zero_add]
  rw [List.getElem?_toArray]; exact hu
theorem insert_one (L : List Nm) (t : Nm) (i : Nat) (hi : i < L.length) : (L.take (i + 1) ++ L.drop i ++ L.drop (i + 1 + (L.drop i).length)).take i ++ [t] ++ (L.take (i + 1) ++ L.drop i ++ L.drop (i + 1 + (L.drop i).length)).drop (i + 1) = L.take i ++ t :: L.drop i := by
  have e : L.drop (i + 1 + (L.drop i).length) = [] := List.drop_eq_nil_of_le (by rw [List.length_drop]; omega)
  have h1 : (L.take (i + 1)).length = i + 1 := by rw [List.length_take, Nat.min_eq_left (by omega)]
  rw [e, List.append_nil, List.drop_left' h1, List.take_append_of_le_length (by omega), List.take_take, Nat.min_eq_left (by omega), List.append_assoc]
  rfl
set_option maxRecDepth 20000 in
set_option maxHeartbeats 8000000 in
theorem insert_any (p : Option Addr) (cap : Nat) (L : List Nm) (i : Nat) (y : Nm) (vb : Nat) (w : World) (hL : Rw encN 70 w p cap L) (hn : L.length ≤ 1000000) (hi : i ≤ L.length) (hv : w.heap[vb]? = some (.cells (vals y.1).toArray 70 (0, 0))) (hne : ∀ a, p = some a → a.block ≠ vb) :
    Calls Tryz.prog 83 #[.slice p L.length cap, .int .i64 (i : Int), .slice (some ⟨vb, 0, none⟩) 1 1] w fun r w' => ∃ q c, r = .returned (.slice q (L.length + 1) c) ∧ PushR encN 70 w p (L.take i ++ y :: L.drop i) q c w' := by
  obtain ⟨F, hF⟩ : ∃ F : Ending → World → Prop, F = fun r w' => ∃ q c, r = .returned (.slice q (L.length + 1) c) ∧ PushR encN 70 w p (L.take i ++ y :: L.drop i) q c w' := ⟨_, rfl⟩
  rw [← hF]
  have HF := Lib.hid hF
  obtain ⟨n, hnL⟩ : ∃ n, n = L.length := ⟨_, rfl⟩
  have HN := Lib.hid hnL
  have HL := Lib.hid hL
  have HV := Lib.hid hv
  have HNE := Lib.hid hne
  have hic : i ≤ cap := Nat.le_trans hi hL.cap_le
  have hnc : n ≤ cap := by rw [hnL]; exact hL.cap_le
  rw [← hnL] at hn hi ⊢
  have i0 : (0 : Int) ≤ i := by omega
  have i1 : (i : Int) ≤ n := by omega
  have HNC := Lib.hid hnc
  clear hF hnL hL hv hne
  by_cases hin : i = n
  · have hin' : (i : Int) = n := by omega
    have HLE : Hid (L.take i ++ y :: L.drop i = L ++ [y]) := Lib.hid (by rw [List.take_of_length_le (by have := HN.out; omega), List.drop_eq_nil_of_le (by have := HN.out; omega)])
    have HRD := Lib.hid (id_rd HV.out)
    have HLN : Hid (L.length = n) := Lib.hid HN.out.symm
    subst hin
    clear hin' hic hnc
    go_enter Tryz.func83, Tryz.ntmps83
    go_wp2_with (at_builtin; refine wpList_pushR encN rfl (.tmp 23) (.tmp 24) 39 70 (.agg (vals zid).toArray) 32 rfl Tryz.underlying39 info_id (id_size (s := zid) rfl) (by decide) p cap i L HLN.out rfl HL.out (some ⟨vb, 0, none⟩) 1 1 [y] rfl rfl HRD.out (by omega) ?_; intro q2 c2 w4 hP; have HP := Lib.hid hP; clear hP; go_frame)
    all_goals (rw [HF.out]; exact ⟨q2, c2, by rw [HLN.out], by rw [HLE.out]; exact HP.out⟩)
  · obtain ⟨g, rfl, hgl⟩ : ∃ g, p = some ⟨g, 0, none⟩ ∧ g < w.heap.size := by
      rcases HL.out.shape with ⟨_, e, _⟩ | ⟨g, e, h, _⟩
      · have h1 := HN.out; rw [e] at h1; simp at h1; omega
      · exact ⟨g, e, h⟩
    have hin' : ¬ (i : Int) = n := by omega
    have hil : i < L.length := by have := HN.out; omega
    have hwr : IntKind.i64.wrap ((n : Int) + 1) = (n : Int) + 1 := IntWalk.i64_in _ (by omega)
    have hwi : IntKind.i64.wrap ((i : Int) + 1) = (i : Int) + 1 := IntWalk.i64_in _ (by omega)
    by_cases hcap : cap < n + 1
    · have hcap' : (cap : Int) < (n : Int) + 1 := by omega
      have hcn : cap = n := by omega
      subst hcn
      have hsub : IntKind.i64.wrap ((cap : Int) + 1 - i) = (cap : Int) + 1 - i := IntWalk.i64_in _ (by omega)
      obtain ⟨G, hG⟩ : ∃ G, G = w.heap.size := ⟨_, rfl⟩
      obtain ⟨GC, W1, hrz, hGC, hR1, hB1⟩ : ∃ (GC : Nat) (W1 : World), (∀ ty, (Builtin.append_ #[39, 3] ty #[.slice (some ⟨g, 0, none⟩) i cap, .int .i64 ((cap : Int) + 1 - i)]).run Tryz.prog w = .ok (.slice (some ⟨G, 0, none⟩) (cap + 1) GC) W1) ∧ cap + 1 ≤ GC ∧ Rw encN 70 W1 (some ⟨G, 0, none⟩) GC (L.take i) ∧ Below w.heap.size w W1 := by
        obtain ⟨cur, hh, h3, h1, h2, R, hR⟩ := HL.out.parts
        have hii := info_id
        cases hq : Tryz.prog.info? 70 with
        | none => rw [hq] at hii; cases hii
        | some inf =>
          rw [hq] at hii
          simp only [Option.map_some, Option.some.injEq, Prod.mk.injEq] at hii
          obtain ⟨hz, hzs, hzb⟩ := hii
          have hlt : (L.take i).length = i := by rw [List.length_take, Nat.min_eq_left (Nat.le_of_lt hil)]
          have hold : (Builtin.firstCells inf.size i (.slice (some ⟨g, 0, none⟩) i cap)).run Tryz.prog w.drew = .ok (encN.all (L.take i)).toArray w.drew := by
            rw [hzs]
            refine run_firstCells_some w.drew 32 i ⟨g, 0, none⟩ i cap _ (by rw [encN.all_len, hlt]; rfl) (fun j v hj => ?_)
            have := rd_cells (HL.out.rd.take i) j v hj
            exact this
          have hge : cap + 1 ≤ grownCap w (cap + 1) cap 70 := grownCap_ge w _ _ _
          have hle : grownCap w (cap + 1) cap 70 ≤ maxLen := grownCap_le_maxLen w (cap + 1) cap 70 (by unfold maxLen; omega)
          have h := fun ty => Lib.run_append_grow_zeros w 39 3 ty 70 inf _ .i64 .i64 Tryz.underlying39 Tryz.underlying3 hq hz (some ⟨g, 0, none⟩) i cap (encN.all (L.take i)) hold (cap + 1 - i) (by omega) (by omega) (by omega) (by omega) (by rw [hzb]; omega) (by rw [hzb, show i + (cap + 1 - i) = cap + 1 by omega]; exact growslice_fits (by omega) (by omega))
          have e1 : i + (cap + 1 - i) = cap + 1 := by omega
          have e2 : ((cap + 1 - i : Nat) : Int) = (cap : Int) + 1 - i := by omega
          simp only [e1, e2, ← hG] at h
          obtain ⟨GC, hgc⟩ : ∃ GC, GC = grownCap w (cap + 1) cap 70 := ⟨_, rfl⟩
          simp only [← hgc] at h
          rw [← hgc] at hge hle
          refine ⟨GC, _, h, hge, ?_, ?_⟩
          · rw [hG]
            refine Rw.of_row (heap_alloc_new w.drew _) (by rw [hlt]; omega) hle ?_ ?_
            · have hz32 : (Value.agg (vals zid).toArray).cells.size = 32 := rfl
              simp only [Array.size_append, List.size_toArray, encN.all_len, hlt, Builtin.zeroCells, Array.size_map, Array.size_range, hz32]
              show i * 32 + (cap + 1 - i) * 32 + (GC - (cap + 1)) * 32 = GC * 32
              omega
            · rw [Array.toList_append, Array.toList_append, List.toList_toArray, List.append_assoc]
              exact List.take_left' (by rw [encN.all_len])
          · exact (Below.refl _ w).drew.alloc (Nat.le_refl _) _
      have hszz : (Tryz.prog.info? 70).map (·.size) = some encN.k := by kernel_rfl
      have hlt : (L.take i).length = i := by rw [List.length_take, Nat.min_eq_left (Nat.le_of_lt hil)]
      obtain ⟨W2, hW2, hR2, hM2⟩ := run_copyR hR1 39 39 Tryz.underlying39 hszz i [y] ⟨vb, 0, none⟩ (cap + 1 - i) (GC - i) 1 1 (by show 1 = min 1 (cap + 1 - i); omega) (by rw [hlt]; exact Nat.le_refl _) (by show i + 1 ≤ GC; omega) (rd_cells ((id_rd HV.out).old hB1))
      rw [List.take_take, Nat.min_self, List.drop_eq_nil_of_le (by rw [hlt]; omega), List.append_nil] at hR2
      have hGw : w.heap.size ≤ G := by rw [hG]; exact Nat.le_refl _
      have hB2 : Below w.heap.size w W2 := hB1.trans (hM2.to_below hB1.size (by rintro k hk rfl; omega))
      have HRZ := Lib.hid hrz
      have HW2 := Lib.hid hW2
      have HR2 := Lib.hid hR2
      have HB2 := Lib.hid hB2
      have HGW := Lib.hid hGw
      have HSZ := Lib.hid hszz
      have HLT := Lib.hid hlt
      have HILL := Lib.hid hil
      have hGCi : GC ≠ i := by omega
      have hGCj : GC ≠ i + 1 := by omega
      have hci : cap ≠ i := by omega
      have e1 : 0 + i * 32 = i * 32 := by omega
      have e2 : 0 + (i + 1) * 32 = (i + 1) * 32 := by omega
      have e3 : cap + 1 - (i + 1) = cap - i := by omega
      have HRS : Hid (Rd encN W2.drew (some ⟨g, i * 32, none⟩) (L.drop i)) := Lib.hid (by
        have := (HL.out.rd.old (hB2.trans (Below.refl _ W2).drew)).dropE i
        rw [Nat.zero_add] at this; exact this)
      have HR2d : Hid (Rw encN 70 W2.drew (some ⟨G, 0, none⟩) GC (L.take i ++ [y])) := Lib.hid (hR2.kept (Mod.refl (fun _ => False) W2).drew (fun _ _ h => h))
      clear hrz hW2 hR2 hM2 hB2 hGw hszz hlt hil hG hR1 hB1
      go_enter Tryz.func83, Tryz.ntmps83
      go_upto_region 11 with (first
        | (refine wpList_exec rfl (exec_slice_h (.tmp 32) (.tmp 33) rfl g 0 cap cap i rfl rfl (by omega)) ?_)
        | (at_builtin; refine Lib.wpList_append_run _ rfl (.tmp 34) (.tmp 39) 39 3 rfl _ _ rfl rfl _ _ (HRZ.out _) ?_)
        | (refine wpList_exec rfl (exec_slice_l (.tmp 41) (.tmp 42) rfl G 0 (cap + 1) GC i rfl rfl (by omega) hGCi e1 rfl rfl) ?_)
        | (refine wpList_exec rfl (exec_copy (.tmp 43) (.tmp 44) 39 39 rfl _ _ rfl rfl HW2.out) ?_))
      have HG0 : Hid ((fun (j : Nat) (_ : Value) (w1 : World) => (j = 0 → w1 = W2.drew) ∧ (j = 1 → Rw encN 70 w1 (some ⟨G, 0, none⟩) GC ((L.take i ++ [y]).take (i + 1) ++ L.drop i ++ (L.take i ++ [y]).drop (i + 1 + (L.drop i).length)) ∧ Mod (fun k => k = G) W2 w1)) 0 undef W2.drew) := Lib.hid ⟨fun _ => rfl, fun h => absurd h (by omega)⟩
      refine wp_region_chain (fun t v => match t with
        | 46 => v = .slice (some ⟨G, 0, none⟩) (cap + 1) GC
        | 47 => v = .int .i64 (i : Int)
        | 48 => v = .int .i64 1
        | 49 => v = .int .i64 ((i + 1 : Nat) : Int)
        | 50 => v = .slice (some ⟨G, (i + 1) * 32, none⟩) (cap - i) (GC - (i + 1))
        | 51 => v = .slice (some ⟨g, 0, none⟩) cap cap
        | 52 => v = .int .i64 (i : Int)
        | 53 => v = .slice (some ⟨g, i * 32, none⟩) (cap - i) (cap - i)
        | _ => True) (fun (j : Nat) (_ : Value) (w1 : World) => (j = 0 → w1 = W2.drew) ∧ (j = 1 → Rw encN 70 w1 (some ⟨G, 0, none⟩) GC ((L.take i ++ [y]).take (i + 1) ++ L.drop i ++ (L.take i ++ [y]).drop (i + 1 + (L.drop i).length)) ∧ Mod (fun k => k = G) W2 w1)) [8] 95 (by kernel_rfl) (by decide +kernel) rfl (by decide +kernel) (by decide) (by decide) HG0.out (by
        refine OweAllC.cons (owesC_val 0 (by decide +kernel) (by decide) rfl rfl fun k' a w1 x hk ha hG hV => ?_) ?_
        · skip
          have h9 := ha.outer 9 (by decide +kernel)
          simp only [Act.eval] at h9
          exact ⟨.slice (some ⟨G, 0, none⟩) (cap + 1) GC, wanted_free rfl, by simp [execOp, go_sem, h9], rfl⟩
        refine OweAllC.cons (owesC_val 0 (by decide +kernel) (by decide) rfl rfl fun k' a w1 x hk ha hG hV => ?_) ?_
        · skip
          have h1 := ha.outer 1 (by decide +kernel)
          simp only [Act.eval] at h1
          exact ⟨.int .i64 (i : Int), wanted_free rfl, by simp [execOp, go_sem, h1], rfl⟩
        refine OweAllC.cons (owesC_val 0 (by decide +kernel) (by decide) rfl rfl fun k' a w1 x hk ha hG hV => ?_) ?_
        · skip
          have h7 := ha.outer 7 (by decide +kernel)
          simp only [Act.eval] at h7
          exact ⟨.int .i64 1, wanted_free rfl, by simp [execOp, go_sem, h7], rfl⟩
        refine OweAllC.cons (owesC_val 0 (by decide +kernel) (by decide) rfl rfl fun k' a w1 x hk ha hG hV => ?_) ?_
        · skip
          have h47 : a.tmps.getD 47 undef = .int .i64 (i : Int) := hV.get 47 (by decide +kernel)
          have h48 : a.tmps.getD 48 undef = .int .i64 1 := hV.get 48 (by decide +kernel)
          exact ⟨.int .i64 ((i + 1 : Nat) : Int), wanted_free rfl, by simp [execOp, go_sem, h47, h48, hwi], rfl⟩
        refine OweAllC.cons (owesC_val 0 (by decide +kernel) (by decide) rfl rfl fun k' a w1 x hk ha hG hV => ?_) ?_
        · skip
          have h46 : a.tmps.getD 46 undef = .slice (some ⟨G, 0, none⟩) (cap + 1) GC := hV.get 46 (by decide +kernel)
          have h49 : a.tmps.getD 49 undef = .int .i64 ((i + 1 : Nat) : Int) := hV.get 49 (by decide +kernel)
          exact ⟨.slice (some ⟨G, (i + 1) * 32, none⟩) (cap - i) (GC - (i + 1)), wanted_free rfl, exec_slice_l (.tmp 46) (.tmp 49) rfl G 0 (cap + 1) GC (i + 1) h46 h49 (by omega) hGCj e2 e3 rfl, rfl⟩
        refine OweAllC.cons (owesC_val 0 (by decide +kernel) (by decide) rfl rfl fun k' a w1 x hk ha hG hV => ?_) ?_
        · skip
          have h0 := ha.outer 0 (by decide +kernel)
          simp only [Act.eval] at h0
          exact ⟨.slice (some ⟨g, 0, none⟩) cap cap, wanted_free rfl, by simp [execOp, go_sem, h0], rfl⟩
        refine OweAllC.cons (owesC_val 0 (by decide +kernel) (by decide) rfl rfl fun k' a w1 x hk ha hG hV => ?_) ?_
        · skip
          have h1 := ha.outer 1 (by decide +kernel)
          simp only [Act.eval] at h1
          exact ⟨.int .i64 (i : Int), wanted_free rfl, by simp [execOp, go_sem, h1], rfl⟩
        refine OweAllC.cons (owesC_val 0 (by decide +kernel) (by decide) rfl rfl fun k' a w1 x hk ha hG hV => ?_) ?_
        · skip
          have h51 : a.tmps.getD 51 undef = .slice (some ⟨g, 0, none⟩) cap cap := hV.get 51 (by decide +kernel)
          have h52 : a.tmps.getD 52 undef = .int .i64 (i : Int) := hV.get 52 (by decide +kernel)
          exact ⟨.slice (some ⟨g, i * 32, none⟩) (cap - i) (cap - i), wanted_free rfl, exec_slice_l (.tmp 51) (.tmp 52) rfl g 0 cap cap i h51 h52 (by omega) hci e1 rfl rfl, rfl⟩
        refine OweAllC.cons (owesC_mem 0 rfl rfl rfl fun a w1 x ha hG hx hV => ?_) ?_
        · skip
          have h50 : a.tmps.getD 50 undef = .slice (some ⟨G, (i + 1) * 32, none⟩) (cap - i) (GC - (i + 1)) := hV.get 50 (by decide +kernel)
          have h53 : a.tmps.getD 53 undef = .slice (some ⟨g, i * 32, none⟩) (cap - i) (cap - i) := hV.get 53 (by decide +kernel)
          obtain ⟨W3, hW3, hR3, hM3⟩ := run_copyR HR2d.out 39 39 Tryz.underlying39 HSZ.out (i + 1) (L.drop i) ⟨g, i * 32, none⟩ (cap - i) (GC - (i + 1)) (cap - i) (cap - i) (by rw [List.length_drop, ← HN.out]; show _ = min _ _; omega) (by rw [List.length_append, HLT.out]; exact Nat.le_refl _) (by rw [List.length_drop, ← HN.out]; omega) (rd_cells HRS.out)
          have hw1 := hG.1 rfl
          subst hw1
          exact ⟨_, W3, wanted_free rfl, exec_copy (.tmp 50) (.tmp 53) 39 39 rfl _ _ h50 h53 hW3, trivial, (fun h => absurd h (by omega)), (fun _ => ⟨hR3, ((Mod.refl (fun k => k = G) W2).drew).trans hM3 (fun _ _ h => h)⟩)⟩
        exact OweAllC.nil
        ) ?_
      intro f wz xz hG hx hv
      first | (rename_i hK; refine hK _ _ ?_; clear hK) | (rename_i hK _; refine hK _ _ ?_; clear hK) | (rename_i hK _ _; refine hK _ _ ?_; clear hK) | (rename_i hK _ _ _; refine hK _ _ ?_; clear hK)
      clear hv hx
      simp only [dsts, puts, List.filterMap_cons, List.filterMap_nil, List.foldl_cons, List.foldl_nil, Act.put, List.setIfInBounds_toArray, List.set_cons_succ, List.set_cons_zero]
      have HR3 := Lib.hid (hG.2 rfl)
      clear hG HG0
      go_wp2_with fail
      have hfin : Rw encN 70 wz (some ⟨G, 0, none⟩) GC (L.take i ++ y :: L.drop i) := by
        have h := HR3.out.1
        have q1 : (L.take i ++ [y]).take (i + 1) = L.take i ++ [y] := List.take_of_length_le (by rw [List.length_append, HLT.out]; exact Nat.le_refl _)
        have q2 : (L.take i ++ [y]).drop (i + 1 + (L.drop i).length) = [] := List.drop_eq_nil_of_le (by rw [List.length_append, HLT.out]; show i + 1 ≤ _; omega)
        rw [q1, q2, List.append_nil, List.append_assoc] at h
        exact h
      have hbl : Below w.heap.size w wz := HB2.out.trans (HR3.out.2.to_below HB2.out.size (by rintro k hk rfl; have := HGW.out; omega))
      rw [HF.out]
      exact ⟨some ⟨G, 0, none⟩, GC, by rw [← HN.out]; rfl, hfin, (Mod.of_below hbl).mono (fun k h1 h2 => absurd h2 (by omega)), fun a e => by cases e; exact .inr HGW.out⟩
    · have hcap' : ¬ (cap : Int) < (n : Int) + 1 := by omega
      have hnc1 : (n : Int) + 1 ≤ cap := by omega
      have HGV : Hid (g ≠ vb) := Lib.hid (HNE.out _ rfl)
      have HILL := Lib.hid hil
      have hsm : IntKind.i64.wrap ((n : Int) + 1) = (n : Int) + 1 := IntWalk.i64_in _ (by omega)
      have hsz : (Tryz.prog.info? 70).map (·.size) = some encN.k := by kernel_rfl
      have HSZ := Lib.hid hsz
      have hov : (Extern.SlicesOverlaps.overlaps #[39, 39] #[4] #[.slice (some ⟨vb, 0, none⟩) 1 1, .slice (some ⟨g, (i + 1) * 32, none⟩) (n - i) (cap - (i + 1))]).run Tryz.prog w = .ok (.bool false) w := by
        obtain ⟨cur, hh, h3, h1, h2, _, _⟩ := HL.out.parts
        refine Lib.run_overlaps_apart w 39 4 70 Tryz.underlying39 32 Tryz.sizeOf70 ⟨vb, 0, none⟩ ⟨g, (i + 1) * 32, none⟩ 1 1 (n - i) (cap - (i + 1)) HGV.out.symm 70 70 32 cur.size ?_ ?_ ?_ ?_ ?_
        · simp [World.shape?, HV.out, vals_len, y.2]
        · simp [World.shape?, hh]
        · rw [h3]; show cap * 32 ≠ 0; omega
        · exact frozen_of_row w vb 0 _ 70 HV.out
        · exact frozen_of_row w vb 32 _ 70 HV.out
      have HOV := Lib.hid hov
      clear hov hsz hil hic hnc hcap
      go_enter Tryz.func83, Tryz.ntmps83
      have hcni : cap ≠ i + 1 := by omega
      have hcni' : cap ≠ i := by omega
      have e1 : 0 + (i + 1) * 32 = (i + 1) * 32 := by omega
      have e2 : n + 1 - (i + 1) = n - i := by omega
      have e3 : 0 + i * 32 = i * 32 := by omega
      have HL2 : Hid (Rw encN 70 w.drew (some ⟨g, 0, none⟩) cap L) := Lib.hid (HL.out.kept (Mod.refl (fun _ => False) w).drew (fun _ _ h => h))
      go_upto_region 14 with fail
      go_upto_region 15 with (refine wpList_exec rfl (exec_slice_l (.tmp 62) (.tmp 65) rfl g 0 (n + 1) cap (i + 1) rfl rfl (by omega) hcni e1 e2 rfl) ?_)
      rw [run_callFunc_extern Tryz.func114 (by kernel_rfl) (by kernel_rfl) (by kernel_rfl) (e := Extern.SlicesOverlaps.overlaps #[39, 39] #[4]) (by kernel_rfl), HOV.out]
      simp only [Result.andThen]
      rw [Oper.upon_value]
      go_upto_region 15 with fail
      have HG0 : Hid ((fun (j : Nat) (_ : Value) (w1 : World) => (j = 0 → w1 = w.drew) ∧ (j = 1 → Rw encN 70 w1 (some ⟨g, 0, none⟩) cap (L.take (i + 1) ++ L.drop i ++ L.drop (i + 1 + (L.drop i).length)) ∧ Mod (fun k => k = g) w w1)) 0 undef w.drew) := Lib.hid ⟨fun _ => rfl, fun h => absurd h (by omega)⟩
      refine wp_region_chain (fun t v => match t with
        | 69 => v = .slice (some ⟨g, 0, none⟩) (n + 1) cap
        | 70 => v = .int .i64 (i : Int)
        | 71 => v = .int .i64 1
        | 72 => v = .int .i64 ((i + 1 : Nat) : Int)
        | 73 => v = .slice (some ⟨g, (i + 1) * 32, none⟩) (n - i) (cap - (i + 1))
        | 74 => v = .slice (some ⟨g, 0, none⟩) (n + 1) cap
        | 75 => v = .int .i64 (i : Int)
        | 76 => v = .slice (some ⟨g, i * 32, none⟩) (n + 1 - i) (cap - i)
        | _ => True) (fun (j : Nat) (_ : Value) (w1 : World) => (j = 0 → w1 = w.drew) ∧ (j = 1 → Rw encN 70 w1 (some ⟨g, 0, none⟩) cap (L.take (i + 1) ++ L.drop i ++ L.drop (i + 1 + (L.drop i).length)) ∧ Mod (fun k => k = g) w w1)) [8] 95 (by kernel_rfl) (by decide +kernel) rfl (by decide +kernel) (by decide) (by decide) HG0.out (by
        refine OweAllC.cons (owesC_val 0 (by decide +kernel) (by decide) rfl rfl fun k' a w1 x hk ha hG hV => ?_) ?_
        · skip
          have h0 := ha.outer 0 (by decide +kernel)
          simp only [Act.eval] at h0
          exact ⟨.slice (some ⟨g, 0, none⟩) (n + 1) cap, wanted_free rfl, by simp [execOp, go_sem, h0], rfl⟩
        refine OweAllC.cons (owesC_val 0 (by decide +kernel) (by decide) rfl rfl fun k' a w1 x hk ha hG hV => ?_) ?_
        · skip
          have h1 := ha.outer 1 (by decide +kernel)
          simp only [Act.eval] at h1
          exact ⟨.int .i64 (i : Int), wanted_free rfl, by simp [execOp, go_sem, h1], rfl⟩
        refine OweAllC.cons (owesC_val 0 (by decide +kernel) (by decide) rfl rfl fun k' a w1 x hk ha hG hV => ?_) ?_
        · skip
          have h7 := ha.outer 7 (by decide +kernel)
          simp only [Act.eval] at h7
          exact ⟨.int .i64 1, wanted_free rfl, by simp [execOp, go_sem, h7], rfl⟩
        refine OweAllC.cons (owesC_val 0 (by decide +kernel) (by decide) rfl rfl fun k' a w1 x hk ha hG hV => ?_) ?_
        · skip
          have h70 : a.tmps.getD 70 undef = .int .i64 (i : Int) := hV.get 70 (by decide +kernel)
          have h71 : a.tmps.getD 71 undef = .int .i64 1 := hV.get 71 (by decide +kernel)
          exact ⟨.int .i64 ((i + 1 : Nat) : Int), wanted_free rfl, by simp [execOp, go_sem, h70, h71, hwi], rfl⟩
        refine OweAllC.cons (owesC_val 0 (by decide +kernel) (by decide) rfl rfl fun k' a w1 x hk ha hG hV => ?_) ?_
        · skip
          have h69 : a.tmps.getD 69 undef = .slice (some ⟨g, 0, none⟩) (n + 1) cap := hV.get 69 (by decide +kernel)
          have h72 : a.tmps.getD 72 undef = .int .i64 ((i + 1 : Nat) : Int) := hV.get 72 (by decide +kernel)
          exact ⟨.slice (some ⟨g, (i + 1) * 32, none⟩) (n - i) (cap - (i + 1)), wanted_free rfl, exec_slice_l (.tmp 69) (.tmp 72) rfl g 0 (n + 1) cap (i + 1) h69 h72 (by omega) hcni e1 e2 rfl, rfl⟩
        refine OweAllC.cons (owesC_val 0 (by decide +kernel) (by decide) rfl rfl fun k' a w1 x hk ha hG hV => ?_) ?_
        · skip
          have h0 := ha.outer 0 (by decide +kernel)
          simp only [Act.eval] at h0
          exact ⟨.slice (some ⟨g, 0, none⟩) (n + 1) cap, wanted_free rfl, by simp [execOp, go_sem, h0], rfl⟩
        refine OweAllC.cons (owesC_val 0 (by decide +kernel) (by decide) rfl rfl fun k' a w1 x hk ha hG hV => ?_) ?_
        · skip
          have h1 := ha.outer 1 (by decide +kernel)
          simp only [Act.eval] at h1
          exact ⟨.int .i64 (i : Int), wanted_free rfl, by simp [execOp, go_sem, h1], rfl⟩
        refine OweAllC.cons (owesC_val 0 (by decide +kernel) (by decide) rfl rfl fun k' a w1 x hk ha hG hV => ?_) ?_
        · skip
          have h74 : a.tmps.getD 74 undef = .slice (some ⟨g, 0, none⟩) (n + 1) cap := hV.get 74 (by decide +kernel)
          have h75 : a.tmps.getD 75 undef = .int .i64 (i : Int) := hV.get 75 (by decide +kernel)
          exact ⟨.slice (some ⟨g, i * 32, none⟩) (n + 1 - i) (cap - i), wanted_free rfl, exec_slice_l (.tmp 74) (.tmp 75) rfl g 0 (n + 1) cap i h74 h75 (by omega) hcni' e3 rfl rfl, rfl⟩
        refine OweAllC.cons (owesC_mem 0 rfl rfl rfl fun a w1 x ha hG hx hV => ?_) ?_
        · skip
          have h73 : a.tmps.getD 73 undef = .slice (some ⟨g, (i + 1) * 32, none⟩) (n - i) (cap - (i + 1)) := hV.get 73 (by decide +kernel)
          have h76 : a.tmps.getD 76 undef = .slice (some ⟨g, i * 32, none⟩) (n + 1 - i) (cap - i) := hV.get 76 (by decide +kernel)
          obtain ⟨W2, hW2, hR2, hM2⟩ := run_copyR HL2.out 39 39 Tryz.underlying39 HSZ.out (i + 1) (L.drop i) ⟨g, i * 32, none⟩ (n - i) (cap - (i + 1)) (n + 1 - i) (cap - i) (by rw [List.length_drop, ← HN.out]; show _ = min _ _; omega) (by rw [← HN.out]; omega) (by rw [List.length_drop, ← HN.out]; omega) (rd_cells (by have := HL2.out.rd.dropE i; rw [Nat.zero_add] at this; exact this))
          have hw1 := hG.1 rfl
          subst hw1
          exact ⟨_, W2, wanted_free rfl, exec_copy (.tmp 73) (.tmp 76) 39 39 rfl _ _ h73 h76 hW2, trivial, (fun h => absurd h (by omega)), (fun _ => ⟨hR2, ((Mod.refl (fun k => k = g) w).drew).trans hM2 (fun _ _ h => h)⟩)⟩
        exact OweAllC.nil
        ) ?_
      intro f wz xz hG hx hv
      first | (rename_i hK; refine hK _ _ ?_; clear hK) | (rename_i hK _; refine hK _ _ ?_; clear hK) | (rename_i hK _ _; refine hK _ _ ?_; clear hK) | (rename_i hK _ _ _; refine hK _ _ ?_; clear hK)
      clear hv hx
      simp only [dsts, puts, List.filterMap_cons, List.filterMap_nil, List.foldl_cons, List.foldl_nil, Act.put, List.setIfInBounds_toArray, List.set_cons_succ, List.set_cons_zero]
      have HR1 := Lib.hid (hG.2 rfl)
      have HRD := Lib.hid (id_rd ((HR1.out.2.block vb (Array.getElem?_eq_some_iff.1 HV.out).1 (fun e => HGV.out e.symm)).trans HV.out))
      have HCP := Lib.hid (run_copyR HR1.out.1 39 39 Tryz.underlying39 HSZ.out i [y] ⟨vb, 0, none⟩ (n + 1 - i) (cap - i) 1 1 (by show 1 = min 1 (n + 1 - i); omega) (by have := HILL.out; rw [List.length_append, List.length_append, List.length_take]; omega) (by show i + 1 ≤ cap; omega) (rd_cells HRD.out))
      obtain ⟨W3, hW3, hR3, hM3⟩ := HCP.out
      have HW3 := Lib.hid hW3
      have HR3 := Lib.hid hR3
      have HM3 := Lib.hid (HR1.out.2.trans hM3 (fun _ _ h => h))
      have e4 : n + 1 - i = n + 1 - i := rfl
      clear hG HG0 hW3 hR3 hM3 HCP HRD HR1
      go_wp2_with (first
        | (refine wpList_exec rfl (exec_slice_l (.tmp 78) (.tmp 79) rfl g 0 (n + 1) cap i rfl rfl (by omega) hcni' e3 e4 rfl) ?_)
        | (refine wpList_exec rfl (exec_copy (.tmp 80) (.tmp 81) 39 39 rfl _ _ rfl rfl HW3.out) ?_))
      have hfin : Rw encN 70 W3 (some ⟨g, 0, none⟩) cap (L.take i ++ y :: L.drop i) := by
        have e := insert_one L y i HILL.out
        rw [← e]; exact HR3.out
      rw [HF.out]
      exact ⟨some ⟨g, 0, none⟩, cap, by rw [HN.out], hfin, HM3.out.mono (fun k _ e => ⟨_, rfl, e⟩), fun a e => .inl e⟩
end Go.Proofs.YtemnebbdaljfbaaGreatDoor

namespace Go.Proofs.YtemnebbdaljfbaaGreatDoor
open Go.RowKit

theorem pw_of {α : Type} {R : α → α → Prop} (hs : ∀ x y, R x y → R y x) {l : List α} (h : l.Pairwise R) {x y : α} (hx : x ∈ l) (hy : y ∈ l) (hne : x ≠ y) : R x y := by
  obtain ⟨i, hi, rfl⟩ := List.getElem_of_mem hx
  obtain ⟨j, hj, rfl⟩ := List.getElem_of_mem hy
  rcases Nat.lt_trichotomy i j with h1 | h1 | h1
  · exact List.pairwise_iff_getElem.1 h i j hi hj h1
  · subst h1; exact absurd rfl hne
  · exact hs _ _ (List.pairwise_iff_getElem.1 h j i hj hi h1)
/-- What the dag has of a family. -/
def FamOf (X : DD) (s : List UInt8) (ns : List Nm) (q : Option Addr) (c : Nat) : Prop :=
  ⟨s, ns, q, c⟩ ∈ X.F ∨ (hasE s (fE X.F) = false ∧ ns = [] ∧ q = none ∧ c = 0)
section
variable {S R : Nat → Prop} {w w' : World} {a : Nat} {X : DD}
theorem DG.famOf (h : DG S R w a X) (s : List UInt8) : ∃ ns q c, FamOf X s ns q c ∧ getE s (fE X.F) (.slice none 0 0) = .slice q ns.length c ∧ Rw encN 70 w q c ns ∧ ns.Pairwise lN ∧ ns.length ≤ X.K.length ∧ (∀ x, q = some x → S x.block) ∧ (∀ n, n ∈ ns ↔ ∃ b ∈ X.K, famK b = s ∧ b.id = n) := by
  cases hh : hasE s (fE X.F) with
  | true =>
    obtain ⟨f, hf, rfl, hg⟩ := h.lookF (z := .slice none 0 0) hh
    exact ⟨f.ns, f.q, f.c, .inl hf, hg, h.fr f hf, (h.fs f hf).1, h.fl f hf, h.sf f hf, (h.fs f hf).2⟩
  | false =>
    refine ⟨[], none, 0, .inr ⟨hh, rfl, rfl, rfl⟩, getE_no hh, Rw.empty _ _, List.Pairwise.nil, Nat.zero_le _, (fun x e => by cases e), fun n => ?_⟩
    constructor
    · intro e; cases e
    · rintro ⟨b, hb, e, _⟩
      obtain ⟨f, hf, ef⟩ := h.fb b hb
      have := (fE_has X.F s).2 ⟨f, hf, ef.trans e⟩
      rw [hh] at this; cases this
theorem DG.cells (h : DG S R w a X) {q : Option Addr} {c : Nat} {L : List Nm} (hr : Rw encN 70 w q c L) : ∀ x, q = some x → x.block ≠ X.m1 ∧ x.block ≠ X.m2 := by
  rintro x rfl
  rcases hr.shape with ⟨e, _⟩ | ⟨g, e, _, _, _, cur, hh, _⟩
  · cases e
  · cases e
    exact ⟨h.bm.notCells hh, h.fm.notCells hh⟩
/-- Behind put. -/
def PutP (S R : Nat → Prop) (w : World) (a : Nat) (X : DD) (b : Blk) (w' : World) : Prop :=
  ∃ (S' R' : Nat → Prop) (F' : List Fam), DG S' R' w' a ⟨X.m1, X.m2, b :: X.K, F'⟩ ∧ Mod S w w' ∧ (∀ k, S' k → S k ∨ w.heap.size ≤ k) ∧ (∀ k, R' k → R k ∨ w.heap.size ≤ k ∨ ∃ x, b.q = some x ∧ k = x.block)
theorem DG.putW (h : DG S R w a X) {b : Blk} (hb : Rw encN 70 w b.q b.c b.h.ps) (hS : ∀ x, b.q = some x → ¬ S x.block) (hk : HOk b.h ∧ b.h.ps.length ≤ 5 ∧ b.h.tk.length ≤ 8) (hid : hasE b.id (kE X.K) = false) (hlen : X.K.length < 100000)
    {ns : List Nm} {q0 q1 : Option Addr} {c0 c1 p : Nat} (hf : FamOf X (famK b) ns q0 c0) (hp : BsS ns b.id p p)
    (hM : Mod (fun k => k = X.m1 ∨ k = X.m2 ∨ ∃ x, q0 = some x ∧ k = x.block) w w') (h1 : MapK Tryz.prog 70 keyN w' X.m1 (kE (b :: X.K)))
    (h2 : MapK Tryz.prog 9 keyS w' X.m2 ((famK b, .slice q1 (ns.length + 1) c1) :: woE (famK b) (fE X.F)))
    (hr : Rw encN 70 w' q1 c1 (ns.take p ++ b.id :: ns.drop p)) (hq : ∀ x, q1 = some x → q0 = some x ∨ w.heap.size ≤ x.block) : PutP S R w a X b w' := by
  have hns : ns.Pairwise lN ∧ (∀ n, n ∈ ns ↔ ∃ b' ∈ X.K, famK b' = famK b ∧ b'.id = n) ∧ ns.length ≤ X.K.length ∧ (∀ x, q0 = some x → S x.block) := by
    rcases hf with hf | ⟨hh, rfl, rfl, rfl⟩
    · exact ⟨(h.fs _ hf).1, (h.fs _ hf).2, h.fl _ hf, h.sf _ hf⟩
    · refine ⟨List.Pairwise.nil, fun n => ⟨fun e => (by cases e), ?_⟩, Nat.zero_le _, fun x e => by cases e⟩
      rintro ⟨b', hb', e, _⟩
      obtain ⟨f, hf, ef⟩ := h.fb b' hb'
      have := (fE_has X.F (famK b)).2 ⟨f, hf, ef.trans e⟩
      rw [hh] at this; cases this
  obtain ⟨n1, n2, n3, n4⟩ := hns
  have hsub : ∀ k, (k = X.m1 ∨ k = X.m2 ∨ ∃ x, q0 = some x ∧ k = x.block) → S k := by
    rintro k (rfl | rfl | ⟨x, e, rfl⟩)
    · exact h.s1
    · exact h.s2
    · exact n4 x e
  have hMS : Mod S w w' := hM.mono (fun k _ hk => hsub k hk)
  have hnot : b.id ∉ ns := fun e => by
    obtain ⟨b', hb', _, e2⟩ := (n2 _).1 e
    have := (kE_has X.K b.id).2 ⟨b', hb', e2⟩
    rw [hid] at this; cases this
  have hq1 : ∀ x, q1 = some x → S x.block ∨ w.heap.size ≤ x.block := fun x e => (hq x e).imp (fun e' => n4 x e') id
  have hap : ∀ f ∈ X.F, ∀ g ∈ X.F, f.t ≠ g.t → ∀ x y, f.q = some x → g.q = some y → x.block ≠ y.block := fun f hf g hg hne =>
    pw_of (fun f g h x y hx hy e => h y x hy hx e.symm) h.ff hf hg (fun e => hne (by rw [e]))
  have hq0 : ∀ f ∈ X.F, f.t ≠ famK b → ∀ x y, q0 = some x → f.q = some y → x.block ≠ y.block := by
    intro f hf' hne x y hx hy
    rcases hf with hf | ⟨_, _, e, _⟩
    · exact hap _ hf f hf' (fun e => hne e.symm) x y hx hy
    · rw [e] at hx; cases hx
  have hmf : ∀ f ∈ X.F.filter (fun f => decide (f.t ≠ famK b)), f ∈ X.F ∧ f.t ≠ famK b := fun f hf => ⟨(List.mem_filter.1 hf).1, by simpa using (List.mem_filter.1 hf).2⟩
  have hfk : ∀ f ∈ X.F, f.t ≠ famK b → Rw encN 70 w' f.q f.c f.ns := fun f hf hne => (h.fr f hf).kept hM (by
    rintro x e (q | q | ⟨y, ey, q⟩)
    · exact (h.cells (h.fr f hf) x e).1 q
    · exact (h.cells (h.fr f hf) x e).2 q
    · exact hq0 f hf hne y x ey e q.symm)
  have hbk : Rw encN 70 w' b.q b.c b.h.ps := hb.kept hMS hS
  have haS : ∀ x, q1 = some x → a ≠ x.block := fun x e q => by
    rcases hq1 x e with s | s
    · exact h.sa (q ▸ s)
    · have := h.lt; omega
  refine ⟨fun k => S k ∨ ∃ x, q1 = some x ∧ k = x.block, fun k => R k ∨ (∃ x, q1 = some x ∧ k = x.block) ∨ ∃ x, b.q = some x ∧ k = x.block,
    ⟨famK b, ns.take p ++ b.id :: ns.drop p, q1, c1⟩ :: X.F.filter (fun f => decide (f.t ≠ famK b)), ?_, hMS, ?_, ?_⟩
  · refine ⟨(hMS.block a h.lt h.sa).trans h.box, h1, ?_, ?_, ?_, ?_, .inl h.s1, .inl h.s2, ?_, ?_, ?_, ?_, h.ne, .inl h.ra, ?_, ?_, ?_, ?_, ?_, ?_, ?_, ?_, ?_⟩
    · have e : fE (⟨famK b, ns.take p ++ b.id :: ns.drop p, q1, c1⟩ :: X.F.filter (fun f => decide (f.t ≠ famK b))) = (famK b, .slice q1 (ns.length + 1) c1) :: woE (famK b) (fE X.F) := by
        rw [fE_wo]
        show (famK b, Value.slice q1 (ns.take p ++ b.id :: ns.drop p).length c1) :: _ = _
        rw [ins_len]; rfl
      rw [e]; exact h2
    · intro b' hb'
      rcases List.mem_cons.1 hb' with rfl | hb'
      · exact hbk
      · exact (h.kr b' hb').kept hMS (h.sk b' hb')
    · intro b' hb'
      rcases List.mem_cons.1 hb' with rfl | hb'
      · exact hk
      · exact h.ko b' hb'
    · intro f hf'
      rcases List.mem_cons.1 hf' with rfl | hf'
      · exact hr
      · exact hfk f (hmf f hf').1 (hmf f hf').2
    · intro f hf' x e
      rcases List.mem_cons.1 hf' with rfl | hf'
      · exact .inr ⟨x, e, rfl⟩
      · exact .inl (h.sf f (hmf f hf').1 x e)
    · refine List.pairwise_cons.2 ⟨fun f hf' x y hx hy => ?_, h.ff.filter _⟩
      obtain ⟨m1, m2⟩ := hmf f hf'
      rcases hq x hx with e | e
      · exact hq0 f m1 m2 x y e hy
      · have := (h.fr f m1); rw [hy] at this; have := this.lt; omega
    · intro b' hb' x e
      have hlt : x.block < w.heap.size ∧ ¬ S x.block := by
        rcases List.mem_cons.1 hb' with rfl | hb'
        · have := hb; rw [e] at this; exact ⟨this.lt, hS x e⟩
        · have := h.kr b' hb'; rw [e] at this; exact ⟨this.lt, h.sk b' hb' x e⟩
      rintro (s | ⟨y, ey, q⟩)
      · exact hlt.2 s
      · rcases hq1 y ey with s | s
        · exact hlt.2 (q ▸ s)
        · omega
    · rintro (s | ⟨y, ey, q⟩)
      · exact h.sa s
      · exact haS y ey q
    · intro b' hb' x e
      rcases List.mem_cons.1 hb' with rfl | hb'
      · exact .inr (.inr ⟨x, e, rfl⟩)
      · exact .inl (h.rk b' hb' x e)
    · rintro k (s | s)
      · exact .inl (h.rs k s)
      · exact .inr (.inl s)
    · rintro k (s | ⟨x, e, rfl⟩ | ⟨x, e, rfl⟩)
      · exact Nat.lt_of_lt_of_le (h.rl k s) hM.size
      · have := hr; rw [e] at this; exact this.lt
      · have := hbk; rw [e] at this; exact this.lt
    · intro f hf'
      rcases List.mem_cons.1 hf' with rfl | hf'
      · refine ⟨ins_strict ns b.id p n1 hnot hp.lo hp.hi, fun n => ?_⟩
        rw [ins_mem, n2]
        constructor
        · rintro (rfl | ⟨b', hb', e1, e2⟩)
          · exact ⟨b, List.mem_cons_self, rfl, rfl⟩
          · exact ⟨b', List.mem_cons_of_mem _ hb', e1, e2⟩
        · rintro ⟨b', hb', e1, e2⟩
          rcases List.mem_cons.1 hb' with rfl | hb'
          · exact .inl e2.symm
          · exact .inr ⟨b', hb', e1, e2⟩
      · obtain ⟨m1, m2⟩ := hmf f hf'
        refine ⟨(h.fs f m1).1, fun n => ?_⟩
        rw [(h.fs f m1).2]
        constructor
        · rintro ⟨b', hb', e1, e2⟩; exact ⟨b', List.mem_cons_of_mem _ hb', e1, e2⟩
        · rintro ⟨b', hb', e1, e2⟩
          rcases List.mem_cons.1 hb' with rfl | hb'
          · exact absurd e1.symm m2
          · exact ⟨b', hb', e1, e2⟩
    · intro b' hb'
      rcases List.mem_cons.1 hb' with rfl | hb'
      · exact ⟨_, List.mem_cons_self, rfl⟩
      · by_cases e : famK b' = famK b
        · exact ⟨_, List.mem_cons_self, e.symm⟩
        · obtain ⟨f, hf', ef⟩ := h.fb b' hb'
          exact ⟨f, List.mem_cons_of_mem _ (List.mem_filter.2 ⟨hf', by rw [ef]; simpa using e⟩), ef⟩
    · intro f hf'
      rcases List.mem_cons.1 hf' with rfl | hf'
      · show (ns.take p ++ b.id :: ns.drop p).length ≤ _
        rw [ins_len, List.length_cons]; omega
      · have := h.fl f (hmf f hf').1
        rw [List.length_cons]; omega
    · have := h.fn
      have h3 : (X.F.filter (fun f => decide (f.t ≠ famK b))).length ≤ X.F.length := List.length_filter_le _ _
      simp only [List.length_cons]; omega
    · simp only [List.length_cons]; omega
    · intro f hf'
      rcases List.mem_cons.1 hf' with rfl | hf'
      · exact ⟨b, List.mem_cons_self, rfl⟩
      · obtain ⟨b', hb', e⟩ := h.fk f (hmf f hf').1
        exact ⟨b', List.mem_cons_of_mem _ hb', e⟩
  · rintro k (s | ⟨x, e, rfl⟩)
    · exact .inl s
    · exact hq1 x e
  · rintro k (s | ⟨x, e, rfl⟩ | s)
    · exact .inl s
    · rcases hq1 x e with s | s
      · exact .inl (h.rs _ s)
      · exact .inr (.inl s)
    · exact .inr (.inr s)
end
end Go.Proofs.YtemnebbdaljfbaaGreatDoor

namespace Go.Proofs.YtemnebbdaljfbaaGreatDoor
open Go.RowKit

set_option maxRecDepth 20000 in
theorem mapNB_z (w : World) : (zeroValue 39).run Tryz.prog w = .ok (.slice none 0 0) w := Tryz.zeroValue39 w
set_option maxRecDepth 20000 in
set_option maxHeartbeats 8000000 in
theorem dgput_any {S R : Nat → Prop} {da : Nat} {X : DD} {b : Blk} {w : World} (h : DG S R w da X) (hb : Rw encN 70 w b.q b.c b.h.ps) (hS : ∀ x, b.q = some x → ¬ S x.block) (hk : HOk b.h ∧ b.h.ps.length ≤ 5 ∧ b.h.tk.length ≤ 8) (hid : hasE b.id (kE X.K) = false) (hlen : X.K.length < 100000) :
    Calls Tryz.prog 39 #[.pointer (some ⟨da, 0, none⟩), .agg b.cells.toArray] w fun r w' => r = .returned (.tuple #[]) ∧ PutP S R w da X b w' := by
  obtain ⟨F, hF⟩ : ∃ F : Ending → World → Prop, F = fun r w' => r = .returned (.tuple #[]) ∧ PutP S R w da X b w' := ⟨_, rfl⟩
  rw [← hF]
  obtain ⟨ns, q0, c0, hf, hget, hrw, hstr, hnl, hqS, _⟩ := h.famOf (famK b)
  have HF := Lib.hid hF
  have HFO := Lib.hid hf
  have HST := Lib.hid hstr
  have HNL : Hid (ns.length ≤ 100000) := Lib.hid (Nat.le_trans hnl h.len)
  have HEND : Hid (∀ (w' : World) (q1 : Option Addr) (c1 p : Nat), BsS ns b.id p p → Mod (fun k => k = X.m1 ∨ k = X.m2 ∨ ∃ x, q0 = some x ∧ k = x.block) w w' → MapK Tryz.prog 70 keyN w' X.m1 (kE (b :: X.K)) → MapK Tryz.prog 9 keyS w' X.m2 ((famK b, .slice q1 (ns.length + 1) c1) :: woE (famK b) (fE X.F)) →
      Rw encN 70 w' q1 c1 (ns.take p ++ b.id :: ns.drop p) → (∀ x, q1 = some x → q0 = some x ∨ w.heap.size ≤ x.block) → PutP S R w da X b w') := Lib.hid (fun w' q1 c1 p h1 h2 h3 h4 h5 h6 => h.putW hb hS hk hid hlen hf h1 h2 h3 h4 h5 h6)
  obtain ⟨W1, hW1⟩ : ∃ W1, W1 = w.alloc (.cells b.cells.toArray 72) := ⟨_, rfl⟩
  obtain ⟨g, hg⟩ : ∃ g, g = w.heap.size := ⟨_, rfl⟩
  have hb1 : Below w.heap.size w W1 := by rw [hW1]; exact alloc1 _ _
  have hrow : W1.heap[g]? = some (.cells b.cells.toArray 72 (0, 0)) := by rw [hW1, hg]; exact heap_alloc_new w _
  have HW1 := Lib.hid hW1
  have HGE := Lib.hid hg
  have HB1 := Lib.hid hb1
  have HROW := Lib.hid hrow
  have h1 := h.old hb1
  have hlt := h1.lt
  have HBOX : Hid (W1.heap[da]? = some (.cells #[.map (some X.m1), .map (some X.m2)] 82 (0, 0))) := Lib.hid h1.box
  have HST1 : Hid (∃ w2, (Instr.mapUpdate 79 (.map (some X.m1)) (.agg (vals b.id.1).toArray) (.agg b.cells.toArray)).run Tryz.prog W1.drew = .ok () w2 ∧ MapK Tryz.prog 70 keyN w2 X.m1 (kE (b :: X.K)) ∧ Mod (fun k => k = X.m1) W1 w2) := Lib.hid (by
    obtain ⟨w2, hr, hm, hmd⟩ := (h1.bm.kept (Mod.refl (fun _ => False) W1).drew (fun e => e)).store keyedN Tryz.underlying79 (by rw [kE_len]; unfold maxLen; omega) (keyN_of b.id) (.agg b.cells.toArray)
    refine ⟨w2, hr, ?_, ((Mod.refl (fun k => k = X.m1) W1).drew).trans hmd (fun _ _ e => e)⟩
    have e : kE (b :: X.K) = (b.id, .agg b.cells.toArray) :: woE b.id (kE X.K) := by rw [woE_no hid]; rfl
    rw [e]; exact hm)
  have ha1 : da ≠ X.m1 := fun e => h.sa (e ▸ h.s1)
  have ha2 : da ≠ X.m2 := fun e => h.sa (e ▸ h.s2)
  have hgm : g ≠ X.m1 := h1.bm.notCells hrow
  have h21 : X.m2 ≠ X.m1 := fun e => h.ne e.symm
  have HK2 : Hid (∀ w2, Mod (fun k => k = X.m1) W1 w2 → w2.heap[da]? = some (.cells #[.map (some X.m1), .map (some X.m2)] 82 (0, 0)) ∧ w2.heap[g]? = some (.cells b.cells.toArray 72 (0, 0)) ∧ MapK Tryz.prog 9 keyS w2 X.m2 (fE X.F) ∧ Rw encN 70 w2 q0 c0 ns ∧ Rd encN w2 b.q b.h.ps) := Lib.hid (fun w2 hm =>
    ⟨(hm.block da hlt ha1).trans h1.box, (hm.block g (Array.getElem?_eq_some_iff.1 hrow).1 hgm).trans hrow, h1.fm.kept hm h21, (hrw.old hb1).kept hm (fun x e => (h1.cells (hrw.old hb1) x e).1), ((hb.old hb1).kept hm (fun x e => (h1.cells (hb.old hb1) x e).1)).rd⟩)
  have HAD : Hid (b.q = none ∨ ∃ g off, b.q = some ⟨g, off, none⟩) := Lib.hid (by
    rcases hb.shape with ⟨e, _⟩ | ⟨g, e, _⟩
    · exact .inl e
    · exact .inr ⟨g, 0, e⟩)
  have HOKH := Lib.hid hk.1
  have HGET := Lib.hid hget
  have HQC : Hid (∀ w2, Rw encN 70 w2 q0 c0 ns → MapK Tryz.prog 9 keyS w2 X.m2 (fE X.F) → ¬ ∃ y, q0 = some y ∧ X.m2 = y.block) := Lib.hid (fun w2 hr hm => by
    rintro ⟨y, rfl, e⟩
    rcases hr.shape with ⟨e2, _⟩ | ⟨g2, e2, _, _, _, cur, hh, _⟩
    · cases e2
    · cases e2; exact hm.notCells hh e.symm)
  have HQ1 : Hid (∀ w2, Rw encN 70 w2 q0 c0 ns → MapK Tryz.prog 70 keyN w2 X.m1 (kE (b :: X.K)) → ¬ ∃ y, q0 = some y ∧ X.m1 = y.block) := Lib.hid (fun w2 hr hm => by
    rintro ⟨y, rfl, e⟩
    rcases hr.shape with ⟨e2, _⟩ | ⟨g2, e2, _, _, _, cur, hh, _⟩
    · cases e2
    · cases e2; exact hm.notCells hh e.symm)
  have HNE : Hid (X.m1 ≠ X.m2) := Lib.hid h.ne
  have HFL : Hid ((fE X.F).length < maxLen) := Lib.hid (by rw [fE_len]; have := h.fn; unfold maxLen; omega)
  have HKS : Hid (keyOf Tryz.prog 9 (.string ⟨(famK b).toArray⟩) = some (keyS.lit (famK b))) := Lib.hid (keyS_of _ (by
    unfold famK hfam maxLen
    have n1 := numL_len b.h.ht (by have := hk.1.b1.2; omega)
    have n2 := numL_len (pwN b.h.pw) (by have := hk.1.pw; unfold pwN; split <;> omega)
    have n4 := kB_len (kset b.h.ps)
    have n5 := kset_len b.h.ps
    have n3 := numL_len ((kB (kset b.h.ps)).length : Int) (by omega)
    simp only [List.length_append]; omega))
  obtain ⟨FM, hFM⟩ : ∃ FM, FM = famK b := ⟨_, rfl⟩
  have HFM := Lib.hid hFM
  clear h hb hS hk hid hlen hF hf hget hrw hstr hnl hqS hW1 hg hb1 hrow h1 hlt ha1 ha2 hgm h21 hFM
  go_enter Tryz.func39, Tryz.ntmps39
  go_wp2_with fail
  rw [← HW1.out, ← HGE.out]
  have HG0 : Hid ((fun (j : Nat) (_ : Value) (w1 : World) => (j = 0 → w1 = W1.drew) ∧ (j = 1 → MapK Tryz.prog 70 keyN w1 X.m1 (kE (b :: X.K)) ∧ Mod (fun k => k = X.m1) W1 w1)) 0 undef W1.drew) := Lib.hid ⟨fun _ => rfl, fun h => absurd h (by omega)⟩
  refine wp_region_chain (fun t v => match t with
    | 8 => v = .pointer (some ⟨da, 0, none⟩)
    | 9 => v = .pointer (some ⟨da, 0, none⟩)
    | 10 => v = .pointer (some ⟨da, 0, none⟩)
    | 11 => v = .map (some X.m1)
    | 12 => v = .pointer (some ⟨g, 0, none⟩)
    | 13 => v = .agg (vals b.id.1).toArray
    | 14 => v = .agg b.cells.toArray
    | _ => True) (fun (j : Nat) (_ : Value) (w1 : World) => (j = 0 → w1 = W1.drew) ∧ (j = 1 → MapK Tryz.prog 70 keyN w1 X.m1 (kE (b :: X.K)) ∧ Mod (fun k => k = X.m1) W1 w1)) [7] 42 (by kernel_rfl) (by decide +kernel) rfl (by decide +kernel) (by decide) (by decide) HG0.out (by
    refine OweAllC.cons (owesC_val 0 (by decide +kernel) (by decide) rfl rfl fun k' a w1 x hk ha hG hV => ?_) ?_
    · skip
      have h0 := ha.outer 0 (by decide +kernel)
      simp only [Act.eval] at h0
      exact ⟨.pointer (some ⟨da, 0, none⟩), wanted_free rfl, by simp [execOp, go_sem, h0], rfl⟩
    refine OweAllC.cons (owesC_val 0 (by decide +kernel) (by decide) rfl rfl fun k' a w1 x hk ha hG hV => ?_) ?_
    · skip
      have h8 : a.tmps.getD 8 undef = .pointer (some ⟨da, 0, none⟩) := hV.get 8 (by decide +kernel)
      exact ⟨.pointer (some ⟨da, 0, none⟩), wanted_free rfl, by simp [execOp, go_sem, h8], rfl⟩
    refine OweAllC.cons (owesC_val 0 (by decide +kernel) (by decide) rfl rfl fun k' a w1 x hk ha hG hV => ?_) ?_
    · skip
      have h9 : a.tmps.getD 9 undef = .pointer (some ⟨da, 0, none⟩) := hV.get 9 (by decide +kernel)
      exact ⟨.pointer (some ⟨da, 0, none⟩), wanted_free rfl, by simp [execOp, go_sem, h9], rfl⟩
    refine OweAllC.cons (owesC_val 0 (by decide +kernel) (by decide) rfl rfl fun k' a w1 x hk ha hG hV => ?_) ?_
    · skip
      have h10 : a.tmps.getD 10 undef = .pointer (some ⟨da, 0, none⟩) := hV.get 10 (by decide +kernel)
      have hw1 := hG.1 (by omega)
      subst hw1
      have cc : W1.drew.cell? ⟨da, 0, none⟩ = some (.map (some X.m1)) := cell_of_row _ da 0 _ _ _ (show W1.drew.heap[da]? = _ from HBOX.out)
      exact ⟨.map (some X.m1), wanted_free rfl, by simp [execOp, go_sem, h10, cc], rfl⟩
    refine OweAllC.cons (owesC_val 0 (by decide +kernel) (by decide) rfl rfl fun k' a w1 x hk ha hG hV => ?_) ?_
    · skip
      have h3 := ha.outer 3 (by decide +kernel)
      simp only [Act.eval] at h3
      exact ⟨.pointer (some ⟨g, 0, none⟩), wanted_free rfl, by simp [execOp, go_sem, h3], rfl⟩
    refine OweAllC.cons (owesC_val 0 (by decide +kernel) (by decide) rfl rfl fun k' a w1 x hk ha hG hV => ?_) ?_
    · skip
      have h12 : a.tmps.getD 12 undef = .pointer (some ⟨g, 0, none⟩) := hV.get 12 (by decide +kernel)
      have hw1 := hG.1 (by omega)
      subst hw1
      exact ⟨.agg (vals b.id.1).toArray, wanted_free rfl, exec_load_mid (.tmp 12) rfl g 0 h12 b.id (fun i u hu => blk_id (show W1.drew.heap[g]? = _ from HROW.out) hu), rfl⟩
    refine OweAllC.cons (owesC_val 0 (by decide +kernel) (by decide) rfl rfl fun k' a w1 x hk ha hG hV => ?_) ?_
    · skip
      have h3 := ha.outer 3 (by decide +kernel)
      simp only [Act.eval] at h3
      have hw1 := hG.1 (by omega)
      subst hw1
      exact ⟨.agg b.cells.toArray, wanted_free rfl, exec_load_row 72 (.tmp 3) rfl g h3 72 _ (0, 0) _ (show W1.drew.heap[g]? = _ from HROW.out) Tryz.underlying72 rfl (blk_info b), rfl⟩
    refine OweAllC.cons (owesC_store 0 rfl rfl rfl fun a w1 x ha hG hx hV => ?_) ?_
    · skip
      have h11 : a.tmps.getD 11 undef = .map (some X.m1) := hV.get 11 (by decide +kernel)
      have h13 : a.tmps.getD 13 undef = .agg (vals b.id.1).toArray := hV.get 13 (by decide +kernel)
      have h14 : a.tmps.getD 14 undef = .agg b.cells.toArray := hV.get 14 (by decide +kernel)
      have hw1 := hG.1 (by omega)
      subst hw1
      obtain ⟨w2, hr, hm, hmd⟩ := HST1.out
      exact ⟨w2, wanted_free rfl, by simp [execOp, go_sem, h11, h13, h14, hr], (fun h => absurd h (by omega)), fun _ => ⟨hm, hmd⟩⟩
    exact OweAllC.nil
    ) ?_
  intro f wz xz hG hx hv
  first | (rename_i hK; refine hK _ _ ?_; clear hK) | (rename_i hK _; refine hK _ _ ?_; clear hK) | (rename_i hK _ _; refine hK _ _ ?_; clear hK) | (rename_i hK _ _ _; refine hK _ _ ?_; clear hK)
  clear hv hx
  simp only [dsts, puts, List.filterMap_cons, List.filterMap_nil, List.foldl_cons, List.foldl_nil, Act.put, List.setIfInBounds_toArray, List.set_cons_succ, List.set_cons_zero]
  have HM2 := Lib.hid (hG.2 rfl)
  have HK := Lib.hid (HK2.out _ HM2.out.2)
  clear hG HG0 HST1 HBOX HROW
  have hhd : ∀ i u, (hcells b.h b.q b.c).toList[i]? = some u → wz.cell? ⟨g, 32 + i, none⟩ = some u := fun i u hu => blk_hd HK.out.2.1 hu
  have HHD := Lib.hid hhd
  clear hhd
  go_upto_region 3 with (refine wpList_exec rfl (exec_load_hd (.tmp 15) rfl g 32 rfl b.h b.q b.c HHD.out) ?_)
  refine (hfamily_any b.h b.q b.c _ HK.out.2.2.2.2 HAD.out HOKH.out.n HOKH.out.pw HOKH.out.b1).mono ?_
  rintro r w3 ⟨rfl, hb3⟩
  have hcA : w3.cell? ⟨da, 1, none⟩ = some (.map (some X.m2)) := cell_of_row _ da 1 _ _ _ ((hb3.block da (Array.getElem?_eq_some_iff.1 HK.out.1).1).trans HK.out.1)
  have hfm3 := HK.out.2.2.1.old hb3
  have hrw3 := HK.out.2.2.2.1.old hb3
  have hg3 := (hb3.block g (Array.getElem?_eq_some_iff.1 HK.out.2.1).1).trans HK.out.2.1
  have hlk := hfm3.look keyedS Tryz.underlying80 (mapNB_z w3) HKS.out
  rw [HGET.out] at hlk
  have HB3 := Lib.hid hb3
  have HFM3 := Lib.hid hfm3
  have HRW3 := Lib.hid hrw3
  have HG3 := Lib.hid hg3
  have e1 : hfam b.h (kB (kset b.h.ps)) = FM := HFM.out.symm
  rw [e1]
  rw [← HFM.out] at hlk
  clear hb3 hfm3 hrw3 hg3 e1
  go_upto_region 4 with fail
  have HCA := Lib.hid hcA
  clear hlk hcA
  have hid4 : ∀ i u, (encN.f b.id)[i]? = some u → w3.cell? ⟨g, 0 + i, none⟩ = some u := fun i u hu => blk_id HG3.out hu
  have HID4 := Lib.hid hid4
  clear hid4
  obtain ⟨n, hn⟩ : ∃ n, n = ns.length := ⟨_, rfl⟩
  have HN := Lib.hid hn
  rw [← hn]
  have HBS := Lib.hid (bsearch_any q0 c0 ns b.id w3 HRW3.out.rd (by have := HNL.out; omega) HST.out)
  rw [← hn] at HBS
  clear hn
  go_upto_region 5 with (refine wpList_exec rfl (exec_load_mid (.tmp 26) rfl g 0 rfl b.id HID4.out) ?_)
  refine HBS.out.mono ?_
  rintro r W4 ⟨⟨p, bb, rfl, hbs⟩, hb4⟩
  have HP := Lib.hid hbs
  have HB4 := Lib.hid hb4
  have HBOX4 : Hid (W4.heap[da]? = some (.cells #[.map (some X.m1), .map (some X.m2)] 82 (0, 0))) := Lib.hid ((hb4.block da (Nat.lt_of_lt_of_le (Array.getElem?_eq_some_iff.1 HK.out.1).1 HB3.out.size)).trans ((HB3.out.block da (Array.getElem?_eq_some_iff.1 HK.out.1).1).trans HK.out.1))
  have HG4 : Hid (W4.heap[g]? = some (.cells b.cells.toArray 72 (0, 0))) := Lib.hid ((hb4.block g (Array.getElem?_eq_some_iff.1 HG3.out).1).trans HG3.out)
  have HFM4 := Lib.hid (HFM3.out.old hb4)
  have HRW4 := Lib.hid (HRW3.out.old hb4)
  have HM4 : Hid (MapK Tryz.prog 70 keyN W4 X.m1 (kE (b :: X.K))) := Lib.hid ((HM2.out.1.old HB3.out).old hb4)
  have HMOD4 : Hid (Mod (fun k => k = X.m1) W1 W4) := Lib.hid ((HM2.out.2.trans (Mod.of_below HB3.out) (fun i hi e => by have := HM2.out.2.size; omega)).trans (Mod.of_below hb4) (fun i hi e => by have := HM2.out.2.size; have := HB3.out.size; omega))
  clear hbs hb4 HCA HID4 HBS HHD
  go_upto_region 5 with fail
  have HG0 : Hid ((fun (j : Nat) (x : Value) (w1 : World) => (j ≤ 1 → Below W4.heap.size W4 w1) ∧ (j ≤ 2 → Mod (fun k => ∃ y, q0 = some y ∧ k = y.block) W4 w1) ∧ (j = 1 → ∃ vb, x = .slice (some ⟨vb, 0, none⟩) 1 1 ∧ w1.heap[vb]? = some (.cells (vals b.id.1).toArray 70 (0, 0)) ∧ W4.heap.size ≤ vb) ∧ (j = 2 → ∃ q1 c1, x = .slice q1 (ns.length + 1) c1 ∧ Rw encN 70 w1 q1 c1 (ns.take p ++ b.id :: ns.drop p) ∧ (∀ y, q1 = some y → q0 = some y ∨ W4.heap.size ≤ y.block)) ∧ (3 ≤ j → ∃ q1 c1, Rw encN 70 w1 q1 c1 (ns.take p ++ b.id :: ns.drop p) ∧ (∀ y, q1 = some y → q0 = some y ∨ W4.heap.size ≤ y.block) ∧ MapK Tryz.prog 9 keyS w1 X.m2 ((famK b, .slice q1 (ns.length + 1) c1) :: woE (famK b) (fE X.F)) ∧ Mod (fun k => k = X.m2 ∨ ∃ y, q0 = some y ∧ k = y.block) W4 w1)) 0 undef W4.drew) := Lib.hid ⟨fun _ => (Below.refl _ _).drew, fun _ => (Mod.refl _ _).drew, fun h => absurd h (by omega), fun h => absurd h (by omega), fun h => absurd h (by omega)⟩
  refine wp_region_chain (fun t v => match t with
    | 31 => v = .pointer (some ⟨da, 0, none⟩)
    | 32 => v = .pointer (some ⟨da, 0, none⟩)
    | 33 => v = .pointer (some ⟨da, 1, none⟩)
    | 34 => v = .map (some X.m2)
    | 35 => v = .string ⟨FM.toArray⟩
    | 36 => v = .slice q0 n c0
    | 37 => v = .int .i64 (p : Int)
    | 38 => v = .pointer (some ⟨g, 0, none⟩)
    | 39 => v = .agg (vals b.id.1).toArray
    | _ => True) (fun (j : Nat) (x : Value) (w1 : World) => (j ≤ 1 → Below W4.heap.size W4 w1) ∧ (j ≤ 2 → Mod (fun k => ∃ y, q0 = some y ∧ k = y.block) W4 w1) ∧ (j = 1 → ∃ vb, x = .slice (some ⟨vb, 0, none⟩) 1 1 ∧ w1.heap[vb]? = some (.cells (vals b.id.1).toArray 70 (0, 0)) ∧ W4.heap.size ≤ vb) ∧ (j = 2 → ∃ q1 c1, x = .slice q1 (ns.length + 1) c1 ∧ Rw encN 70 w1 q1 c1 (ns.take p ++ b.id :: ns.drop p) ∧ (∀ y, q1 = some y → q0 = some y ∨ W4.heap.size ≤ y.block)) ∧ (3 ≤ j → ∃ q1 c1, Rw encN 70 w1 q1 c1 (ns.take p ++ b.id :: ns.drop p) ∧ (∀ y, q1 = some y → q0 = some y ∨ W4.heap.size ≤ y.block) ∧ MapK Tryz.prog 9 keyS w1 X.m2 ((famK b, .slice q1 (ns.length + 1) c1) :: woE (famK b) (fE X.F)) ∧ Mod (fun k => k = X.m2 ∨ ∃ y, q0 = some y ∧ k = y.block) W4 w1)) [9, 10, 11] 42 (by kernel_rfl) (by decide +kernel) rfl (by decide +kernel) (by decide) (by decide) HG0.out (by
    refine OweAllC.cons (owesC_val 2 (by decide +kernel) (by decide) rfl rfl fun k' a w1 x hk ha hG hV => ?_) ?_
    · skip
      have h0 := ha.outer 0 (by decide +kernel)
      simp only [Act.eval] at h0
      exact ⟨.pointer (some ⟨da, 0, none⟩), wanted_free rfl, by simp [execOp, go_sem, h0], rfl⟩
    refine OweAllC.cons (owesC_val 2 (by decide +kernel) (by decide) rfl rfl fun k' a w1 x hk ha hG hV => ?_) ?_
    · skip
      have h31 : a.tmps.getD 31 undef = .pointer (some ⟨da, 0, none⟩) := hV.get 31 (by decide +kernel)
      exact ⟨.pointer (some ⟨da, 0, none⟩), wanted_free rfl, by simp [execOp, go_sem, h31], rfl⟩
    refine OweAllC.cons (owesC_val 2 (by decide +kernel) (by decide) rfl rfl fun k' a w1 x hk ha hG hV => ?_) ?_
    · skip
      have h32 : a.tmps.getD 32 undef = .pointer (some ⟨da, 0, none⟩) := hV.get 32 (by decide +kernel)
      exact ⟨.pointer (some ⟨da, 1, none⟩), wanted_free rfl, by simp [execOp, go_sem, h32], rfl⟩
    refine OweAllC.cons (owesC_val 2 (by decide +kernel) (by decide) rfl rfl fun k' a w1 x hk ha hG hV => ?_) ?_
    · skip
      have h33 : a.tmps.getD 33 undef = .pointer (some ⟨da, 1, none⟩) := hV.get 33 (by decide +kernel)
      have hmm := hG.2.1 (by omega)
      have hnq : ¬ ∃ y, q0 = some y ∧ da = y.block := by
          rintro ⟨y, rfl, e⟩
          rcases HRW4.out.shape with ⟨e2, _⟩ | ⟨g2, e2, _, _, _, cur, hh, _⟩
          · cases e2
          · cases e2; subst e; have := HBOX4.out; rw [hh] at this; simp only [Option.some.injEq, Obj.cells.injEq] at this; exact absurd this.2.1 (by decide)
      have cc : w1.cell? ⟨da, 1, none⟩ = some (.map (some X.m2)) := cell_of_row _ da 1 _ _ _ ((hmm.block da (Array.getElem?_eq_some_iff.1 HBOX4.out).1 hnq).trans HBOX4.out)
      exact ⟨.map (some X.m2), wanted_free rfl, by simp [execOp, go_sem, h33, cc], rfl⟩
    refine OweAllC.cons (owesC_val 2 (by decide +kernel) (by decide) rfl rfl fun k' a w1 x hk ha hG hV => ?_) ?_
    · skip
      have h4 := ha.outer 4 (by decide +kernel)
      simp only [Act.eval] at h4
      exact ⟨.string ⟨FM.toArray⟩, wanted_free rfl, by simp [execOp, go_sem, h4], rfl⟩
    refine OweAllC.cons (owesC_val 1 (by decide +kernel) (by decide) rfl rfl fun k' a w1 x hk ha hG hV => ?_) ?_
    · skip
      have h5 := ha.outer 5 (by decide +kernel)
      simp only [Act.eval] at h5
      exact ⟨.slice q0 n c0, wanted_free rfl, by simp [execOp, go_sem, h5], rfl⟩
    refine OweAllC.cons (owesC_val 1 (by decide +kernel) (by decide) rfl rfl fun k' a w1 x hk ha hG hV => ?_) ?_
    · skip
      have h6 := ha.outer 6 (by decide +kernel)
      simp only [Act.eval] at h6
      exact ⟨.int .i64 (p : Int), wanted_free rfl, by simp [execOp, go_sem, h6], rfl⟩
    refine OweAllC.cons (owesC_val 0 (by decide +kernel) (by decide) rfl rfl fun k' a w1 x hk ha hG hV => ?_) ?_
    · skip
      have h3 := ha.outer 3 (by decide +kernel)
      simp only [Act.eval] at h3
      exact ⟨.pointer (some ⟨g, 0, none⟩), wanted_free rfl, by simp [execOp, go_sem, h3], rfl⟩
    refine OweAllC.cons (owesC_val 0 (by decide +kernel) (by decide) rfl rfl fun k' a w1 x hk ha hG hV => ?_) ?_
    · skip
      have h38 : a.tmps.getD 38 undef = .pointer (some ⟨g, 0, none⟩) := hV.get 38 (by decide +kernel)
      have hbb := hG.1 (by omega)
      exact ⟨.agg (vals b.id.1).toArray, wanted_free rfl, exec_load_mid (.tmp 38) rfl g 0 h38 b.id (fun i u hu => blk_id ((hbb.block g (Array.getElem?_eq_some_iff.1 HG4.out).1).trans HG4.out) hu), rfl⟩
    refine OweAllC.cons (owesC_mem 0 rfl rfl rfl fun a w1 x ha hG hx hV => ?_) ?_
    · skip
      have h39 : a.tmps.getD 39 undef = .agg (vals b.id.1).toArray := hV.get 39 (by decide +kernel)
      have g39 : a.tmps[39]?.getD undef = .agg (vals b.id.1).toArray := by simpa using h39
      have hbb := hG.1 (by omega)
      have hb5 : Below w1.heap.size w1 (w1.alloc (.cells (vals b.id.1).toArray 70)) := alloc1 _ _
      exact ⟨_, _, wanted_free rfl, build_name (.tmp 39) rfl b.id.1 b.id.2 h39, trivial, (fun _ => hbb.trans (hb5.mono hbb.size)), (fun _ => ((Mod.of_below (hbb.trans (hb5.mono hbb.size))).mono (fun k h1 h2 => absurd h2 (by omega)))), (fun _ => ⟨w1.heap.size, rfl, heap_alloc_new w1 _, hbb.size⟩), (fun h => absurd h (by omega)), (fun h => absurd h (by omega))⟩
    refine OweAllC.cons (owesC_call 1 rfl rfl rfl 83 fun a w1 x ha hG hx hV => ?_) ?_
    · skip
      have h36 : a.tmps.getD 36 undef = .slice q0 n c0 := hV.get 36 (by decide +kernel)
      have h37 : a.tmps.getD 37 undef = .int .i64 (p : Int) := hV.get 37 (by decide +kernel)
      have h40 := hx 0 9 _ 40 rfl rfl rfl rfl
      simp only [Act.eval] at h40
      obtain ⟨vb, hxe, hvb, hvl⟩ := hG.2.2.1 (by omega)
      rw [hxe] at h40
      refine ⟨#[.slice q0 n c0, .int .i64 (p : Int), .slice (some ⟨vb, 0, none⟩) 1 1], wanted_free rfl, by simp [execOp, resolve, invoke, go_sem, h36, h37, h40], ?_⟩
      have hbb := hG.1 (by omega)
      have hI := insert_any q0 c0 ns p b.id vb w1 (HRW4.out.old hbb) (by have := HNL.out; omega) HP.out.jn hvb (fun y e q => by have h1 := HRW4.out; rw [e] at h1; have := h1.lt; omega)
      rw [← HN.out] at hI
      refine hI.mono ?_
      rintro r u2 ⟨q1, c1, rfl, hP1, hP2, hP3⟩
      exact ⟨_, rfl, trivial, (fun h => absurd h (by omega)), (fun _ => ((hG.2.1 (by omega)).trans hP2 (fun _ _ h => h))), (fun h => absurd h (by omega)), (fun _ => ⟨q1, c1, by rw [HN.out], hP1, fun y e => (hP3 y e).imp id (fun h => Nat.le_trans hbb.size h)⟩), (fun h => absurd h (by omega))⟩
    refine OweAllC.cons (owesC_store 2 rfl rfl rfl fun a w1 x ha hG hx hV => ?_) ?_
    · skip
      have h34 : a.tmps.getD 34 undef = .map (some X.m2) := hV.get 34 (by decide +kernel)
      have h35 : a.tmps.getD 35 undef = .string ⟨FM.toArray⟩ := hV.get 35 (by decide +kernel)
      have h41 := hx 1 10 _ 41 rfl rfl rfl rfl
      simp only [Act.eval] at h41
      obtain ⟨q1, c1, hxe, hR1, hA1⟩ := hG.2.2.2.1 (by omega)
      rw [hxe] at h41
      have hmm := hG.2.1 (by omega)
      have hfm := HFM4.out.kept hmm (HQC.out _ HRW4.out HFM4.out)
      obtain ⟨w2, hr, hm, hmd⟩ := hfm.store keyedS Tryz.underlying80 HFL.out HKS.out (.slice q1 (ns.length + 1) c1)
      rw [← HFM.out] at hr
      refine ⟨w2, wanted_free rfl, by simp [execOp, go_sem, h34, h35, h41, hr], (fun h => absurd h (by omega)), (fun h => absurd h (by omega)), (fun h => absurd h (by omega)), (fun h => absurd h (by omega)), fun _ => ⟨q1, c1, hR1.kept hmd (fun y e q => ?_), hA1, hm, (hmm.mono (fun i _ hi => .inr hi)).trans hmd (fun i _ hi => .inl hi)⟩⟩
      subst e
      rcases hR1.shape with ⟨e2, _⟩ | ⟨g2, e2, _, _, _, cur, hh, _⟩
      · cases e2
      · cases e2; exact hfm.notCells hh q
    exact OweAllC.nil
    ) ?_
  intro f wz xz hG hx hv
  clear hv hx
  obtain ⟨q1, c1, hR1, hA1, hm2, hmd⟩ := hG.2.2.2.2 (by decide)
  have hmt : Mod (fun k => k = X.m1 ∨ k = X.m2 ∨ ∃ x, q0 = some x ∧ k = x.block) w wz := (((Mod.of_below HB1.out).mono (fun k h1 h2 => absurd h2 (by omega))).trans HMOD4.out (fun i _ e => .inl e)).trans hmd (fun i _ e => .inr e)
  have hm1 : MapK Tryz.prog 70 keyN wz X.m1 (kE (b :: X.K)) := HM4.out.kept hmd (by
    rintro (e | e)
    · exact HNE.out e
    · exact HQ1.out _ HRW4.out HM4.out e)
  have HEND2 := Lib.hid (HEND.out wz q1 c1 p HP.out hmt hm1 hm2 hR1 (fun x e => (hA1 x e).imp id (fun h => Nat.le_trans (Nat.le_trans HB1.out.size HMOD4.out.size) h)))
  clear hG HG0 hR1 hA1 hm2 hmd hmt hm1
  go_end0
  rw [HF.out]
  exact ⟨rfl, HEND2.out⟩
end Go.Proofs.YtemnebbdaljfbaaGreatDoor

namespace Go.Proofs.YtemnebbdaljfbaaGreatDoor
open Go.RowKit

set_option maxRecDepth 20000 in
theorem zblk_zero (w : World) : (zeroValue 72).run Tryz.prog w = .ok (.agg zBlk.cells.toArray) w := by
  obtain ⟨z, hz, hzs⟩ : ∃ z : Array Value, (∀ w, (zeroValue 72).run Tryz.prog w = .ok (.agg z) w) ∧ z = zBlk.cells.toArray := ⟨_, Tryz.zeroValue72, by kernel_rfl⟩
  rw [hz, hzs]
theorem exec_alloc_blk {o : Oper} {a : Act} {w : World} (ho : o.op = .alloc 72) : (execOp a.eval o).run Tryz.prog w = .ok (.value (.pointer (some ⟨w.heap.size, 0, none⟩))) (w.alloc (.cells zBlk.cells.toArray 72)) := by
  unfold execOp
  simp only [ho]
  simp [go_sem]
  kernel_rfl
theorem zblk_ok (w : World) : okK w zBlk := ⟨(Rd.nil (E := encN) w none : Rd encN w none []), .inl rfl, by decide, by decide⟩
section
variable {S R : Nat → Prop} {w : World} {da : Nat} {X : DD}
/-- What a name leads to. -/
theorem dg_lk (h : DG S R w da X) (n : Nm) : ∃ b0 : Blk, okK w b0 ∧ (∀ w', Below w.heap.size w w' → (Instr.lookup 79 (.map (some X.m1)) (.agg (vals n.1).toArray) true).run Tryz.prog w' = .ok (.tuple #[.agg b0.cells.toArray, .bool (hasE n (kE X.K))]) w') ∧ (hasE n (kE X.K) = true → b0 ∈ X.K ∧ b0.id = n) ∧ (hasE n (kE X.K) = false → b0 = zBlk) := by
  have hl := fun w' (hb : Below w.heap.size w w') => (h.old hb).bm.look_ok keyedN Tryz.underlying79 (zblk_zero w') (keyN_of n)
  cases hh : hasE n (kE X.K) with
  | true =>
    obtain ⟨b, hb, e, hg⟩ := h.look (z := .agg zBlk.cells.toArray) hh
    refine ⟨b, h.okK hb, fun w' hw => ?_, fun _ => ⟨hb, e⟩, fun e => by cases e⟩
    rw [hl w' hw, hg, hh]
  | false =>
    refine ⟨zBlk, zblk_ok w, fun w' hw => ?_, (fun e => by cases e), fun _ => rfl⟩
    rw [hl w' hw, getE_no hh, hh]
set_option maxRecDepth 20000 in
set_option maxHeartbeats 4000000 in
theorem dghas_any (h : DG S R w da X) (n : Nm) : Calls Tryz.prog 33 #[.pointer (some ⟨da, 0, none⟩), .agg (vals n.1).toArray] w fun r w' => r = .returned (.bool (hasE n (kE X.K))) ∧ Below w.heap.size w w' := by
  obtain ⟨b0, _, hlk, _, _⟩ := dg_lk h n
  obtain ⟨hs, hhs⟩ : ∃ hs, hs = hasE n (kE X.K) := ⟨_, rfl⟩
  rw [← hhs] at hlk ⊢
  obtain ⟨W1, hW1⟩ : ∃ W1, W1 = w.alloc (.cells (vals n.1).toArray 70) := ⟨_, rfl⟩
  obtain ⟨g, hg⟩ : ∃ g, g = w.heap.size := ⟨_, rfl⟩
  have hb1 : Below w.heap.size w W1 := by rw [hW1]; exact alloc1 _ _
  have hrow : W1.heap[g]? = some (.cells (vals n.1).toArray 70 (0, 0)) := by rw [hW1, hg]; exact heap_alloc_new w _
  obtain ⟨gz, hgz⟩ : ∃ gz, gz = W1.heap.size := ⟨_, rfl⟩
  have hbz : Below W1.heap.size W1 ((W1.drew.alloc (.cells zBlk.cells.toArray 72)).setRow gz b0.cells.toArray) := by
    rw [hgz]
    exact (((Mod.refl (fun _ => False) W1).drew.alloc _).setRow (g := W1.heap.size) _).to_below (Nat.le_refl _) (by rintro i hi (h | h); exact h; omega)
  have hzr : (W1.drew.alloc (.cells zBlk.cells.toArray 72)).heap[gz]? = some (.cells zBlk.cells.toArray 72 (0, 0)) := by rw [hgz]; exact heap_alloc_new W1.drew _
  have HW1 := Lib.hid hW1
  have HGE := Lib.hid hg
  have HB1 := Lib.hid hb1
  have HROW := Lib.hid hrow
  have HGZ := Lib.hid hgz
  have HBZ := Lib.hid hbz
  have HZR := Lib.hid hzr
  have HLK := Lib.hid hlk
  have HBOX : Hid (W1.heap[da]? = some (.cells #[.map (some X.m1), .map (some X.m2)] 82 (0, 0))) := Lib.hid (h.old hb1).box
  clear h hlk hW1 hg hb1 hrow hgz hbz hzr hhs
  go_enter Tryz.func33, Tryz.ntmps33
  go_wp2_with fail
  rw [← HW1.out, ← HGE.out]
  have HG0 : Hid ((fun (j : Nat) (_ : Value) (w1 : World) => (j ≤ 1 → Below W1.heap.size W1 w1) ∧ (j = 0 → w1 = W1.drew) ∧ (j = 1 → w1 = W1.drew.alloc (.cells zBlk.cells.toArray 72)) ∧ (j = 2 → w1 = ((W1.drew.alloc (.cells zBlk.cells.toArray 72)).setRow gz b0.cells.toArray))) 0 undef W1.drew) := Lib.hid ⟨fun _ => (Below.refl _ _).drew, fun _ => rfl, (fun h => absurd h (by omega)), (fun h => absurd h (by omega))⟩
  refine wp_region_chain2 (fun t v => match t with
    | 8 => v = .pointer (some ⟨da, 0, none⟩)
    | 9 => v = .pointer (some ⟨da, 0, none⟩)
    | 10 => v = .pointer (some ⟨da, 0, none⟩)
    | 11 => v = .map (some X.m1)
    | 12 => v = .agg (vals n.1).toArray
    | 13 => v = .tuple #[.agg b0.cells.toArray, .bool hs]
    | 7 => v = .tuple #[.agg b0.cells.toArray, .bool hs]
    | 14 => v = .agg b0.cells.toArray
    | 15 => v = .bool hs
    | 5 => v = .pointer (some ⟨gz, 0, none⟩)
    | 6 => v = .bool hs
    | _ => True) (fun (j : Nat) (_ : Value) (w1 : World) => (j ≤ 1 → Below W1.heap.size W1 w1) ∧ (j = 0 → w1 = W1.drew) ∧ (j = 1 → w1 = W1.drew.alloc (.cells zBlk.cells.toArray 72)) ∧ (j = 2 → w1 = ((W1.drew.alloc (.cells zBlk.cells.toArray 72)).setRow gz b0.cells.toArray))) [9, 10] 17 (by kernel_rfl) (by decide +kernel) rfl (by decide +kernel) (by decide) (by decide) HG0.out (by
    refine OweAllC.cons (owesC_val 1 (by decide +kernel) (by decide) rfl rfl fun k' a w1 x hk ha hG hV => ?_) ?_
    · skip
      have h0 := ha.outer 0 (by decide +kernel)
      simp only [Act.eval] at h0
      exact ⟨.pointer (some ⟨da, 0, none⟩), wanted_free rfl, by simp [execOp, go_sem, h0], rfl⟩
    refine OweAllC.cons (owesC_val 1 (by decide +kernel) (by decide) rfl rfl fun k' a w1 x hk ha hG hV => ?_) ?_
    · skip
      have h8 : a.tmps.getD 8 undef = .pointer (some ⟨da, 0, none⟩) := hV.get 8 (by decide +kernel)
      exact ⟨.pointer (some ⟨da, 0, none⟩), wanted_free rfl, by simp [execOp, go_sem, h8], rfl⟩
    refine OweAllC.cons (owesC_val 1 (by decide +kernel) (by decide) rfl rfl fun k' a w1 x hk ha hG hV => ?_) ?_
    · skip
      have h9 : a.tmps.getD 9 undef = .pointer (some ⟨da, 0, none⟩) := hV.get 9 (by decide +kernel)
      exact ⟨.pointer (some ⟨da, 0, none⟩), wanted_free rfl, by simp [execOp, go_sem, h9], rfl⟩
    refine OweAllC.cons (owesC_val 1 (by decide +kernel) (by decide) rfl rfl fun k' a w1 x hk ha hG hV => ?_) ?_
    · skip
      have h10 : a.tmps.getD 10 undef = .pointer (some ⟨da, 0, none⟩) := hV.get 10 (by decide +kernel)
      have hbb := hG.1 (by omega)
      have cc : w1.cell? ⟨da, 0, none⟩ = some (.map (some X.m1)) := cell_of_row _ da 0 _ _ _ ((hbb.block da (Array.getElem?_eq_some_iff.1 HBOX.out).1).trans HBOX.out)
      exact ⟨.map (some X.m1), wanted_free rfl, by simp [execOp, go_sem, h10, cc], rfl⟩
    refine OweAllC.cons (owesC_val 1 (by decide +kernel) (by decide) rfl rfl fun k' a w1 x hk ha hG hV => ?_) ?_
    · skip
      have h3 := ha.outer 3 (by decide +kernel)
      simp only [Act.eval] at h3
      have hbb := hG.1 (by omega)
      exact ⟨.agg (vals n.1).toArray, wanted_free rfl, exec_load_mid (.tmp 3) rfl g 0 h3 n (fun i u hu => by rw [cell_of_row _ g (0 + i) _ _ _ ((hbb.block g (Array.getElem?_eq_some_iff.1 HROW.out).1).trans HROW.out), Nat.zero_add, List.getElem?_toArray]; exact hu), rfl⟩
    refine OweAllC.cons (owesC_val 1 (by decide +kernel) (by decide) rfl rfl fun k' a w1 x hk ha hG hV => ?_) ?_
    · skip
      have h11 : a.tmps.getD 11 undef = .map (some X.m1) := hV.get 11 (by decide +kernel)
      have h12 : a.tmps.getD 12 undef = .agg (vals n.1).toArray := hV.get 12 (by decide +kernel)
      have hbb := hG.1 (by omega)
      have hlk := HLK.out w1 (HB1.out.trans (hbb.mono HB1.out.size))
      exact ⟨.tuple #[.agg b0.cells.toArray, .bool hs], wanted_free rfl, by simp [execOp, go_sem, h11, h12, hlk], rfl⟩
    refine OweAllC.cons (owesC_val 1 (by decide +kernel) (by decide) rfl rfl fun k' a w1 x hk ha hG hV => ?_) ?_
    · skip
      have h13 : a.tmps.getD 13 undef = .tuple #[.agg b0.cells.toArray, .bool hs] := hV.get 13 (by decide +kernel)
      exact ⟨.tuple #[.agg b0.cells.toArray, .bool hs], wanted_free rfl, by simp [execOp, go_sem, h13], rfl⟩
    refine OweAllC.cons (owesC_val 1 (by decide +kernel) (by decide) rfl rfl fun k' a w1 x hk ha hG hV => ?_) ?_
    · skip
      have h7 : a.tmps.getD 7 undef = .tuple #[.agg b0.cells.toArray, .bool hs] := hV.get 7 (by decide +kernel)
      exact ⟨.agg b0.cells.toArray, wanted_free rfl, by simp [execOp, go_sem, h7], rfl⟩
    refine OweAllC.cons (owesC_val 2 (by decide +kernel) (by decide) rfl rfl fun k' a w1 x hk ha hG hV => ?_) ?_
    · skip
      have h7 : a.tmps.getD 7 undef = .tuple #[.agg b0.cells.toArray, .bool hs] := hV.get 7 (by decide +kernel)
      exact ⟨.bool hs, wanted_free rfl, by simp [execOp, go_sem, h7], rfl⟩
    refine OweAllC.cons (owesC_mem 0 rfl rfl rfl fun a w1 x ha hG hx hV => ?_) ?_
    · skip
      have hw1 := hG.2.1 (by omega)
      subst hw1
      exact ⟨_, _, wanted_free rfl, exec_alloc_blk rfl, (by rw [HGZ.out]; rfl), (fun _ => (Below.refl _ W1).drew.alloc (Nat.le_refl _) _), (fun h => absurd h (by omega)), (fun _ => rfl), (fun h => absurd h (by omega))⟩
    refine OweAllC.cons (owesC_store 1 rfl rfl rfl fun a w1 x ha hG hx hV => ?_) ?_
    · skip
      have h5 : a.tmps.getD 5 undef = .pointer (some ⟨gz, 0, none⟩) := hV.get 5 (by decide +kernel)
      have h14 : a.tmps.getD 14 undef = .agg b0.cells.toArray := hV.get 14 (by decide +kernel)
      have hw1 := hG.2.2.1 (by omega)
      subst hw1
      exact ⟨_, wanted_free rfl, exec_store_rowK 72 (.tmp 5) (.tmp 14) rfl gz h5 72 _ b0.cells.toArray h14 HZR.out (by rw [Blk.size, Blk.size]) (blk_info _) (by simpa using Blk.one b0), (fun h => absurd h (by omega)), (fun h => absurd h (by omega)), (fun h => absurd h (by omega)), (fun _ => rfl)⟩
    refine OweAllC.cons (owesC_val 2 (by decide +kernel) (by decide) rfl rfl fun k' a w1 x hk ha hG hV => ?_) ?_
    · skip
      have h15 : a.tmps.getD 15 undef = .bool hs := hV.get 15 (by decide +kernel)
      exact ⟨.bool hs, wanted_free rfl, by simp [execOp, go_sem, h15], rfl⟩
    exact OweAllC.nil
    ) ?_
  intro f wz xz hG hx hv
  have e6 : f 6 = .bool hs := hv 11 _ 6 rfl rfl
  first | (rename_i hK; refine hK _ _ ?_; clear hK) | (rename_i hK _; refine hK _ _ ?_; clear hK) | (rename_i hK _ _; refine hK _ _ ?_; clear hK) | (rename_i hK _ _ _; refine hK _ _ ?_; clear hK)
  clear hv hx
  simp only [dsts, puts, List.filterMap_cons, List.filterMap_nil, List.foldl_cons, List.foldl_nil, Act.put, List.setIfInBounds_toArray, List.set_cons_succ, List.set_cons_zero, e6]
  clear e6
  have HE := Lib.hid (HB1.out.trans (HBZ.out.mono HB1.out.size))
  have hwz := hG.2.2.2 rfl
  subst hwz
  clear hG HG0
  go_wp2_with fail
  go_ret
  exact ⟨rfl, HE.out⟩
set_option maxRecDepth 20000 in
set_option maxHeartbeats 4000000 in
theorem dgblock_any (h : DG S R w da X) (n : Nm) : Calls Tryz.prog 36 #[.pointer (some ⟨da, 0, none⟩), .agg (vals n.1).toArray] w fun r w' => ∃ b0 b1 : Blk, r = .returned (.tuple #[.agg b1.cells.toArray, .bool (hasE n (kE X.K))]) ∧ b1.is = b0.is ∧ okW w w' b1 ∧ (hasE n (kE X.K) = true → b0 ∈ X.K ∧ b0.id = n) ∧ Below w.heap.size w w' := by
  obtain ⟨b0, hok, hlk, hin, _⟩ := dg_lk h n
  have HIN := Lib.hid hin
  obtain ⟨F, hF⟩ : ∃ F : Ending → World → Prop, F = fun r w' => ∃ b0 b1 : Blk, r = .returned (.tuple #[.agg b1.cells.toArray, .bool (hasE n (kE X.K))]) ∧ b1.is = b0.is ∧ okW w w' b1 ∧ (hasE n (kE X.K) = true → b0 ∈ X.K ∧ b0.id = n) ∧ Below w.heap.size w w' := ⟨_, rfl⟩
  have HF := Lib.hid hF
  rw [← hF]
  have HOK := Lib.hid hok
  obtain ⟨hs, hhs⟩ : ∃ hs, hs = hasE n (kE X.K) := ⟨_, rfl⟩
  rw [← hhs] at hlk
  have HHS := Lib.hid hhs
  clear hin hF hok
  have HDG := Lib.hid h
  have HLK0 := Lib.hid hlk
  clear h hlk hhs
  go_enter Tryz.func36, Tryz.ntmps36
  go_wp2_with fail
  refine wp_gen (fun W0 => Below w.heap.size w W0 ∧ W0.heap[w.heap.size]? = some (.cells (vals n.1).toArray 70 (0, 0)) ∧ ∃ ZB : Array Value, ZB.size = 39 ∧ W0.heap[w.heap.size + 1]? = some (.cells ZB 72 (0, 0))) (two_new w _ _ _ _ _ _ rfl rfl rfl) (fun W1 hW1 => ?_)
  obtain ⟨hb1, hrow, ZB, hZs, hr4⟩ := hW1
  obtain ⟨g, hg⟩ : ∃ g, g = w.heap.size := ⟨_, rfl⟩
  obtain ⟨g4, hg4⟩ : ∃ g4, g4 = g + 1 := ⟨_, rfl⟩
  rw [← hg] at hrow hr4
  rw [← hg4] at hr4
  rw [← hg, ← hg4]
  have h := HDG.out
  have hlk := HLK0.out
  obtain ⟨gz, hgz⟩ : ∃ gz, gz = W1.heap.size := ⟨_, rfl⟩
  have hbz : Below W1.heap.size W1 ((W1.drew.alloc (.cells zBlk.cells.toArray 72)).setRow gz b0.cells.toArray) := by
    rw [hgz]
    exact (((Mod.refl (fun _ => False) W1).drew.alloc _).setRow (g := W1.heap.size) _).to_below (Nat.le_refl _) (by rintro i hi (h | h); exact h; omega)
  have hzr : (W1.drew.alloc (.cells zBlk.cells.toArray 72)).heap[gz]? = some (.cells zBlk.cells.toArray 72 (0, 0)) := by rw [hgz]; exact heap_alloc_new W1.drew _
  have HGE := Lib.hid hg
  have HB1 := Lib.hid hb1
  have HROW := Lib.hid hrow
  have HGZ := Lib.hid hgz
  have HBZ := Lib.hid hbz
  have HZR := Lib.hid hzr
  have HLK := Lib.hid hlk
  have HBOX : Hid (W1.heap[da]? = some (.cells #[.map (some X.m1), .map (some X.m2)] 82 (0, 0))) := Lib.hid (h.old hb1).box
  have HR4 := Lib.hid hr4
  have HZS := Lib.hid hZs
  have HG4L : Hid (w.heap.size ≤ g4) := Lib.hid (by omega)
  clear h hlk hg hg4 hb1 hrow hgz hbz hzr hr4 hZs HDG HLK0
  have HG0 : Hid ((fun (j : Nat) (_ : Value) (w1 : World) => (j ≤ 1 → Below W1.heap.size W1 w1) ∧ (j = 0 → w1 = W1.drew) ∧ (j = 1 → w1 = W1.drew.alloc (.cells zBlk.cells.toArray 72)) ∧ (j = 2 → w1 = ((W1.drew.alloc (.cells zBlk.cells.toArray 72)).setRow gz b0.cells.toArray))) 0 undef W1.drew) := Lib.hid ⟨fun _ => (Below.refl _ _).drew, fun _ => rfl, (fun h => absurd h (by omega)), (fun h => absurd h (by omega))⟩
  refine wp_region_chain2 (fun t v => match t with
    | 9 => v = .pointer (some ⟨da, 0, none⟩)
    | 10 => v = .pointer (some ⟨da, 0, none⟩)
    | 11 => v = .pointer (some ⟨da, 0, none⟩)
    | 12 => v = .map (some X.m1)
    | 13 => v = .agg (vals n.1).toArray
    | 14 => v = .tuple #[.agg b0.cells.toArray, .bool hs]
    | 8 => v = .tuple #[.agg b0.cells.toArray, .bool hs]
    | 15 => v = .agg b0.cells.toArray
    | 16 => v = .bool hs
    | 6 => v = .pointer (some ⟨gz, 0, none⟩)
    | 7 => v = .bool hs
    | _ => True) (fun (j : Nat) (_ : Value) (w1 : World) => (j ≤ 1 → Below W1.heap.size W1 w1) ∧ (j = 0 → w1 = W1.drew) ∧ (j = 1 → w1 = W1.drew.alloc (.cells zBlk.cells.toArray 72)) ∧ (j = 2 → w1 = ((W1.drew.alloc (.cells zBlk.cells.toArray 72)).setRow gz b0.cells.toArray))) [9, 10] 24 (by kernel_rfl) (by decide +kernel) rfl (by decide +kernel) (by decide) (by decide) HG0.out (by
    refine OweAllC.cons (owesC_val 1 (by decide +kernel) (by decide) rfl rfl fun k' a w1 x hk ha hG hV => ?_) ?_
    · skip
      have h0 := ha.outer 0 (by decide +kernel)
      simp only [Act.eval] at h0
      exact ⟨.pointer (some ⟨da, 0, none⟩), wanted_free rfl, by simp [execOp, go_sem, h0], rfl⟩
    refine OweAllC.cons (owesC_val 1 (by decide +kernel) (by decide) rfl rfl fun k' a w1 x hk ha hG hV => ?_) ?_
    · skip
      have h9 : a.tmps.getD 9 undef = .pointer (some ⟨da, 0, none⟩) := hV.get 9 (by decide +kernel)
      exact ⟨.pointer (some ⟨da, 0, none⟩), wanted_free rfl, by simp [execOp, go_sem, h9], rfl⟩
    refine OweAllC.cons (owesC_val 1 (by decide +kernel) (by decide) rfl rfl fun k' a w1 x hk ha hG hV => ?_) ?_
    · skip
      have h10 : a.tmps.getD 10 undef = .pointer (some ⟨da, 0, none⟩) := hV.get 10 (by decide +kernel)
      exact ⟨.pointer (some ⟨da, 0, none⟩), wanted_free rfl, by simp [execOp, go_sem, h10], rfl⟩
    refine OweAllC.cons (owesC_val 1 (by decide +kernel) (by decide) rfl rfl fun k' a w1 x hk ha hG hV => ?_) ?_
    · skip
      have h11 : a.tmps.getD 11 undef = .pointer (some ⟨da, 0, none⟩) := hV.get 11 (by decide +kernel)
      have hbb := hG.1 (by omega)
      have cc : w1.cell? ⟨da, 0, none⟩ = some (.map (some X.m1)) := cell_of_row _ da 0 _ _ _ ((hbb.block da (Array.getElem?_eq_some_iff.1 HBOX.out).1).trans HBOX.out)
      exact ⟨.map (some X.m1), wanted_free rfl, by simp [execOp, go_sem, h11, cc], rfl⟩
    refine OweAllC.cons (owesC_val 1 (by decide +kernel) (by decide) rfl rfl fun k' a w1 x hk ha hG hV => ?_) ?_
    · skip
      have h3 := ha.outer 3 (by decide +kernel)
      simp only [Act.eval] at h3
      have hbb := hG.1 (by omega)
      exact ⟨.agg (vals n.1).toArray, wanted_free rfl, exec_load_mid (.tmp 3) rfl g 0 h3 n (fun i u hu => by rw [cell_of_row _ g (0 + i) _ _ _ ((hbb.block g (Array.getElem?_eq_some_iff.1 HROW.out).1).trans HROW.out), Nat.zero_add, List.getElem?_toArray]; exact hu), rfl⟩
    refine OweAllC.cons (owesC_val 1 (by decide +kernel) (by decide) rfl rfl fun k' a w1 x hk ha hG hV => ?_) ?_
    · skip
      have h12 : a.tmps.getD 12 undef = .map (some X.m1) := hV.get 12 (by decide +kernel)
      have h13 : a.tmps.getD 13 undef = .agg (vals n.1).toArray := hV.get 13 (by decide +kernel)
      have hbb := hG.1 (by omega)
      have hlk := HLK.out w1 (HB1.out.trans (hbb.mono HB1.out.size))
      exact ⟨.tuple #[.agg b0.cells.toArray, .bool hs], wanted_free rfl, by simp [execOp, go_sem, h12, h13, hlk], rfl⟩
    refine OweAllC.cons (owesC_val 1 (by decide +kernel) (by decide) rfl rfl fun k' a w1 x hk ha hG hV => ?_) ?_
    · skip
      have h14 : a.tmps.getD 14 undef = .tuple #[.agg b0.cells.toArray, .bool hs] := hV.get 14 (by decide +kernel)
      exact ⟨.tuple #[.agg b0.cells.toArray, .bool hs], wanted_free rfl, by simp [execOp, go_sem, h14], rfl⟩
    refine OweAllC.cons (owesC_val 1 (by decide +kernel) (by decide) rfl rfl fun k' a w1 x hk ha hG hV => ?_) ?_
    · skip
      have h8 : a.tmps.getD 8 undef = .tuple #[.agg b0.cells.toArray, .bool hs] := hV.get 8 (by decide +kernel)
      exact ⟨.agg b0.cells.toArray, wanted_free rfl, by simp [execOp, go_sem, h8], rfl⟩
    refine OweAllC.cons (owesC_val 2 (by decide +kernel) (by decide) rfl rfl fun k' a w1 x hk ha hG hV => ?_) ?_
    · skip
      have h8 : a.tmps.getD 8 undef = .tuple #[.agg b0.cells.toArray, .bool hs] := hV.get 8 (by decide +kernel)
      exact ⟨.bool hs, wanted_free rfl, by simp [execOp, go_sem, h8], rfl⟩
    refine OweAllC.cons (owesC_mem 0 rfl rfl rfl fun a w1 x ha hG hx hV => ?_) ?_
    · skip
      have hw1 := hG.2.1 (by omega)
      subst hw1
      exact ⟨_, _, wanted_free rfl, exec_alloc_blk rfl, (by rw [HGZ.out]; rfl), (fun _ => (Below.refl _ W1).drew.alloc (Nat.le_refl _) _), (fun h => absurd h (by omega)), (fun _ => rfl), (fun h => absurd h (by omega))⟩
    refine OweAllC.cons (owesC_store 1 rfl rfl rfl fun a w1 x ha hG hx hV => ?_) ?_
    · skip
      have h6 : a.tmps.getD 6 undef = .pointer (some ⟨gz, 0, none⟩) := hV.get 6 (by decide +kernel)
      have h15 : a.tmps.getD 15 undef = .agg b0.cells.toArray := hV.get 15 (by decide +kernel)
      have hw1 := hG.2.2.1 (by omega)
      subst hw1
      exact ⟨_, wanted_free rfl, exec_store_rowK 72 (.tmp 6) (.tmp 15) rfl gz h6 72 _ b0.cells.toArray h15 HZR.out (by rw [Blk.size, Blk.size]) (blk_info _) (by simpa using Blk.one b0), (fun h => absurd h (by omega)), (fun h => absurd h (by omega)), (fun h => absurd h (by omega)), (fun _ => rfl)⟩
    refine OweAllC.cons (owesC_val 2 (by decide +kernel) (by decide) rfl rfl fun k' a w1 x hk ha hG hV => ?_) ?_
    · skip
      have h16 : a.tmps.getD 16 undef = .bool hs := hV.get 16 (by decide +kernel)
      exact ⟨.bool hs, wanted_free rfl, by simp [execOp, go_sem, h16], rfl⟩
    exact OweAllC.nil
    ) ?_
  intro f wz xz hG hx hv
  have e6 : f 6 = .pointer (some ⟨gz, 0, none⟩) := hv 9 _ 6 rfl rfl
  have e7 : f 7 = .bool hs := hv 11 _ 7 rfl rfl
  first | (rename_i hK; refine hK _ _ ?_; clear hK) | (rename_i hK _; refine hK _ _ ?_; clear hK) | (rename_i hK _ _; refine hK _ _ ?_; clear hK) | (rename_i hK _ _ _; refine hK _ _ ?_; clear hK)
  clear hv hx
  simp only [dsts, puts, List.filterMap_cons, List.filterMap_nil, List.foldl_cons, List.foldl_nil, Act.put, List.setIfInBounds_toArray, List.set_cons_succ, List.set_cons_zero, e6, e7]
  clear e6 e7
  have hwz := hG.2.2.2 rfl
  have HWZ := Lib.hid hwz
  have hrz : wz.heap[gz]? = some (.cells b0.cells.toArray 72 (0, 0)) := by rw [hwz]; exact setRow_heap _ _ _ _ _ _ HZR.out
  have hbz : Below W1.heap.size W1 wz := by rw [hwz]; exact HBZ.out
  have HRZ := Lib.hid hrz
  have HBZ2 := Lib.hid hbz
  have hr4 := (hbz.block g4 (Array.getElem?_eq_some_iff.1 HR4.out).1).trans HR4.out
  have HR42 := Lib.hid hr4
  have HOK2 := Lib.hid ((HOK.out.old HB1.out).old hbz)
  have HG5 : Hid (g4 ≠ gz) := Lib.hid (by have := (Array.getElem?_eq_some_iff.1 HR4.out).1; have := HGZ.out; omega)
  clear hG HG0 hwz hrz hbz hr4
  go_upto_region 2 with fail
  have HG0 : Hid ((fun (j : Nat) (x : Value) (w1 : World) => (j ≤ 2 → Below wz.heap.size wz w1) ∧ (j = 1 → ∃ q c, x = .agg (hcells b0.h q c) ∧ Rw encN 70 w1 q c b0.h.ps ∧ (∀ y, q = some y → wz.heap.size ≤ y.block)) ∧ (j = 2 → ∃ q c, x = .agg (⟨b0.id, b0.h, q, c⟩ : Blk).cells.toArray ∧ Rw encN 70 w1 q c b0.h.ps ∧ (∀ y, q = some y → wz.heap.size ≤ y.block)) ∧ (j = 3 → ∃ q c, Mod (fun k => k = g4) wz w1 ∧ w1.heap[g4]? = some (.cells (⟨b0.id, b0.h, q, c⟩ : Blk).cells.toArray 72 (0, 0)) ∧ Rw encN 70 w1 q c b0.h.ps ∧ (∀ y, q = some y → wz.heap.size ≤ y.block))) 0 undef wz.drew) := Lib.hid ⟨fun _ => (Below.refl _ _).drew, (fun h => absurd h (by omega)), (fun h => absurd h (by omega)), (fun h => absurd h (by omega))⟩
  refine wp_region_chain2 (fun t v => match t with
    | 17 => v = .pointer (some ⟨gz, 0, none⟩)
    | 18 => v = .agg (vals b0.id.1).toArray
    | 19 => v = .pointer (some ⟨gz, 32, none⟩)
    | 20 => v = .agg (hcells b0.h b0.q b0.c)
    | 23 => v = .bool hs
    | 5 => v = .bool hs
    | _ => True) (fun (j : Nat) (x : Value) (w1 : World) => (j ≤ 2 → Below wz.heap.size wz w1) ∧ (j = 1 → ∃ q c, x = .agg (hcells b0.h q c) ∧ Rw encN 70 w1 q c b0.h.ps ∧ (∀ y, q = some y → wz.heap.size ≤ y.block)) ∧ (j = 2 → ∃ q c, x = .agg (⟨b0.id, b0.h, q, c⟩ : Blk).cells.toArray ∧ Rw encN 70 w1 q c b0.h.ps ∧ (∀ y, q = some y → wz.heap.size ≤ y.block)) ∧ (j = 3 → ∃ q c, Mod (fun k => k = g4) wz w1 ∧ w1.heap[g4]? = some (.cells (⟨b0.id, b0.h, q, c⟩ : Blk).cells.toArray 72 (0, 0)) ∧ Rw encN 70 w1 q c b0.h.ps ∧ (∀ y, q = some y → wz.heap.size ≤ y.block))) [4, 5, 7] 24 (by kernel_rfl) (by decide +kernel) rfl (by decide +kernel) (by decide) (by decide) HG0.out (by
    refine OweAllC.cons (owesC_val 1 (by decide +kernel) (by decide) rfl rfl fun k' a w1 x hk ha hG hV => ?_) ?_
    · skip
      have h6 := ha.outer 6 (by decide +kernel)
      simp only [Act.eval] at h6
      exact ⟨.pointer (some ⟨gz, 0, none⟩), wanted_free rfl, by simp [execOp, go_sem, h6], rfl⟩
    refine OweAllC.cons (owesC_val 1 (by decide +kernel) (by decide) rfl rfl fun k' a w1 x hk ha hG hV => ?_) ?_
    · skip
      have h17 : a.tmps.getD 17 undef = .pointer (some ⟨gz, 0, none⟩) := hV.get 17 (by decide +kernel)
      have hbb := hG.1 (by omega)
      exact ⟨.agg (vals b0.id.1).toArray, wanted_free rfl, exec_load_mid (.tmp 17) rfl gz 0 h17 b0.id (fun i u hu => blk_id ((hbb.block gz (Array.getElem?_eq_some_iff.1 HRZ.out).1).trans HRZ.out) hu), rfl⟩
    refine OweAllC.cons (owesC_val 0 (by decide +kernel) (by decide) rfl rfl fun k' a w1 x hk ha hG hV => ?_) ?_
    · skip
      have h6 := ha.outer 6 (by decide +kernel)
      simp only [Act.eval] at h6
      exact ⟨.pointer (some ⟨gz, 32, none⟩), wanted_free rfl, by simp [execOp, go_sem, h6], rfl⟩
    refine OweAllC.cons (owesC_val 0 (by decide +kernel) (by decide) rfl rfl fun k' a w1 x hk ha hG hV => ?_) ?_
    · skip
      have h19 : a.tmps.getD 19 undef = .pointer (some ⟨gz, 32, none⟩) := hV.get 19 (by decide +kernel)
      have hbb := hG.1 (by omega)
      exact ⟨.agg (hcells b0.h b0.q b0.c), wanted_free rfl, exec_load_hd (.tmp 19) rfl gz 32 h19 b0.h b0.q b0.c (fun i u hu => blk_hd ((hbb.block gz (Array.getElem?_eq_some_iff.1 HRZ.out).1).trans HRZ.out) hu), rfl⟩
    refine OweAllC.cons (owesC_call 0 rfl rfl rfl 73 fun a w1 x ha hG hx hV => ?_) ?_
    · skip
      have h20 : a.tmps.getD 20 undef = .agg (hcells b0.h b0.q b0.c) := hV.get 20 (by decide +kernel)
      refine ⟨#[.agg (hcells b0.h b0.q b0.c)], wanted_free rfl, by simp [execOp, resolve, invoke, go_sem, h20], ?_⟩
      have hbb := hG.1 (by omega)
      have ho := HOK2.out.old hbb
      refine (tsown_any b0.h b0.q b0.c w1 ho.rd ho.ad ho.n ho.k).mono ?_
      rintro r u2 ⟨q, c, rfl, hr, hf, hb2⟩
      exact ⟨_, rfl, trivial, (fun _ => hbb.trans (hb2.mono hbb.size)), (fun _ => ⟨q, c, rfl, hr, fun y e => Nat.le_trans hbb.size (hf y e)⟩), (fun h => absurd h (by omega)), (fun h => absurd h (by omega))⟩
    refine OweAllC.cons (owesC_mem 1 rfl rfl rfl fun a w1 x ha hG hx hV => ?_) ?_
    · skip
      have h18 : a.tmps.getD 18 undef = .agg (vals b0.id.1).toArray := hV.get 18 (by decide +kernel)
      have g18 : a.tmps[18]?.getD undef = .agg (vals b0.id.1).toArray := by simpa using h18
      have h21 := hx 0 4 _ 21 rfl rfl rfl rfl
      simp only [Act.eval] at h21
      have hbb := hG.1 (by omega)
      obtain ⟨q, c, rfl, hR, hq⟩ := hG.2.1 (by omega)
      exact ⟨_, w1, wanted_free rfl, build_blk (.tmp 18) (.tmp 21) rfl (⟨b0.id, b0.h, q, c⟩ : Blk) h18 h21, trivial, (fun _ => hbb), (fun h => absurd h (by omega)), (fun _ => ⟨q, c, rfl, hR, hq⟩), (fun h => absurd h (by omega))⟩
    refine OweAllC.cons (owesC_val 3 (by decide +kernel) (by decide) rfl rfl fun k' a w1 x hk ha hG hV => ?_) ?_
    · skip
      have h7 := ha.outer 7 (by decide +kernel)
      simp only [Act.eval] at h7
      exact ⟨.bool hs, wanted_free rfl, by simp [execOp, go_sem, h7], rfl⟩
    refine OweAllC.cons (owesC_store 2 rfl rfl rfl fun a w1 x ha hG hx hV => ?_) ?_
    · skip
      have h4 := ha.outer 4 (by decide +kernel)
      simp only [Act.eval] at h4
      have h22 := hx 1 5 _ 22 rfl rfl rfl rfl
      simp only [Act.eval] at h22
      have hbb := hG.1 (by omega)
      obtain ⟨q, c, rfl, hR, hq⟩ := hG.2.2.1 (by omega)
      have hz1 := (hbb.block g4 (Array.getElem?_eq_some_iff.1 HR42.out).1).trans HR42.out
      refine ⟨w1.setRow g4 (⟨b0.id, b0.h, q, c⟩ : Blk).cells.toArray, wanted_free rfl, exec_store_rowK 72 (.tmp 4) (.tmp 22) rfl g4 h4 72 _ _ h22 hz1 (by rw [HZS.out, Blk.size]) (blk_info _) (by simpa using Blk.one (⟨b0.id, b0.h, q, c⟩ : Blk)), (fun h => absurd h (by omega)), (fun h => absurd h (by omega)), (fun h => absurd h (by omega)), fun _ => ⟨q, c, ((((Mod.of_below hbb).mono (fun k h1 h2 => absurd h2 (by omega))).setRow (g := g4) _).mono (fun i _ h => by rcases h with h | h; exact h; exact h)), setRow_heap _ _ _ _ _ _ hz1, ?_, hq⟩⟩
      exact hR.kept ((Mod.refl (fun _ => False) w1).setRow (g := g4) _) (fun y e q => by rcases q with q | q; exact q; have := hq y e; have := (Array.getElem?_eq_some_iff.1 HR42.out).1; omega)
    refine OweAllC.cons (owesC_val 3 (by decide +kernel) (by decide) rfl rfl fun k' a w1 x hk ha hG hV => ?_) ?_
    · skip
      have h23 : a.tmps.getD 23 undef = .bool hs := hV.get 23 (by decide +kernel)
      exact ⟨.bool hs, wanted_free rfl, by simp [execOp, go_sem, h23], rfl⟩
    exact OweAllC.nil
    ) ?_
  intro f wz_1 xz hG hx hv
  have e5 : f 5 = .bool hs := hv 8 _ 5 rfl rfl
  first | (rename_i hK; refine hK _ _ ?_; clear hK) | (rename_i hK _; refine hK _ _ ?_; clear hK) | (rename_i hK _ _; refine hK _ _ ?_; clear hK) | (rename_i hK _ _ _; refine hK _ _ ?_; clear hK)
  clear hv hx
  simp only [dsts, puts, List.filterMap_cons, List.filterMap_nil, List.foldl_cons, List.foldl_nil, Act.put, List.setIfInBounds_toArray, List.set_cons_succ, List.set_cons_zero, e5]
  clear e5
  obtain ⟨q', c', hm, hrow, hR, hq⟩ := hG.2.2.2 rfl
  have HMM := Lib.hid hm
  have HRO := Lib.hid hrow
  have HRR := Lib.hid hR
  have HQQ := Lib.hid hq
  have HBB : Hid (Below w.heap.size w wz_1) := Lib.hid ((HB1.out.trans (HBZ2.out.mono HB1.out.size)).trans (hm.to_below (Nat.le_trans HB1.out.size HBZ2.out.size) (by rintro k hk rfl; have := HG4L.out; omega)))
  clear hG HG0 hm hrow hR hq
  go_wp2_with fail
  refine bodyPost_ret (v := .tuple #[.agg (⟨b0.id, b0.h, q', c'⟩ : Blk).cells.toArray, .bool hs]) (results_cell_slotT Tryz.results36 _ _ g4 72 _ (0, 0) _ _ rfl rfl HRO.out Tryz.underlying72 rfl (blk_info _)) rfl ?_
  rw [HF.out]
  exact ⟨b0, ⟨b0.id, b0.h, q', c'⟩, by rw [HHS.out], rfl, ⟨HRR.out, fun y e => Nat.le_trans (Nat.le_trans HB1.out.size HBZ2.out.size) (HQQ.out y e), HOK2.out.n, HOK2.out.k⟩, HIN.out, HBB.out⟩
set_option maxRecDepth 20000 in
theorem dglen_any (h : DG S R w da X) : Calls Tryz.prog 16 #[.pointer (some ⟨da, 0, none⟩)] w fun r w' => r = .returned (.int .i64 (X.K.length : Nat)) ∧ w = w' := by
  have cc : w.cell? ⟨da, 0, none⟩ = some (.map (some X.m1)) := cell_of_row _ da 0 _ _ _ h.box
  have hl := fun ty => h.bm.len Tryz.underlying79 ty
  rw [kE_len] at hl
  obtain ⟨k, hk⟩ : ∃ k, k = X.K.length := ⟨_, rfl⟩
  rw [← hk] at hl ⊢
  clear h hk
  go_enter Tryz.func16, Tryz.ntmps16
  go_wp2_with fail
  go_ret
  exact ⟨rfl, rfl⟩
end
end Go.Proofs.YtemnebbdaljfbaaGreatDoor

namespace Go.Proofs.YtemnebbdaljfbaaGreatDoor
open Go.RowKit

/-- What a key leads to: the error, the tipset's blocks. -/
def TipP (K : List Blk) (s : List UInt8) (Y : List BI) (e : Int) : Prop :=
  (nmsOk s = false ∧ e = 1 ∧ Y = []) ∨ (nmsOk s = true ∧ (∃ n ∈ pcs s, hasE n (kE K) = false) ∧ e = 7 ∧ Y = []) ∨
    (nmsOk s = true ∧ ∃ L : List Blk, L.map (·.id) = pcs s ∧ (∀ b ∈ L, b ∈ K) ∧ e = newE (L.map Blk.is) ∧ Y = newX (L.map Blk.is))
structure TpS (W1 wr : World) (X : DD) (P : List Nm) (k : Nat) (q : Option Addr) (c : Nat) (D : List Blk) : Prop where
  rw : Rw encK 72 wr q c D
  len : D.length = k
  ids : D.map (·.id) = P.take k
  mem : ∀ b ∈ D, b ∈ X.K
  b : Below W1.heap.size W1 wr
  f : ∀ y, q = some y → W1.heap.size ≤ y.block
set_option maxRecDepth 20000 in
theorem ts_info (v : Value) : (Tryz.prog.info? 52).map (·.size) = some (#[v] : Array Value).size := by show _ = some 1; kernel_rfl
theorem tip_set {w0 w : World} {g : Nat} {v : Value} {u : Array Value} {Y : List BI} {n : Nat} (hg : g < w0.heap.size) (h : NewP w0 Y n (.returned (.tuple #[.agg #[v], .int .i64 (newE Y)])) w) (hn : n = Y.length) : TsV (w.setRow g u) v (newX Y) := by
  have hm : Mod (fun k => k = g) w (w.setRow g u) := ((Mod.refl (fun _ => False) w).setRow (g := g) u).mono (fun i _ h => by rcases h with h | h; exact h.elim; exact h)
  obtain ⟨hb, ⟨h1, h2⟩ | ⟨h1, q, c, D, h2, hT, hD⟩⟩ := h
  · simp only [Ending.returned.injEq, Value.tuple.injEq, Array.mk.injEq, List.cons.injEq, Value.agg.injEq, and_true] at h2
    rw [h2]
    unfold newX
    rw [if_neg h1]; exact TsV.nil _
  · simp only [Ending.returned.injEq, Value.tuple.injEq, Array.mk.injEq, List.cons.injEq, Value.agg.injEq, and_true] at h2
    obtain ⟨h2, _⟩ := h2
    have hl : D.length = n := by
      have := congrArg List.length hD
      rw [List.length_map, isort_len] at this; omega
    have hk := (newE_ok h1).1
    have := (hT.kept hm (fun i e => .inl (by omega))).v (by omega)
    rw [hl, ← h2, hD] at this
    unfold newX
    rw [if_pos h1]; exact this
theorem build_blks1 {o : Oper} {a : Act} {w : World} (x : Operand) (ho : o.op = .buildSlice 50 1 #[(0, x)]) (b : Blk) (hx : a.eval x = .agg b.cells.toArray) :
    (execOp a.eval o).run Tryz.prog w = .ok (.value (.slice (some ⟨w.heap.size, 0, none⟩) 1 1)) (w.alloc (.cells b.cells.toArray 72)) := build_blks x ho b hx
section
variable {S R : Nat → Prop} {w : World} {da : Nat} {X : DD}
set_option maxRecDepth 20000 in
set_option maxHeartbeats 8000000 in
theorem dgtipset_any (h : DG S R w da X) (s : List UInt8) (hs : s.length ≤ 1000000) :
    Calls Tryz.prog 19 #[.pointer (some ⟨da, 0, none⟩), .string ⟨s.toArray⟩] w fun r w' => ∃ v Y e, r = .returned (.tuple #[.agg #[v], .int .i64 e]) ∧ TsV w' v Y ∧ TipP X.K s Y e ∧ Below w.heap.size w w' := by
  obtain ⟨F, hF⟩ : ∃ F : Ending → World → Prop, F = fun r w' => ∃ v Y e, r = .returned (.tuple #[.agg #[v], .int .i64 e]) ∧ TsV w' v Y ∧ TipP X.K s Y e ∧ Below w.heap.size w w' := ⟨_, rfl⟩
  rw [← hF]
  have HF := Lib.hid hF
  have HDG := Lib.hid h
  obtain ⟨W0, hW0⟩ : ∃ W0, W0 = w.alloc (.cells #[.slice none 0 0] 52) := ⟨_, rfl⟩
  obtain ⟨g4, hg4⟩ : ∃ g4, g4 = w.heap.size := ⟨_, rfl⟩
  have hb0 : Below w.heap.size w W0 := by rw [hW0]; exact alloc1 _ _
  have hr0 : W0.heap[g4]? = some (.cells #[.slice none 0 0] 52 (0, 0)) := by rw [hW0, hg4]; exact heap_alloc_new w _
  have HW0 := Lib.hid hW0
  have HG4 := Lib.hid hg4
  have HB0 := Lib.hid hb0
  have HR0 := Lib.hid hr0
  have HNM := Lib.hid (hnames_any s W0 hs)
  have HDA : Hid (da < w.heap.size) := Lib.hid h.lt
  have HFA : Hid (∀ (wz : World) (e : Int), Below w.heap.size w wz → TipP X.K s [] e → ∀ u, wz.heap[g4]? = some (.cells u 52 (0, 0)) → F (.returned (.tuple #[.agg #[.slice none 0 0], .int .i64 e])) (wz.setRow g4 #[.slice none 0 0])) := Lib.hid (fun wz e hb ht u hu => by
    rw [hF]
    refine ⟨_, [], e, rfl, TsV.nil _, ht, ?_⟩
    exact hb.trans ((((Mod.refl (fun _ => False) wz).setRow (g := g4) #[.slice none 0 0]).to_below hb.size (by rintro k hk (h | h); exact h; omega))))
  clear h hs hF hW0 hg4 hb0 hr0
  go_enter Tryz.func19, Tryz.ntmps19
  go_wp2_with fail
  rw [← HW0.out, ← HG4.out]
  refine HNM.out.mono ?_
  rintro r W1 ⟨q1, c1, P, rfl, hP, hrw, _, hb1⟩
  have HPP := Lib.hid hP
  have HRP := Lib.hid hrw
  have HB01 := Lib.hid hb1
  have HBW1 := Lib.hid (HB0.out.trans (hb1.mono HB0.out.size))
  have hr1 := (hb1.block g4 (Array.getElem?_eq_some_iff.1 HR0.out).1).trans HR0.out
  have HR1 := Lib.hid hr1
  have HSI := Lib.hid (ts_info (.slice none 0 0))
  have HS1 : Hid (∀ v : Value, v.oneCell' = true → ∀ u ∈ (#[v] : Array Value).toList, u.oneCell' = true) := Lib.hid (fun v hv u hu => by simpa using (by simpa using hu : u = v) ▸ hv)
  clear hP hrw hb1 hr1 HNM
  cases hok : nmsOk s with
  | false =>
    have HT : Hid (TipP X.K s [] 1) := Lib.hid (.inl ⟨hok, rfl, rfl⟩)
    clear hok
    have L0 := Lib.hid (setRow_heap W1 g4 _ #[.slice none 0 0] 52 (0, 0) HR1.out)
    go_wp2_with (refine wpList_store_row rfl rfl 52 (.tmp 4) (.tmp 20) rfl g4 rfl 52 _ #[.slice none 0 0] rfl HR1.out rfl HSI.out (HS1.out _ rfl) ?_)
    exact bodyPost_ret (v := .tuple #[.agg #[.slice none 0 0], .int .i64 1]) (results_cell_slotT Tryz.results19 _ _ g4 52 _ (0, 0) _ _ rfl rfl L0.out Tryz.underlying52 rfl HSI.out) rfl (HFA.out W1 1 HBW1.out HT.out _ HR1.out)
  | true =>
    have HOK := Lib.hid hok
    have hP2 : P = pcs s := by rw [HPP.out, hok]; rfl
    have HPE := Lib.hid hP2
    obtain ⟨n, hn⟩ : ∃ n, n = P.length := ⟨_, rfl⟩
    have HN := Lib.hid hn
    have hn5 : n ≤ 5 := by
      rw [hn, hP2]
      unfold pcs
      rw [List.length_map, List.length_range]
      unfold nmsOk at hok
      have := (Bool.and_eq_true_iff.1 hok).1
      have := (of_decide_eq_true this).2.2
      exact this
    have H0 : Hid (TpS W1 W1 X P 0 none 0 []) := Lib.hid ⟨Rw.empty _ _, rfl, rfl, (fun b hb => by cases hb), Below.refl _ _, fun y e => by cases e⟩
    rw [← hn]
    clear hok hP2 hn
    go_wp2_with fail
    go_loopw [8, 23] (fun s8 s23 wr => ∃ (k : Nat) (q : Option Addr) (c : Nat) (D : List Blk), k ≤ n ∧ s23 = .int .i64 (k : Int) ∧ s8 = .slice q k c ∧ Hid (TpS W1 wr X P k q c D)) (fun _ s23 _ => n - (intOf s23).toNat)
    case atStart => exact ⟨0, none, 0, [], by omega, rfl, rfl, H0⟩
    case round =>
      clear H0
      obtain ⟨k, q, c, D, hkn, rfl, rfl, HS⟩ := hrel
      have k0 : (0 : Int) ≤ k := by omega
      by_cases hlt : k < n
      · have hlt' : (k : Int) < n := by omega
        have hkl : k < P.length := by have := HN.out; omega
        obtain ⟨bs, off, rfl, hbs, hc⟩ := (HRP.out.rd.old HS.out.b) k hkl
        obtain ⟨nm, hnm⟩ : ∃ nm, nm = P[k] := ⟨_, rfl⟩
        rw [← hnm] at hc
        have HCC : Hid (∀ i u, (encN.f nm)[i]? = some u → wr.cell? ⟨bs, off + k * 32 + i, none⟩ = some u) := Lib.hid hc
        have HNX : Hid (P.take (k + 1) = P.take k ++ [nm]) := Lib.hid (by rw [List.take_succ_eq_append_getElem hkl, ← hnm])
        have HMM : Hid (nm ∈ P) := Lib.hid (hnm ▸ List.getElem_mem hkl)
        have HI2 : Hid ((Tryz.prog.info? 70).map (·.size) = some (vals nm.1).toArray.size) := Lib.hid (id_info nm.2)
        have HSZ : Hid ((vals nm.1).toArray.size = 32) := Lib.hid (id_size nm.2)
        have HON : Hid (∀ v ∈ (vals nm.1).toArray.toList, v.oneCell' = true) := Lib.hid (id_one nm.1)
        clear hnm hc hbs hkl
        go_wp2_with (first
          | (refine wpList_load_mid rfl (.tmp 25) rfl bs (off + k * 32) rfl nm HCC.out ?_; go_frame)
          | (refine wpList_store_row rfl rfl 70 (.tmp 10) (.tmp 26) rfl wr.heap.size rfl 70 _ (vals nm.1).toArray rfl (heap_alloc_new wr _) HSZ.out.symm HI2.out HON.out ?_))
        refine wp_gen (fun W5 => W5.heap[wr.heap.size]? = some (.cells (vals nm.1).toArray 70 (0, 0)) ∧ Below wr.heap.size wr W5) (row_new wr _ _ (vals nm.1).toArray 70 rfl) (fun W5 hW5 => ?_)
        obtain ⟨hrow, hb5⟩ := hW5
        obtain ⟨g, hg⟩ : ∃ g, g = wr.heap.size := ⟨_, rfl⟩
        rw [← hg] at hrow
        rw [← hg]
        obtain ⟨b0, hok0, hlk, hin, _⟩ := dg_lk HDG.out nm
        obtain ⟨hs, hhs⟩ : ∃ hs, hs = hasE nm (kE X.K) := ⟨_, rfl⟩
        rw [← hhs] at hlk hin
        have hb15 : Below W1.heap.size W1 W5 := HS.out.b.trans (hb5.mono HS.out.b.size)
        have hbw5 : Below w.heap.size w W5 := HBW1.out.trans (hb15.mono HBW1.out.size)
        obtain ⟨gz, hgz⟩ : ∃ gz, gz = W5.heap.size := ⟨_, rfl⟩
        have hbz : Below W5.heap.size W5 ((W5.drew.alloc (.cells zBlk.cells.toArray 72)).setRow gz b0.cells.toArray) := by
          rw [hgz]
          exact (((Mod.refl (fun _ => False) W5).drew.alloc _).setRow (g := W5.heap.size) _).to_below (Nat.le_refl _) (by rintro i hi (h | h); exact h; omega)
        have hzr : (W5.drew.alloc (.cells zBlk.cells.toArray 72)).heap[gz]? = some (.cells zBlk.cells.toArray 72 (0, 0)) := by rw [hgz]; exact heap_alloc_new W5.drew _
        have HB1 := Lib.hid hbw5
        have HB15 := Lib.hid hb15
        have HROW := Lib.hid hrow
        have HGZ := Lib.hid hgz
        have HBZ := Lib.hid hbz
        have HZR := Lib.hid hzr
        have HLK := Lib.hid hlk
        have HIN := Lib.hid hin
        have HHS := Lib.hid hhs
        have HBOX : Hid (W5.heap[da]? = some (.cells #[.map (some X.m1), .map (some X.m2)] 82 (0, 0))) := Lib.hid (HDG.out.old hbw5).box
        have HRWQ := Lib.hid (HS.out.rw.old hb5)
        clear hrow hb5 hg hok0 hlk hin hhs hb15 hbw5 hgz hbz hzr
        have HG0 : Hid ((fun (j : Nat) (_ : Value) (w1 : World) => (j ≤ 1 → Below W5.heap.size W5 w1) ∧ (j = 0 → w1 = W5.drew) ∧ (j = 1 → w1 = W5.drew.alloc (.cells zBlk.cells.toArray 72)) ∧ (j = 2 → w1 = ((W5.drew.alloc (.cells zBlk.cells.toArray 72)).setRow gz b0.cells.toArray))) 0 undef W5.drew) := Lib.hid ⟨fun _ => (Below.refl _ _).drew, fun _ => rfl, (fun h => absurd h (by omega)), (fun h => absurd h (by omega))⟩
        refine wp_region_chain2 (fun t v => match t with
          | 28 => v = .pointer (some ⟨da, 0, none⟩)
          | 29 => v = .pointer (some ⟨da, 0, none⟩)
          | 30 => v = .pointer (some ⟨da, 0, none⟩)
          | 31 => v = .map (some X.m1)
          | 32 => v = .agg (vals nm.1).toArray
          | 33 => v = .tuple #[.agg b0.cells.toArray, .bool hs]
          | 27 => v = .tuple #[.agg b0.cells.toArray, .bool hs]
          | 34 => v = .agg b0.cells.toArray
          | 35 => v = .bool hs
          | 11 => v = .pointer (some ⟨gz, 0, none⟩)
          | 12 => v = .bool hs
          | _ => True) (fun (j : Nat) (_ : Value) (w1 : World) => (j ≤ 1 → Below W5.heap.size W5 w1) ∧ (j = 0 → w1 = W5.drew) ∧ (j = 1 → w1 = W5.drew.alloc (.cells zBlk.cells.toArray 72)) ∧ (j = 2 → w1 = ((W5.drew.alloc (.cells zBlk.cells.toArray 72)).setRow gz b0.cells.toArray))) [9, 10] 48 (by kernel_rfl) (by decide +kernel) rfl (by decide +kernel) (by decide) (by decide) HG0.out (by
          refine OweAllC.cons (owesC_val 1 (by decide +kernel) (by decide) rfl rfl fun k' a w1 x hk ha hG hV => ?_) ?_
          · skip
            have h0 := ha.outer 0 (by decide +kernel)
            simp only [Act.eval] at h0
            exact ⟨.pointer (some ⟨da, 0, none⟩), wanted_free rfl, by simp [execOp, go_sem, h0], rfl⟩
          refine OweAllC.cons (owesC_val 1 (by decide +kernel) (by decide) rfl rfl fun k' a w1 x hk ha hG hV => ?_) ?_
          · skip
            have h28 : a.tmps.getD 28 undef = .pointer (some ⟨da, 0, none⟩) := hV.get 28 (by decide +kernel)
            exact ⟨.pointer (some ⟨da, 0, none⟩), wanted_free rfl, by simp [execOp, go_sem, h28], rfl⟩
          refine OweAllC.cons (owesC_val 1 (by decide +kernel) (by decide) rfl rfl fun k' a w1 x hk ha hG hV => ?_) ?_
          · skip
            have h29 : a.tmps.getD 29 undef = .pointer (some ⟨da, 0, none⟩) := hV.get 29 (by decide +kernel)
            exact ⟨.pointer (some ⟨da, 0, none⟩), wanted_free rfl, by simp [execOp, go_sem, h29], rfl⟩
          refine OweAllC.cons (owesC_val 1 (by decide +kernel) (by decide) rfl rfl fun k' a w1 x hk ha hG hV => ?_) ?_
          · skip
            have h30 : a.tmps.getD 30 undef = .pointer (some ⟨da, 0, none⟩) := hV.get 30 (by decide +kernel)
            have hbb := hG.1 (by omega)
            have cc : w1.cell? ⟨da, 0, none⟩ = some (.map (some X.m1)) := cell_of_row _ da 0 _ _ _ ((hbb.block da (Array.getElem?_eq_some_iff.1 HBOX.out).1).trans HBOX.out)
            exact ⟨.map (some X.m1), wanted_free rfl, by simp [execOp, go_sem, h30, cc], rfl⟩
          refine OweAllC.cons (owesC_val 1 (by decide +kernel) (by decide) rfl rfl fun k' a w1 x hk ha hG hV => ?_) ?_
          · skip
            have h10 := ha.outer 10 (by decide +kernel)
            simp only [Act.eval] at h10
            have hbb := hG.1 (by omega)
            exact ⟨.agg (vals nm.1).toArray, wanted_free rfl, exec_load_mid (.tmp 10) rfl g 0 h10 nm (fun i u hu => by rw [cell_of_row _ g (0 + i) _ _ _ ((hbb.block g (Array.getElem?_eq_some_iff.1 HROW.out).1).trans HROW.out), Nat.zero_add, List.getElem?_toArray]; exact hu), rfl⟩
          refine OweAllC.cons (owesC_val 1 (by decide +kernel) (by decide) rfl rfl fun k' a w1 x hk ha hG hV => ?_) ?_
          · skip
            have h31 : a.tmps.getD 31 undef = .map (some X.m1) := hV.get 31 (by decide +kernel)
            have h32 : a.tmps.getD 32 undef = .agg (vals nm.1).toArray := hV.get 32 (by decide +kernel)
            have hbb := hG.1 (by omega)
            have hlk := HLK.out w1 (HB1.out.trans (hbb.mono HB1.out.size))
            exact ⟨.tuple #[.agg b0.cells.toArray, .bool hs], wanted_free rfl, by simp [execOp, go_sem, h31, h32, hlk], rfl⟩
          refine OweAllC.cons (owesC_val 1 (by decide +kernel) (by decide) rfl rfl fun k' a w1 x hk ha hG hV => ?_) ?_
          · skip
            have h33 : a.tmps.getD 33 undef = .tuple #[.agg b0.cells.toArray, .bool hs] := hV.get 33 (by decide +kernel)
            exact ⟨.tuple #[.agg b0.cells.toArray, .bool hs], wanted_free rfl, by simp [execOp, go_sem, h33], rfl⟩
          refine OweAllC.cons (owesC_val 1 (by decide +kernel) (by decide) rfl rfl fun k' a w1 x hk ha hG hV => ?_) ?_
          · skip
            have h27 : a.tmps.getD 27 undef = .tuple #[.agg b0.cells.toArray, .bool hs] := hV.get 27 (by decide +kernel)
            exact ⟨.agg b0.cells.toArray, wanted_free rfl, by simp [execOp, go_sem, h27], rfl⟩
          refine OweAllC.cons (owesC_val 2 (by decide +kernel) (by decide) rfl rfl fun k' a w1 x hk ha hG hV => ?_) ?_
          · skip
            have h27 : a.tmps.getD 27 undef = .tuple #[.agg b0.cells.toArray, .bool hs] := hV.get 27 (by decide +kernel)
            exact ⟨.bool hs, wanted_free rfl, by simp [execOp, go_sem, h27], rfl⟩
          refine OweAllC.cons (owesC_mem 0 rfl rfl rfl fun a w1 x ha hG hx hV => ?_) ?_
          · skip
            have hw1 := hG.2.1 (by omega)
            subst hw1
            exact ⟨_, _, wanted_free rfl, exec_alloc_blk rfl, (by rw [HGZ.out]; rfl), (fun _ => (Below.refl _ W5).drew.alloc (Nat.le_refl _) _), (fun h => absurd h (by omega)), (fun _ => rfl), (fun h => absurd h (by omega))⟩
          refine OweAllC.cons (owesC_store 1 rfl rfl rfl fun a w1 x ha hG hx hV => ?_) ?_
          · skip
            have h11 : a.tmps.getD 11 undef = .pointer (some ⟨gz, 0, none⟩) := hV.get 11 (by decide +kernel)
            have h34 : a.tmps.getD 34 undef = .agg b0.cells.toArray := hV.get 34 (by decide +kernel)
            have hw1 := hG.2.2.1 (by omega)
            subst hw1
            exact ⟨_, wanted_free rfl, exec_store_rowK 72 (.tmp 11) (.tmp 34) rfl gz h11 72 _ b0.cells.toArray h34 HZR.out (by rw [Blk.size, Blk.size]) (blk_info _) (by simpa using Blk.one b0), (fun h => absurd h (by omega)), (fun h => absurd h (by omega)), (fun h => absurd h (by omega)), (fun _ => rfl)⟩
          refine OweAllC.cons (owesC_val 2 (by decide +kernel) (by decide) rfl rfl fun k' a w1 x hk ha hG hV => ?_) ?_
          · skip
            have h35 : a.tmps.getD 35 undef = .bool hs := hV.get 35 (by decide +kernel)
            exact ⟨.bool hs, wanted_free rfl, by simp [execOp, go_sem, h35], rfl⟩
          exact OweAllC.nil
          ) ?_
        intro f wz xz hG hx hv
        have e11 : f 11 = .pointer (some ⟨gz, 0, none⟩) := hv 9 _ 11 rfl rfl
        have e12 : f 12 = .bool hs := hv 11 _ 12 rfl rfl
        first | (rename_i hK; refine hK _ _ ?_; clear hK) | (rename_i hK _; refine hK _ _ ?_; clear hK) | (rename_i hK _ _; refine hK _ _ ?_; clear hK) | (rename_i hK _ _ _; refine hK _ _ ?_; clear hK)
        clear hv hx
        simp only [dsts, puts, List.filterMap_cons, List.filterMap_nil, List.foldl_cons, List.foldl_nil, Act.put, List.setIfInBounds_toArray, List.set_cons_succ, List.set_cons_zero, e11, e12]
        clear e11 e12
        have hwz := hG.2.2.2 rfl
        have HWZ := Lib.hid hwz
        have hrz : wz.heap[gz]? = some (.cells b0.cells.toArray 72 (0, 0)) := by rw [hwz]; exact setRow_heap _ _ _ _ _ _ HZR.out
        have hb5z : Below W5.heap.size W5 wz := by rw [hwz]; exact HBZ.out
        have HRZ := Lib.hid hrz
        have HB1Z := Lib.hid (HB15.out.trans (hb5z.mono HB15.out.size))
        have HBWZ := Lib.hid (HB1.out.trans (hb5z.mono HB1.out.size))
        have HRWZ := Lib.hid (HRWQ.out.old hb5z)
        clear hG HG0 hwz hrz hb5z HWZ
        cases hs with
        | false =>
          have HT : Hid (TipP X.K s [] 7) := Lib.hid (.inr (.inl ⟨HOK.out, ⟨nm, HPE.out ▸ HMM.out, HHS.out.symm⟩, rfl, rfl⟩))
          have hrg : wz.heap[g4]? = some (.cells #[.slice none 0 0] 52 (0, 0)) := (HB1Z.out.block g4 (Array.getElem?_eq_some_iff.1 HR1.out).1).trans HR1.out
          have HRG := Lib.hid hrg
          have L0 := Lib.hid (setRow_heap wz g4 _ #[.slice none 0 0] 52 (0, 0) hrg)
          clear hrg
          go_wp2_with (refine wpList_store_row rfl rfl 52 (.tmp 4) (.tmp 38) rfl g4 rfl 52 _ #[.slice none 0 0] rfl HRG.out rfl HSI.out (HS1.out _ rfl) ?_)
          exact bodyPost_ret (v := .tuple #[.agg #[.slice none 0 0], .int .i64 7]) (results_cell_slotT Tryz.results19 _ _ g4 52 _ (0, 0) _ _ rfl rfl L0.out Tryz.underlying52 rfl HSI.out) rfl (HFA.out wz 7 HBWZ.out HT.out _ HRG.out)
        | true =>
          have hi2 := HIN.out rfl
          have hcc : ∀ i u, b0.cells[i]? = some u → wz.cell? ⟨gz, 0 + i, none⟩ = some u := fun i u hu => by rw [cell_of_row _ gz (0 + i) _ _ _ HRZ.out, Nat.zero_add, List.getElem?_toArray]; exact hu
          have HC0 := Lib.hid hcc
          have hb6 := alloc1 wz (.cells b0.cells.toArray 72)
          have HRD : Hid (Rd encK (wz.alloc (.cells b0.cells.toArray 72)) (some ⟨wz.heap.size, 0, none⟩) [b0]) := Lib.hid (by have := Rd.made encK wz 72 [b0] (by simp [maxLen]); rw [enc_oneK] at this; exact this)
          have HRW6 := Lib.hid (HRWZ.out.old hb6)
          have HLEN : Hid (D.length = k) := Lib.hid HS.out.len
          have HB6 := Lib.hid (HB1Z.out.trans (hb6.mono HB1Z.out.size))
          have HNB : Hid (k + 1 ≤ 100000000000) := Lib.hid (by omega)
          obtain ⟨z, hz, hzs, hzb⟩ := info_blk
          have HZ1 := Lib.hid hz
          have HZ2 := Lib.hid hzs
          have HZ3 := Lib.hid hzb
          have HI2X := Lib.hid hi2
          clear hi2 hcc hb6 hz hzs hzb
          go_wp2_with (first
            | (refine wpList_load_blk rfl (.tmp 11) rfl gz 0 rfl b0 HC0.out ?_; go_frame)
            | (refine wpList_exec rfl (build_blks1 (.tmp 40) rfl b0 rfl) ?_; go_frame)
            | (refine wpList_pushR encK rfl (.tmp 39) (.tmp 41) 50 72 z _ rfl Tryz.underlying50 HZ1.out HZ2.out HZ3.out q c k D HLEN.out rfl HRW6.out (some ⟨wz.heap.size, 0, none⟩) 1 1 [b0] rfl rfl HRD.out HNB.out ?_; intro q2 c2 w4 hP; have HPU := Lib.hid hP; clear hP; go_frame))
          have HNN : Hid (TpS W1 w4 X P (k + 1) q2 c2 (D ++ [b0])) := Lib.hid ⟨HPU.out.1, by rw [List.length_append, HLEN.out]; rfl, by rw [HNX.out, List.map_append, HS.out.ids, ← HI2X.out.2]; rfl,
            (fun b hb => by rcases List.mem_append.1 hb with h | h; exact HS.out.mem b h; rw [List.mem_singleton.1 h]; exact HI2X.out.1),
            HB6.out.trans (HPU.out.2.1.to_below HB6.out.size (by rintro i hi ⟨y, e, rfl⟩; have := HS.out.f y e; omega)), fun y e => (HPU.out.2.2 y e).elim (HS.out.f y) (fun q => Nat.le_trans HB6.out.size q)⟩
          clear HPU HRD HRW6 HC0
          go_roundw
          case rel => exact ⟨k + 1, q2, c2, D ++ [b0], by omega, by go_num, rfl, HNN⟩
          case measure => simp [intOf]; omega
      · obtain rfl : k = n := by omega
        have hlt' : ¬ (k : Int) < k := by omega
        have hidD : D.map (·.id) = pcs s := by rw [HS.out.ids, List.take_of_length_le (by have := HN.out; omega), HPE.out]
        have HID := Lib.hid hidD
        have hdg := HDG.out.old (HBW1.out.trans (HS.out.b.mono HBW1.out.size))
        have HNW := Lib.hid (tsnew_any q c D wr HS.out.rw.rd (by rw [HS.out.len]; omega) HS.out.rw.cap_le (fun b hb => hdg.newOk (HS.out.mem b hb)))
        rw [HS.out.len] at HNW
        have HLK2 : Hid (k = (D.map Blk.is).length) := Lib.hid (by rw [List.length_map, HS.out.len])
        have HBR := Lib.hid (HBW1.out.trans (HS.out.b.mono HBW1.out.size))
        have hrg : wr.heap[g4]? = some (.cells #[.slice none 0 0] 52 (0, 0)) := (HS.out.b.block g4 (Array.getElem?_eq_some_iff.1 HR1.out).1).trans HR1.out
        have HRG := Lib.hid hrg
        clear hlt hidD hdg hrg
        go_wp2_with fail
        refine HNW.out.mono ?_
        rintro r w4 hN
        obtain ⟨v, rfl, _, hb4⟩ := hN.v HLK2.out
        have HNP := Lib.hid hN
        have hrg4 := (hb4.block g4 (Array.getElem?_eq_some_iff.1 HRG.out).1).trans HRG.out
        have HRG4 := Lib.hid hrg4
        have L0 := Lib.hid (setRow_heap w4 g4 _ #[v] 52 (0, 0) hrg4)
        have HTV := Lib.hid (tip_set (u := #[v]) (Array.getElem?_eq_some_iff.1 HRG.out).1 hN HLK2.out)
        have HBF : Hid (Below w.heap.size w (w4.setRow g4 #[v])) := Lib.hid ((HBR.out.trans (hb4.mono HBR.out.size)).trans ((((Mod.refl (fun _ => False) w4).setRow (g := g4) #[v]).to_below (Nat.le_trans HBR.out.size hb4.size) (by rintro k hk (h | h); exact h; have := HG4.out; omega))))
        have HONV : Hid (v.oneCell' = true) := Lib.hid (by obtain ⟨p', c', L', e, _⟩ := HTV.out; rw [e]; rfl)
        have HSIV := Lib.hid (ts_info v)
        obtain ⟨ee, hee⟩ : ∃ ee, ee = newE (D.map Blk.is) := ⟨_, rfl⟩
        have HEE := Lib.hid hee
        rw [← hee]
        clear hN hb4 hrg4 hee
        go_wp2_with (refine wpList_store_row rfl rfl 52 (.tmp 4) (.tmp 46) rfl g4 rfl 52 _ #[v] rfl HRG4.out rfl HSIV.out (HS1.out _ HONV.out) ?_)
        refine bodyPost_ret (v := .tuple #[.agg #[v], .int .i64 ee]) (results_cell_slotT Tryz.results19 _ _ g4 52 _ (0, 0) _ _ rfl rfl L0.out Tryz.underlying52 rfl HSIV.out) rfl ?_
        rw [HF.out]
        exact ⟨v, _, _, rfl, HTV.out, .inr (.inr ⟨HOK.out, D, HID.out, HS.out.mem, HEE.out, rfl⟩), HBF.out⟩
end
end Go.Proofs.YtemnebbdaljfbaaGreatDoor

namespace Go.Proofs.YtemnebbdaljfbaaGreatDoor
open Go.RowKit

/-- What is wrong with a header's own parts. -/
def chkH (H : Hd Nm) : Int := chk H (rs (H.ps.map (·.1)) (H.ps.length - 1))
/-- What the dag says of a header. -/
def ChkP (K : List Blk) (H : Hd Nm) (e : Int) : Prop :=
  (chkH H ≠ 0 ∧ e = chkH H) ∨ (chkH H = 0 ∧ hasE (nmH H) (kE K) = true ∧ e = 9) ∨
    (chkH H = 0 ∧ hasE (nmH H) (kE K) = false ∧ ∃ Y e1, TipP K (kB (kset H.ps)) Y e1 ∧ ((e1 = 7 ∧ e = 7) ∨ (e1 ≠ 7 ∧ e1 ≠ 0 ∧ e = 10) ∨ (e1 = 0 ∧ H.ht ≤ htX Y ∧ e = 11) ∨ (e1 = 0 ∧ htX Y < H.ht ∧ e = 0)))
theorem chkH_ok {H : Hd Nm} (h : chkH H = 0) : HOkay H := ((chk_zero H _).1 h).1
section
variable {S R : Nat → Prop} {w : World} {da : Nat} {X : DD}
set_option maxRecDepth 20000 in
set_option maxHeartbeats 8000000 in
theorem dgcheck_any (h : DG S R w da X) (H : Hd Nm) (ao : Option Addr) (cap : Nat) (hL : Rd encN w ao H.ps) (hao : ao = none ∨ ∃ b off, ao = some ⟨b, off, none⟩) (ok : HOk H) (hT : TabAt w) :
    Calls Tryz.prog 12 #[.pointer (some ⟨da, 0, none⟩), .agg (hcells H ao cap)] w fun r w' => ∃ e, r = .returned (.int .i64 e) ∧ ChkP X.K H e ∧ Below w.heap.size w w' := by
  obtain ⟨F, hF⟩ : ∃ F : Ending → World → Prop, F = fun r w' => ∃ e, r = .returned (.int .i64 e) ∧ ChkP X.K H e ∧ Below w.heap.size w w' := ⟨_, rfl⟩
  rw [← hF]
  have HF := Lib.hid hF
  have HDG := Lib.hid h
  have HL := Lib.hid hL
  have HAO := Lib.hid hao
  have HOK := Lib.hid ok
  have HT := Lib.hid hT
  obtain ⟨HC, hHC⟩ : ∃ HC, HC = hcells H ao cap := ⟨_, rfl⟩
  have HHC := Lib.hid hHC
  rw [← hHC]
  have hsz : (Tryz.prog.info? 41).map (·.size) = some HC.size := by rw [hHC]; show _ = some 7; kernel_rfl
  have HSZ := Lib.hid hsz
  obtain ⟨W1, hW1⟩ : ∃ W1, W1 = w.alloc (.cells HC 41) := ⟨_, rfl⟩
  obtain ⟨g, hg⟩ : ∃ g, g = w.heap.size := ⟨_, rfl⟩
  have hb1 : Below w.heap.size w W1 := by rw [hW1]; exact alloc1 _ _
  have hrow : W1.heap[g]? = some (.cells HC 41 (0, 0)) := by rw [hW1, hg]; exact heap_alloc_new w _
  have HW1 := Lib.hid hW1
  have HGE := Lib.hid hg
  have HB1 := Lib.hid hb1
  have HROW := Lib.hid hrow
  have HCK := Lib.hid (hcheck_any H ao cap W1 (hL.old hb1))
  have HHAS := Lib.hid (fun (w' : World) (hb : Below w.heap.size w w') => dghas_any (h.old hb) (nmH H))
  have HTIP := Lib.hid (fun (w' : World) (hb : Below w.heap.size w w') (hc : chkH H = 0) => dgtipset_any (h.old hb) (kB (kset H.ps)) (by
    rw [kB_len]
    have h1 := kset_len H.ps
    have h2 := (chkH_ok hc).2.2.2.2.2.1.2
    omega))
  obtain ⟨c, hc⟩ : ∃ c, c = chkH H := ⟨_, rfl⟩
  have HCE := Lib.hid hc
  have HCK2 : Hid (Calls Tryz.prog 47 #[.agg HC] W1 fun r w' => r = .returned (.int .i64 c) ∧ Below W1.heap.size W1 w') := Lib.hid (by rw [hc, hHC]; exact HCK.out)
  clear h hL hao ok hT hF hHC hsz hW1 hg hb1 hrow HCK hc
  go_enter Tryz.func12, Tryz.ntmps12
  go_upto_region 1 with fail
  rw [← HW1.out, ← HGE.out]
  go_upto_region 2 with (refine wpList_exec rfl (exec_load_row 41 (.tmp 3) rfl g rfl 41 HC (0, 0) _ HROW.out Tryz.underlying41 rfl HSZ.out) ?_)
  refine HCK2.out.mono ?_
  rintro r W2 ⟨rfl, hb2⟩
  have hr2 := (hb2.block g (Array.getElem?_eq_some_iff.1 HROW.out).1).trans HROW.out
  have HR2 := Lib.hid hr2
  have HB2 := Lib.hid (HB1.out.trans (hb2.mono HB1.out.size))
  clear hb2 hr2 HCK2
  by_cases hc0 : c = 0
  · have HID : Hid (Calls Tryz.prog 34 #[.agg HC] W2 fun r w' => r = .returned (.agg (vals (nmH H).1).toArray) ∧ Below W2.heap.size W2 w') := Lib.hid (by
      rw [HHC.out]; exact hid_any H ao cap W2 (HL.out.old HB2.out) HOK.out (HT.out.old HB2.out))
    have HC0 : Hid (chkH H = 0) := Lib.hid (by rw [← HCE.out]; exact hc0)
    obtain ⟨nb, hnb⟩ : ∃ nb, nb = (vals (nmH H).1).toArray := ⟨_, rfl⟩
    rw [← hnb] at HID HHAS
    obtain ⟨hs, hhs⟩ : ∃ hs, hs = hasE (nmH H) (kE X.K) := ⟨_, rfl⟩
    rw [← hhs] at HHAS
    have HHS := Lib.hid hhs
    subst hc0
    clear hnb hhs
    go_upto_region 5 with (refine wpList_exec rfl (exec_load_row 41 (.tmp 3) rfl g rfl 41 HC (0, 0) _ HR2.out Tryz.underlying41 rfl HSZ.out) ?_)
    refine HID.out.mono ?_
    rintro r W3 ⟨rfl, hb3⟩
    have HB3 := Lib.hid (HB2.out.trans (hb3.mono HB2.out.size))
    have hr3 := (hb3.block g (Array.getElem?_eq_some_iff.1 HR2.out).1).trans HR2.out
    have HR3 := Lib.hid hr3
    clear hb3 hr3 HID
    go_upto_region 5 with fail
    refine (HHAS.out W3 HB3.out).mono ?_
    rintro r W4 ⟨rfl, hb4⟩
    have HB4 := Lib.hid (HB3.out.trans (hb4.mono HB3.out.size))
    have hr4 := (hb4.block g (Array.getElem?_eq_some_iff.1 HR3.out).1).trans HR3.out
    have HR4 := Lib.hid hr4
    clear hb4 hr4
    cases hs with
    | true =>
      go_wp2_with fail
      rw [HF.out]
      exact ⟨9, rfl, .inr (.inl ⟨HC0.out, HHS.out.symm, rfl⟩), HB4.out⟩
    | false =>
      have hcell : W4.cell? ⟨g, 5, none⟩ = some (.slice ao H.ps.length cap) := by rw [cell_of_row _ g 5 _ _ _ HR4.out, HHC.out]; rfl
      have HKY := Lib.hid (key_any ao cap H.ps W4 (HL.out.old HB4.out) HAO.out HOK.out.n)
      obtain ⟨pn, hpn⟩ : ∃ pn, pn = H.ps.length := ⟨_, rfl⟩
      rw [← hpn] at HKY hcell
      clear hpn
      go_upto_region 7 with fail
      refine HKY.out.mono ?_
      rintro r W5 ⟨rfl, hb5⟩
      have HB5 := Lib.hid (HB4.out.trans (hb5.mono HB4.out.size))
      have hr5 := (hb5.block g (Array.getElem?_eq_some_iff.1 HR4.out).1).trans HR4.out
      have HR5 := Lib.hid hr5
      clear hb5 hr5 HKY hcell
      go_upto_region 7 with fail
      refine (HTIP.out W5 HB5.out HC0.out).mono ?_
      rintro r W5' ⟨v0, Y, e1, rfl, hv, hp, hb6⟩
      have HP := Lib.hid hp
      have HB6 := Lib.hid (HB5.out.trans (hb6.mono HB5.out.size))
      have hr6 := (hb6.block g (Array.getElem?_eq_some_iff.1 HR5.out).1).trans HR5.out
      have HR6 := Lib.hid hr6
      have HVV := Lib.hid hv
      have HONV : Hid (∀ u ∈ (#[v0] : Array Value).toList, u.oneCell' = true) := Lib.hid (by
        obtain ⟨p', c', L', e, _⟩ := hv
        intro u hu
        rw [e] at hu
        simp only [List.mem_singleton] at hu
        rw [hu]; rfl)
      have HSIV := Lib.hid (ts_info v0)
      clear hp hb6 hr6 hv
      go_upto_region 7 with (refine wpList_store_row rfl rfl 52 (.tmp 6) (.tmp 23) rfl W5'.heap.size rfl 52 _ #[v0] rfl (heap_alloc_new W5' _) rfl HSIV.out HONV.out ?_)
      refine wp_gen (fun W6 => W6.heap[W5'.heap.size]? = some (.cells #[v0] 52 (0, 0)) ∧ Below W5'.heap.size W5' W6) (row_new W5' _ _ #[v0] 52 rfl) (fun W6 hW6 => ?_)
      obtain ⟨hrt, hb7⟩ := hW6
      obtain ⟨gt, hgt⟩ : ∃ gt, gt = W5'.heap.size := ⟨_, rfl⟩
      rw [← hgt] at hrt
      rw [← hgt]
      have HRT := Lib.hid hrt
      have HB7 := Lib.hid (HB6.out.trans (hb7.mono HB6.out.size))
      have hr7 := (hb7.block g (Array.getElem?_eq_some_iff.1 HR6.out).1).trans HR6.out
      have HR7 := Lib.hid hr7
      have HV7 := Lib.hid (HVV.out.old hb7)
      clear hrt hb7 hr7 hgt
      by_cases he7 : e1 = 7
      · subst he7
        go_wp2_with fail
        rw [HF.out]
        exact ⟨7, rfl, .inr (.inr ⟨HC0.out, HHS.out.symm, Y, 7, HP.out, .inl ⟨rfl, rfl⟩⟩), HB7.out⟩
      · by_cases he0 : e1 = 0
        · subst he0
          go_upto_region 11 with fail
          have HG0 : Hid ((fun (_ : Nat) (_ : Value) (w1 : World) => Below W6.heap.size W6 w1) 0 undef W6.drew) := Lib.hid (Below.refl _ _).drew
          refine wp_region_chain2 (fun t v => match t with
            | 32 => v = .pointer (some ⟨g, 0, none⟩)
            | 33 => v = .int .i64 H.ht
            | 34 => v = .agg #[v0]
            | 35 => v = .int .i64 (htX Y)
            | 36 => v = .bool (decide (H.ht ≤ htX Y))
            | 31 => v = .bool (decide (H.ht ≤ htX Y))
            | _ => True) (fun (_ : Nat) (_ : Value) (w1 : World) => Below W6.heap.size W6 w1) [3] 37 (by kernel_rfl) (by decide +kernel) rfl (by decide +kernel) (by decide) (by decide) HG0.out (by
            refine OweAllC.cons (owesC_val 1 (by decide +kernel) (by decide) rfl rfl fun k' a w1 x hk ha hG hV => ?_) ?_
            · skip
              have h3 := ha.outer 3 (by decide +kernel)
              simp only [Act.eval] at h3
              exact ⟨.pointer (some ⟨g, 0, none⟩), wanted_free rfl, by simp [execOp, go_sem, h3], rfl⟩
            refine OweAllC.cons (owesC_val 1 (by decide +kernel) (by decide) rfl rfl fun k' a w1 x hk ha hG hV => ?_) ?_
            · skip
              have h32 : a.tmps.getD 32 undef = .pointer (some ⟨g, 0, none⟩) := hV.get 32 (by decide +kernel)
              have hbb := hG
              have cc : w1.cell? ⟨g, 0, none⟩ = some (.int .i64 H.ht) := by rw [cell_of_row _ g 0 _ _ _ ((hbb.block g (Array.getElem?_eq_some_iff.1 HR7.out).1).trans HR7.out), HHC.out]; rfl
              exact ⟨.int .i64 H.ht, wanted_free rfl, by simp [execOp, go_sem, h32, cc], rfl⟩
            refine OweAllC.cons (owesC_val 0 (by decide +kernel) (by decide) rfl rfl fun k' a w1 x hk ha hG hV => ?_) ?_
            · skip
              have h6 := ha.outer 6 (by decide +kernel)
              simp only [Act.eval] at h6
              have hbb := hG
              exact ⟨.agg #[v0], wanted_free rfl, exec_load_row 52 (.tmp 6) rfl gt h6 52 _ (0, 0) _ ((hbb.block gt (Array.getElem?_eq_some_iff.1 HRT.out).1).trans HRT.out) Tryz.underlying52 rfl HSIV.out, rfl⟩
            refine OweAllC.cons (owesC_call 0 rfl rfl rfl 38 fun a w1 x ha hG hx hV => ?_) ?_
            · skip
              have h34 : a.tmps.getD 34 undef = .agg #[v0] := hV.get 34 (by decide +kernel)
              refine ⟨#[.agg #[v0]], wanted_free rfl, by simp [execOp, resolve, invoke, go_sem, h34], ?_⟩
              refine ((HV7.out.old hG).height).mono ?_
              rintro r u2 ⟨rfl, hb⟩; exact ⟨_, rfl, rfl, hG.trans (hb.mono hG.size)⟩
            refine OweAllC.cons (owesC_val 1 (by decide +kernel) (by decide) rfl rfl fun k' a w1 x hk ha hG hV => ?_) ?_
            · skip
              have h33 : a.tmps.getD 33 undef = .int .i64 H.ht := hV.get 33 (by decide +kernel)
              have h35 : a.tmps.getD 35 undef = .int .i64 (htX Y) := hV.get 35 (by decide +kernel)
              exact ⟨.bool (decide (H.ht ≤ htX Y)), wanted_free rfl, by simp [execOp, go_sem, h33, h35], rfl⟩
            refine OweAllC.cons (owesC_val 1 (by decide +kernel) (by decide) rfl rfl fun k' a w1 x hk ha hG hV => ?_) ?_
            · skip
              have h36 : a.tmps.getD 36 undef = .bool (decide (H.ht ≤ htX Y)) := hV.get 36 (by decide +kernel)
              exact ⟨.bool (decide (H.ht ≤ htX Y)), wanted_free rfl, by simp [execOp, go_sem, h36], rfl⟩
            exact OweAllC.nil
            ) ?_
          intro f wz xz hG hx hv
          have e31 : f 31 = .bool (decide (H.ht ≤ htX Y)) := hv 5 _ 31 rfl rfl
          first | (rename_i hK; refine hK _ _ ?_; clear hK) | (rename_i hK _; refine hK _ _ ?_; clear hK) | (rename_i hK _ _; refine hK _ _ ?_; clear hK) | (rename_i hK _ _ _; refine hK _ _ ?_; clear hK)
          clear hv hx
          simp only [dsts, puts, List.filterMap_cons, List.filterMap_nil, List.foldl_cons, List.foldl_nil, Act.put, List.setIfInBounds_toArray, List.set_cons_succ, List.set_cons_zero, e31]
          clear e31
          have HBZ := Lib.hid (HB7.out.trans (hG.mono HB7.out.size))
          clear hG HG0
          by_cases hle : H.ht ≤ htX Y
          · have HLE := Lib.hid hle
            go_wp2_with fail
            rw [HF.out]
            exact ⟨11, rfl, .inr (.inr ⟨HC0.out, HHS.out.symm, Y, 0, HP.out, .inr (.inr (.inl ⟨rfl, HLE.out, rfl⟩))⟩), HBZ.out⟩
          · have hlt : htX Y < H.ht := by omega
            have HLT := Lib.hid hlt
            go_wp2_with fail
            rw [HF.out]
            exact ⟨0, rfl, .inr (.inr ⟨HC0.out, HHS.out.symm, Y, 0, HP.out, .inr (.inr (.inr ⟨rfl, HLT.out, rfl⟩))⟩), HBZ.out⟩
        · have H7 := Lib.hid he7
          have H0 := Lib.hid he0
          go_wp2_with fail
          rw [HF.out]
          exact ⟨10, rfl, .inr (.inr ⟨HC0.out, HHS.out.symm, Y, e1, HP.out, .inr (.inl ⟨H7.out, H0.out, rfl⟩)⟩), HB7.out⟩
  · have HN0 := Lib.hid hc0
    go_wp2_with fail
    rw [HF.out]
    exact ⟨c, rfl, .inl ⟨by rw [← HCE.out]; exact HN0.out, HCE.out⟩, HB2.out⟩
end
end Go.Proofs.YtemnebbdaljfbaaGreatDoor
