/- A key's names, purely, for the law of keys. -/
import Derived.Test.YtlhndibfdccohaaDoorZ6
namespace Go.Proofs.YtlhndibfdccohaaDoor
open Go.RowKit

theorem drop_kB (M : List Nm) (i : Nat) (h : i < M.length) : ((kB M).drop (i * 32)).take 32 = M[i].1 := by
  induction M generalizing i with
  | nil => exact absurd h (by simp)
  | cons x l ih =>
    have e : kB (x :: l) = x.1 ++ kB l := by simp [kB]
    cases i with
    | zero => rw [e, Nat.zero_mul, List.drop_zero, List.take_left' x.2]; rfl
    | succ j =>
      rw [e, List.drop_append, List.drop_eq_nil_of_le (by rw [x.2]; omega), List.nil_append]
      have := ih j (by simpa using h)
      rw [List.getElem_cons_succ, ← this, x.2, show (j + 1) * 32 - 32 = j * 32 by omega]
theorem pcs_of (M : List Nm) : pcs (kB M) = M := by
  unfold pcs
  rw [kB_len, Nat.mul_div_cancel _ (by decide)]
  apply List.ext_getElem
  · simp
  · intro i h1 h2
    rw [List.getElem_map, List.getElem_range]
    apply Subtype.ext
    show idL (((kB M).drop (i * 32)).take 32) = M[i].1
    rw [drop_kB M i h2]; exact idL_self _ M[i].2
/-- A key of names that rise has names just if there are one to five. -/
theorem nmsOk_of (M : List Nm) (hp : M.Pairwise lN) : nmsOk (kB M) = decide (1 ≤ M.length ∧ M.length ≤ 5) := by
  unfold nmsOk
  rw [pcs_of, kB_len, Nat.mul_div_cancel _ (by decide), (rs_pair M).2 hp, Bool.and_true]
  congr 1
  simp
theorem kB_pcs (K : List UInt8) (h : K.length % 32 = 0) : kB (pcs K) = K := by
  have key : ∀ (n : Nat) (K : List UInt8), K.length = n * 32 → kB ((List.range n).map (pc K)) = K := by
    intro n
    induction n with
    | zero => intro K hK; simp [kB]; exact List.eq_nil_of_length_eq_zero (by omega)
    | succ n ih =>
      intro K hK
      have h1 := ih (K.take (n * 32)) (by rw [List.length_take]; omega)
      have h2 : (List.range n).map (pc (K.take (n * 32))) = (List.range n).map (pc K) := List.map_congr_left fun i hi => by
        have hi := List.mem_range.1 hi
        apply Subtype.ext
        show idL (((K.take (n * 32)).drop (i * 32)).take 32) = idL ((K.drop (i * 32)).take 32)
        congr 1
        rw [List.drop_take, List.take_take, Nat.min_eq_left (by omega)]
      rw [List.range_succ, List.map_append, List.map_cons, List.map_nil, kB_app, ← h2, h1]
      show K.take (n * 32) ++ idL ((K.drop (n * 32)).take 32) = K
      rw [idL_self _ (by rw [List.length_take, List.length_drop]; omega), List.take_of_length_le (l := K.drop (n * 32)) (by rw [List.length_drop]; omega), List.take_append_drop]
  exact key (K.length / 32) K (by omega)
/-- Names by what they hold alone. -/
theorem kset_congr {A B : List Nm} (h : ∀ x, x ∈ A ↔ x ∈ B) : kset A = kset B :=
  strict_uniq _ _ (kset_strict A) (kset_strict B) (fun x => by rw [kset_mem, kset_mem, h])
/-- Two are changed for one another. -/
theorem swap_mem (M : List Nm) (i j : Nat) (hi : i < M.length) (hj : j < M.length) (x : Nm) : x ∈ (M.set i M[j]).set j M[i] ↔ x ∈ M := by
  have key : ∀ k (hk : k < M.length), ((M.set i M[j]).set j M[i])[k]'(by simpa using hk) = if j = k then M[i] else if i = k then M[j] else M[k] := by
    intro k hk
    rw [List.getElem_set]
    split
    · rfl
    · rw [List.getElem_set]
  constructor
  · intro h
    obtain ⟨k, hk, e⟩ := List.mem_iff_getElem.1 h
    have hk2 : k < M.length := by simpa using hk
    rw [key k hk2] at e
    rw [← e]
    split
    · exact List.getElem_mem _
    · split <;> exact List.getElem_mem _
  · intro h
    obtain ⟨k, hk, rfl⟩ := List.mem_iff_getElem.1 h
    by_cases e1 : k = j
    · subst e1
      by_cases e2 : i = k
      · subst e2
        refine List.mem_iff_getElem.2 ⟨i, by simpa using hk, ?_⟩
        rw [key i hk, if_pos rfl]
      · refine List.mem_iff_getElem.2 ⟨i, by simpa using hi, ?_⟩
        rw [key i hi, if_neg (fun e => e2 e.symm), if_pos rfl]
    · by_cases e2 : k = i
      · subst e2
        refine List.mem_iff_getElem.2 ⟨j, by simpa using hj, ?_⟩
        rw [key j hj, if_pos rfl]
      · refine List.mem_iff_getElem.2 ⟨k, by simpa using hk, ?_⟩
        rw [key k hk, if_neg (fun e => e1 e.symm), if_neg (fun e => e2 e.symm)]
/-- A number's name, a name. -/
def nmB (x : UInt8) : Nm := ⟨nameL x, nameL_len x⟩
theorem nmB_map (L : List UInt8) : (L.map nmB).map (·.1) = L.map nameL := by simp [nmB, Function.comp_def]
theorem rd_nm {w : World} {g : Nat} {M : List Nm} (h : Rd encN w (some ⟨g, 0, none⟩) M) (i : Nat) (hi : i < M.length) : ∀ k u, (encN.f M[i])[k]? = some u → w.cell? ⟨g, i * 32 + k, none⟩ = some u := by
  obtain ⟨bs, off, e, _, hc⟩ := h i hi
  cases e
  intro k u hu
  have := hc k u hu
  rw [show encN.k = 32 from rfl, Nat.zero_add] at this
  exact this
theorem rwN_set {T : TypeId} {w : World} {g cap : Nat} {M : List Nm} (h : Rw encN T w (some ⟨g, 0, none⟩) cap M) (i : Nat) (hi : i < M.length) (x : Nm) : ∃ W4, Rw encN T W4 (some ⟨g, 0, none⟩) cap (M.set i x) ∧ Mod (fun k => k = g) w W4 ∧
    ∀ (oo : Oper) (a : Act) (p q : Operand), oo.op = .store 43 p q → a.eval p = .pointer (some ⟨g, i * 32, none⟩) → a.eval q = .agg (vals x.1).toArray → (execOp a.eval oo).run Tryd.prog w = .ok .skip W4 := by
  obtain ⟨cur, hh, hsz, hrw⟩ := h.setAt i hi x
  refine ⟨_, hrw, ((Mod.refl (fun _ => False) w).setRow _).mono (fun i _ h => h.elim (fun h => h.elim) id), fun oo a p q h1 h2 h3 => ?_⟩
  have h := exec_store_at (P := Tryd.prog) (w := w) 43 p q h1 g (i * 32) h2 T cur (vals x.1) h3 hh (by rw [vals_len, x.2]; exact hsz) (by rw [vals_len, x.2]; kernel_rfl) (vals_one x.1)
  rw [vals_len, x.2] at h
  exact h
theorem pcs_getD (T : List UInt8) (j : Nat) (hj : (j + 1) * 32 ≤ T.length) : ((pcs T).map (·.1)).getD j [] = (T.drop (j * 32)).take 32 := by
  have h1 : j < T.length / 32 := by omega
  unfold pcs
  rw [List.map_map, List.getD_eq_getElem?_getD, List.getElem?_map, List.getElem?_range h1]
  show idL ((T.drop (j * 32)).take 32) = _
  exact idL_self _ (by rw [List.length_take, List.length_drop]; omega)
theorem nmsOk_base (T : List UInt8) : nmsOk T = (decide (T.length % 32 = 0 ∧ 32 ≤ T.length ∧ T.length ≤ 160) && rs ((pcs T).map (·.1)) (T.length / 32 - 1)) := by
  unfold nmsOk
  by_cases h : T.length % 32 = 0 ∧ 32 ≤ T.length ∧ T.length ≤ 160
  · rw [decide_eq_true h, decide_eq_true ⟨h.1, by omega, by omega⟩]
  · rw [decide_eq_false h, Bool.false_and]
    by_cases h2 : T.length % 32 = 0
    · rw [decide_eq_false (by omega), Bool.false_and]
    · rw [decide_eq_false (by omega), Bool.false_and]
theorem pcs_key (T : List UInt8) (h : nmsOk T = true) : kB (kset (pcs T)) = T := by
  rw [nmsOk_base] at h
  simp only [Bool.and_eq_true, decide_eq_true_eq] at h
  have hl : (pcs T).length = T.length / 32 := by simp [pcs]
  rw [kset_self ((rs_pair _).1 (by rw [hl]; exact h.2)), kB_pcs T h.1.1]
end Go.Proofs.YtlhndibfdccohaaDoor
