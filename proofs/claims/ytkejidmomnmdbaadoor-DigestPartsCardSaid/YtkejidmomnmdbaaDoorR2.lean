import Derived.Test.YtkejidmomnmdbaaDoorR
namespace Go.Proofs.YtkejidmomnmdbaaDoor
open Go.RowKit

/-- A row of words appended to an owned empty row. -/
theorem wpList_clone64 {ops : Array Oper} {rest : List Oper} {o : Oper} {a : Act} {Q : Exit → Act → World → Prop} {w : World} (hgd : o.guard = none) (s x : Operand)
    (ho : o.op = .call { callee := .builtin .append, args := #[s, x], argTypes := #[103, 103] }) (B g cap gh m c : Nat) (A : List Nat) (hm : A.length = m) (h0 : 0 < m)
    (hs : a.eval s = .slice (some ⟨g, 0, none⟩) 0 cap) (hV : W64 B w g cap []) (hR : RowAt .u64 37 w gh A) (hx : a.eval x = .slice (some ⟨gh, 0, none⟩) m c) (hl : m ≤ 1000) (hB : B ≤ w.heap.size)
    (h : ∀ g' cap' w', W64 B w' g' cap' A → Mod (· = g) w w' → wpList Tryd.prog ops Q rest (a.put o.dst (.slice (some ⟨g', 0, none⟩) m cap')) w') :
    wpList Tryd.prog ops Q (o :: rest) a w := by
  obtain ⟨i, z, hi, hz, h1, h2, h3⟩ := info39
  subst hm
  have hlo := hV.lo
  have hV0 : w.ownsRow B 37 1 (.slice (some ⟨g, 0, none⟩) 0 cap) 0 [] := hV
  refine wpList_append_lies _ hgd s x 103 ho B 37 i z 1 8 Tryd.underlying103 hi hz h1 h2 h3 (by decide) _ 0 [] hs hV0 ⟨gh, 0, none⟩ A.length c (nums .u64 A) hx (by simp [nums_len]) ?_ (nums_one _ _) h0 (by unfold maxLen; omega) (by omega) hB _ rfl ?_
  · intro j u hj
    have hjl : j < A.length := by
      have := List.getElem?_eq_some_iff.1 hj
      obtain ⟨hlt, _⟩ := this
      rwa [nums_len] at hlt
    rw [nums_get .u64 A j hjl] at hj
    cases hj
    have hadd : (⟨gh, 0, none⟩ : Addr).add j = ⟨gh, j, none⟩ := by unfold Addr.add; split <;> simp_all
    rw [hadd]
    exact hR.cell j hjl
  · intro g' cap' w' hown hgrow _ _
    have e0 : 0 + A.length = A.length := Nat.zero_add _
    rw [e0, List.nil_append] at hown
    rw [e0]
    refine h g' cap' w' hown ((Mod.refl (· = g) w).grown hgrow ?_)
    intro k hk _
    simp [Value.ownBlock] at hk
    exact hk.symm

/-- An append of one word that lies somewhere. -/
theorem push64_wp {o : Oper} {a : Act} {K : Act → World → Prop} {Q : Exit → Act → World → Prop} {w : World} (s x : Operand)
    (ho : o.op = .call { callee := .builtin .append, args := #[s, x], argTypes := #[103, 103] }) (B g cap n y b : Nat) (A : List Nat) (hn : A.length = n)
    (hs : a.eval s = .slice (some ⟨g, 0, none⟩) n cap) (hV : W64 B w g cap A) (hx : a.eval x = .slice (some ⟨b, 0, none⟩) 1 1) (hc : w.cell? ⟨b, 0, none⟩ = some (.int .u64 (y : Int))) (hl : n ≤ 1000) (hB : B ≤ w.heap.size)
    (h : ∀ g' cap' w', W64 B w' g' cap' (A ++ [y]) → Mod (fun i => B ≤ i) w w' → K (a.put o.dst (.slice (some ⟨g', 0, none⟩) (n + 1) cap')) w') : o.wp Tryd.prog a w K Q := by
  obtain ⟨i, z, hi, hz, h1, h2, h3⟩ := info39
  subst hn
  have hVo : w.ownsRow B 37 1 (.slice (some ⟨g, 0, none⟩) A.length cap) A.length (nums .u64 A) := hV
  refine wp_append_lies w s x 103 ho B 37 i z 1 8 Tryd.underlying103 hi hz h1 h2 h3 (by decide) _ A.length (nums .u64 A) hs hVo ⟨b, 0, none⟩ 1 1 [.int .u64 (y : Int)] hx rfl ?_ (by intro u hu; simp at hu; subst hu; rfl) (by omega) (by unfold maxLen; omega) (by omega) hB _ rfl ?_
  · intro j u hj
    match j, hj with
    | 0, hj =>
      simp only [List.getElem?_cons_zero, Option.some.injEq] at hj
      subst hj
      exact hc
  · intro g' cap' w' hown hgrow hg' hlt
    have hlo := hV.lo
    refine h g' cap' w' (hV.push hown) ((Mod.refl (fun i => B ≤ i) w).grown hgrow ?_)
    intro k hk _
    simp [Value.ownBlock] at hk
    omega

theorem S1_facts (e : Nat) (he : e < 4294967296) : ∃ r z : Nat, Hid (z = S1 e) ∧ z < 4294967296 ∧ bits BinOp.xor IntKind.u64 (rotr e 6 : Int) (rotr e 11 : Int) = (r : Int) ∧ bits BinOp.xor IntKind.u64 (r : Int) (rotr e 25 : Int) = (z : Int) :=
  ⟨_, _, rfl, S1_lt e he, x64 _ _ (rotr_lt e 6 he (by decide)) (rotr_lt e 11 he (by decide)), x64 _ _ (xor_lt _ _ (rotr_lt e 6 he (by decide)) (rotr_lt e 11 he (by decide))) (rotr_lt e 25 he (by decide))⟩
theorem S0_facts (a : Nat) (ha : a < 4294967296) : ∃ r z : Nat, Hid (z = S0 a) ∧ z < 4294967296 ∧ bits BinOp.xor IntKind.u64 (rotr a 2 : Int) (rotr a 13 : Int) = (r : Int) ∧ bits BinOp.xor IntKind.u64 (r : Int) (rotr a 22 : Int) = (z : Int) :=
  ⟨_, _, rfl, S0_lt a ha, x64 _ _ (rotr_lt a 2 ha (by decide)) (rotr_lt a 13 ha (by decide)), x64 _ _ (xor_lt _ _ (rotr_lt a 2 ha (by decide)) (rotr_lt a 13 ha (by decide))) (rotr_lt a 22 ha (by decide))⟩
theorem ch_facts (e f g : Nat) (be : e < 4294967296) (bf : f < 4294967296) (bg : g < 4294967296) : ∃ n1 ne n2 z : Nat, Hid (z = ch e f g) ∧ z < 4294967296 ∧ bits BinOp.and IntKind.u64 (e : Int) (f : Int) = (n1 : Int) ∧
    (4294967295 - (e : Int)) = (ne : Int) ∧ IntKind.u64.wrap (4294967295 - (e : Int)) = (ne : Int) ∧ bits BinOp.and IntKind.u64 (ne : Int) (g : Int) = (n2 : Int) ∧ bits BinOp.xor IntKind.u64 (n1 : Int) (n2 : Int) = (z : Int) :=
  ⟨_, 4294967295 - e, _, _, rfl, ch_lt e f g bf bg, n64 _ _ be bf, by omega, by rw [IntKind.wrap_u64]; omega, n64 _ _ (by omega) bg, x64 _ _ (and_lt _ _ bf) (and_lt _ _ bg)⟩
theorem maj_facts (a b c : Nat) (ba : a < 4294967296) (bb : b < 4294967296) (bc : c < 4294967296) : ∃ p q r s z : Nat, Hid (z = maj a b c) ∧ z < 4294967296 ∧ bits BinOp.and IntKind.u64 (a : Int) (b : Int) = (p : Int) ∧
    bits BinOp.and IntKind.u64 (a : Int) (c : Int) = (q : Int) ∧ bits BinOp.and IntKind.u64 (b : Int) (c : Int) = (r : Int) ∧ bits BinOp.xor IntKind.u64 (p : Int) (q : Int) = (s : Int) ∧ bits BinOp.xor IntKind.u64 (s : Int) (r : Int) = (z : Int) :=
  ⟨_, _, _, _, _, rfl, maj_lt a b c bb bc, n64 _ _ ba bb, n64 _ _ ba bc, n64 _ _ bb bc, x64 _ _ (and_lt _ _ bb) (and_lt _ _ bc), x64 _ _ (xor_lt _ _ (and_lt _ _ bb) (and_lt _ _ bc)) (and_lt _ _ bc)⟩

theorem toV_list (H : List Nat) (h : H.length = 8) : (toV H).list = H := by
  apply List.ext_getElem
  · rw [h]; rfl
  · intro i h1 h2
    have hi : i < 8 := by rw [← h]; exact h2
    have key : ∀ j, j < 8 → (toV H).list[j]? = some (H.getD j 0) := by
      intro j hj
      match j, hj with
      | 0, _ => rfl
      | 1, _ => rfl
      | 2, _ => rfl
      | 3, _ => rfl
      | 4, _ => rfl
      | 5, _ => rfl
      | 6, _ => rfl
      | 7, _ => rfl
    have k := key i hi
    rw [List.getElem?_eq_getElem h1, getD_at _ _ h2] at k
    exact Option.some.inj k
theorem toV_ok (H : List Nat) (h : H.length = 8) (hb : ∀ x ∈ H, x < 4294967296) : (toV H).ok := by
  have key : ∀ j, j < 8 → H.getD j 0 < 4294967296 := by
    intro j hj; rw [getD_at _ _ (by omega)]; exact hb _ (List.getElem_mem _)
  exact ⟨key 0 (by decide), key 1 (by decide), key 2 (by decide), key 3 (by decide), key 4 (by decide), key 5 (by decide), key 6 (by decide), key 7 (by decide)⟩

/-- A round's memory. -/
structure Rel7 (w : World) (gh gk B : Nat) (HH SL : List Nat) (g2 cap2 gv capv : Nat) (v : V) (wr : World) : Prop where
  r : RefAt w gh gk B HH wr
  s : W64 B wr g2 cap2 SL
  v : W64 B wr gv capv v.list
theorem Rel7.drewN {w : World} {gh gk B : Nat} {HH SL : List Nat} {g2 cap2 gv capv : Nat} {v : V} {wr : World} (h : Rel7 w gh gk B HH SL g2 cap2 gv capv v wr) (n : Nat) : Rel7 w gh gk B HH SL g2 cap2 gv capv v (wr.drewN n) :=
  ⟨h.r.step (Mod.drewN (Mod.refl _ _) n), h.s.kept (S := fun _ => False) (Mod.drewN (Mod.refl _ _) n) (fun h => h), h.v.kept (S := fun _ => False) (Mod.drewN (Mod.refl _ _) n) (fun h => h)⟩
theorem Rel7.next {w : World} {gh gk B : Nat} {HH SL : List Nat} {g2 cap2 gv capv : Nat} {v u : V} {wr : World} (h : Rel7 w gh gk B HH SL g2 cap2 gv capv v wr) (a : List Nat) (ha : a = u.list) :
    Rel7 w gh gk B HH SL g2 cap2 wr.heap.size 8 u (wr.alloc (.cells (nums .u64 a).toArray 37 (0, 0))) := by
  subst ha
  have hm : Mod (fun i => B ≤ i) wr (wr.alloc (.cells (nums .u64 u.list).toArray 37 (0, 0))) := (Mod.refl _ _).alloc _
  exact ⟨h.r.step hm, h.s.kept (S := fun _ => False) ((Mod.refl _ _).alloc _) (fun h => h), W64.fresh wr u.list h.r.b (by simp [V.list, maxLen])⟩

theorem Rel7.cells {w : World} {gh gk B : Nat} {HH SL : List Nat} {g2 cap2 gv capv a b c d e f g h : Nat} {wr : World} (hX : Rel7 w gh gk B HH SL g2 cap2 gv capv ⟨a, b, c, d, e, f, g, h⟩ wr) :
    wr.cell? ⟨gv, 0, none⟩ = some (.int .u64 (a : Int)) ∧ wr.cell? ⟨gv, 1, none⟩ = some (.int .u64 (b : Int)) ∧ wr.cell? ⟨gv, 2, none⟩ = some (.int .u64 (c : Int)) ∧ wr.cell? ⟨gv, 3, none⟩ = some (.int .u64 (d : Int)) ∧
    wr.cell? ⟨gv, 4, none⟩ = some (.int .u64 (e : Int)) ∧ wr.cell? ⟨gv, 5, none⟩ = some (.int .u64 (f : Int)) ∧ wr.cell? ⟨gv, 6, none⟩ = some (.int .u64 (g : Int)) ∧ wr.cell? ⟨gv, 7, none⟩ = some (.int .u64 (h : Int)) :=
  ⟨hX.v.cell 0 (by simp [V.list]), hX.v.cell 1 (by simp [V.list]), hX.v.cell 2 (by simp [V.list]), hX.v.cell 3 (by simp [V.list]), hX.v.cell 4 (by simp [V.list]), hX.v.cell 5 (by simp [V.list]), hX.v.cell 6 (by simp [V.list]), hX.v.cell 7 (by simp [V.list])⟩

/-- The sum of a round. -/
theorem t_sum (e f g h k w z1 z2 : Nat) (h1 : z1 = S1 e) (h2 : z2 = ch e f g) (a b c d : Nat) : (h + z1 + z2 + k + w) % 4294967296 = tOf ⟨a, b, c, d, e, f, g, h⟩ k w := by
  rw [tOf_sum, h1, h2]
theorem u_sum (a b c z1 z2 d e f g h : Nat) (h1 : z1 = S0 a) (h2 : z2 = maj a b c) : (z1 + z2) % 4294967296 = uOf ⟨a, b, c, d, e, f, g, h⟩ := by
  simp only [uOf]; rw [h1, h2]
end Go.Proofs.YtkejidmomnmdbaaDoor
