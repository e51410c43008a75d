/- Law: a row of its own, another's numbers appended. -/
import Derived.Test.YtepibfpdkjkdjaaDoorLaw2
import Derived.Laws.AppendOwnNone
namespace Go.Proofs.YtepibfpdkjkdjaaDoor
open Go.RowKit

theorem run_append_zero {P : Program} {w : World} (base : Nat) (t ty e : TypeId) (i : TypeInfo) (size : Nat) (ht : P.underlying t = some (.slice e)) (hi : P.info? e = some i)
    (g n cap : Nat) (hle : n ≤ cap) (q : Option Addr) (c : Nat) :
    (Builtin.append_ #[t, t] ty #[.slice (some ⟨g, 0, none⟩) n cap, .slice q 0 c]).run P w = .ok (.slice (some ⟨g, 0, none⟩) n cap) w := by
  cases q <;> simp [Builtin.append_, run_underlying ht, sizeOf, typeInfo, hi, Builtin.lenOf, Builtin.firstCells, hle, storeCells, loadCells, loadCellsFrom]

/-- Another row's numbers are appended to a new row. -/
theorem wpList_cat {P : Program} {ops : Array Oper} {rest : List Oper} {o : Oper} {a : Act} {Q : Exit → Act → World → Prop} {w : World} (hgd : o.guard = none) (s x : Operand) (k : IntKind) (Ts T : TypeId) (z : Value) (bytes : Nat)
    (ho : o.op = .call { callee := .builtin .append, args := #[s, x], argTypes := #[Ts, Ts] }) (hT : P.underlying Ts = some (.slice T)) (hi : (P.info? T).map (fun i => (i.zero, i.size, i.bytes)) = some (some z, 1, bytes)) (hzs : z.cells.size = 1) (hby : bytes ≤ 8)
    (g cap n : Nat) (q : Option Addr) (cq m : Nat) (A Y : List Nat) (hn : A.length = n) (hY : Y.length = m) (hs : a.eval s = .slice (some ⟨g, 0, none⟩) n cap) (hS : Sl k T w (some ⟨g, 0, none⟩) cap A) (hx : a.eval x = .slice q m cq) (hX : Sl k T w q cq Y) (hl : n + m ≤ 1000000000000)
    (h : ∀ q c w', Pushed k T w (some ⟨g, 0, none⟩) (A ++ Y) q c w' → wpList P ops Q rest (a.put o.dst (.slice q (n + m) c)) w') :
    wpList P ops Q (o :: rest) a w := by
  obtain ⟨i, hi', hz, h1, h2⟩ := info_parts hi
  subst hn
  subst hY
  by_cases h0 : 0 < Y.length
  · obtain ⟨gx, rfl⟩ := hX.isPtr (List.length_pos_iff.1 h0)
    have hSo : w.ownsRow 0 T 1 (.slice (some ⟨g, 0, none⟩) A.length cap) A.length (nums k A) := hS
    refine wpList_append_lies _ hgd s x Ts ho 0 T i z 1 bytes hT hi' hz h1 h2 hzs (by decide) _ A.length (nums k A) hs hSo ⟨gx, 0, none⟩ Y.length cq (nums k Y) hx (by simp [nums_len]) ?_ (nums_one _ _) h0 (by unfold maxLen; omega) ?_ (Nat.zero_le _) _ rfl ?_
    · intro j u hj
      have hadd : (⟨gx, 0, none⟩ : Addr).add j = ⟨gx, j, none⟩ := by unfold Addr.add; split <;> simp_all
      rw [hadd]
      have hjl : j < Y.length := by
        have := (List.getElem?_eq_some_iff.1 hj).1
        simpa [nums_len] using this
      rw [hX.cell j hjl]
      rw [nums_get k Y j hjl] at hj
      exact hj
    · have := Nat.mul_le_mul hl hby; omega
    · intro g' c w' hown hgrow hat _
      refine h (some ⟨g', 0, none⟩) c w' ⟨?_, ?_, g', rfl, ?_⟩
      · unfold Sl; rw [List.length_append, show nums k (A ++ Y) = nums k A ++ nums k Y by simp [nums]]; exact hown
      · refine (Mod.refl _ w).grown hgrow ?_
        intro j hj _
        simp [Value.ownBlock] at hj; exact ⟨_, rfl, hj.symm⟩
      · rcases hat with hat | hat
        · left; simp [Value.ownBlock] at hat; subst hat; rfl
        · right; rw [hat]; simp
  · obtain rfl : Y = [] := List.eq_nil_of_length_eq_zero (by omega)
    refine wpList_plain hgd fun K hK => ?_
    have hrun := run_append_zero (P := P) (w := w) 0 Ts o.type T i 1 hT hi' g A.length cap hS.cap_le q cq
    have hfin := h (some ⟨g, 0, none⟩) cap w ⟨by rw [List.append_nil]; exact hS, Mod.refl _ w, g, rfl, .inl rfl⟩
    unfold Oper.wp
    simp only [List.length_nil] at hx
    simp [execOp, ho, resolve, invoke, builtin, hs, hx, hrun, Result.andThen]
    simp at hfin
    exact hK _ _ hfin
end Go.Proofs.YtepibfpdkjkdjaaDoor
