/- Rows of entries (two numbers each) that own their cells: append. -/
import Derived.Test.YthmgigojgagpeaaT4
import Derived.Deep.AppendLies
namespace Go.Proofs.Ythmgigojgagpeaa
open Go.RowKit

/-- Entries as cells. -/
def flat (E : List (Nat × Nat)) : List Value := E.flatMap fun e => [.int .i64 (e.1 : Int), .int .i64 (e.2 : Int)]
theorem flat_len (E : List (Nat × Nat)) : (flat E).length = E.length * 2 := by
  induction E with
  | nil => rfl
  | cons e E ih => simp [flat] at ih ⊢; omega
theorem flat_app (a b : List (Nat × Nat)) : flat (a ++ b) = flat a ++ flat b := by simp [flat]
theorem flat_get (E : List (Nat × Nat)) (j : Nat) (h : j < E.length) : (flat E)[j * 2]? = some (.int .i64 (E[j].1 : Int)) ∧ (flat E)[j * 2 + 1]? = some (.int .i64 (E[j].2 : Int)) := by
  induction E generalizing j with
  | nil => simp at h
  | cons e E ih =>
    have e0 : flat (e :: E) = .int .i64 (e.1 : Int) :: .int .i64 (e.2 : Int) :: flat E := rfl
    cases j with
    | zero => rw [e0]; exact ⟨rfl, rfl⟩
    | succ j =>
      have := ih j (by simpa using h)
      rw [e0, show (j + 1) * 2 = j * 2 + 2 by omega]
      exact this
theorem flat_one (E : List (Nat × Nat)) : ∀ v ∈ flat E, v.oneCell' = true := by
  intro v hv
  simp only [flat, List.mem_flatMap, List.mem_cons, List.not_mem_nil, or_false] at hv
  obtain ⟨e, _, rfl | rfl⟩ := hv <;> rfl
/-- The slice at p holds the entries E, from its block's head on; nil holds none. -/
def Pr (T : TypeId) (w : World) (p : Option Addr) (cap : Nat) (E : List (Nat × Nat)) : Prop := w.ownsRow 0 T 2 (.slice p E.length cap) E.length (flat E)
theorem Pr.shape {T : TypeId} {w : World} {p : Option Addr} {cap : Nat} {E : List (Nat × Nat)} (h : Pr T w p cap E) :
    (p = none ∧ E = [] ∧ cap = 0) ∨ ∃ g, p = some ⟨g, 0, none⟩ ∧ g < w.heap.size ∧ E.length ≤ cap ∧ cap ≤ maxLen ∧ ∃ cur : Array Value, w.heap[g]? = some (.cells cur T (0, 0)) ∧ cur.size = cap * 2 ∧ cur.toList.take (E.length * 2) = flat E := by
  rcases h.2 with ⟨e, h0⟩ | ⟨g, cap', cur, e, _, hh, h1, h2, h3, h4⟩
  · simp only [Value.slice.injEq] at e
    exact .inl ⟨e.1, List.eq_nil_of_length_eq_zero h0, e.2.2⟩
  · simp only [Value.slice.injEq] at e
    obtain ⟨rfl, _, rfl⟩ := e
    exact .inr ⟨g, rfl, (Array.getElem?_eq_some_iff.1 hh).1, h1, h2, cur, hh, h3, h4⟩
theorem Pr.of_row {T : TypeId} {w : World} {g cap : Nat} {E : List (Nat × Nat)} {cur : Array Value} (hh : w.heap[g]? = some (.cells cur T (0, 0))) (h1 : E.length ≤ cap) (h2 : cap ≤ maxLen) (h3 : cur.size = cap * 2) (h4 : cur.toList.take (E.length * 2) = flat E) :
    Pr T w (some ⟨g, 0, none⟩) cap E := ⟨flat_len E, .inr ⟨g, cap, cur, rfl, Nat.zero_le _, hh, h1, h2, h3, h4⟩⟩
theorem Pr.empty (T : TypeId) (w : World) : Pr T w none 0 [] := World.ownsRow_nil _ _ _ _
theorem Pr.kept {T : TypeId} {w w' : World} {p : Option Addr} {cap : Nat} {E : List (Nat × Nat)} {S : Nat → Prop} (h : Pr T w p cap E) (hm : Mod S w w') (hp : ∀ a, p = some a → ¬ S a.block) : Pr T w' p cap E := by
  rcases h.shape with ⟨rfl, rfl, rfl⟩ | ⟨g, rfl, hl, h1, h2, cur, hh, h3, h4⟩
  · exact Pr.empty _ _
  · exact Pr.of_row ((hm.block g hl (hp _ rfl)).trans hh) h1 h2 h3 h4
theorem Pr.old {T : TypeId} {w w' : World} {p : Option Addr} {cap : Nat} {E : List (Nat × Nat)} (h : Pr T w p cap E) (hb : Below w.heap.size w w') : Pr T w' p cap E :=
  h.kept (Mod.of_below hb) (fun a e hs => by
    subst e
    rcases h.shape with ⟨e, _⟩ | ⟨g, e, hl, _⟩
    · cases e
    · cases e; exact Nat.lt_irrefl _ (Nat.lt_of_lt_of_le hl hs))
theorem Pr.ents {T : TypeId} {w : World} {p : Option Addr} {cap : Nat} {E : List (Nat × Nat)} (h : Pr T w p cap E) : EntsAt w p E := by
  intro j hj
  rcases h.shape with ⟨rfl, rfl, rfl⟩ | ⟨g, rfl, hl, h1, h2, cur, hh, h3, h4⟩
  · simp at hj
  · obtain ⟨e1, e2⟩ := flat_get E j hj
    refine ⟨g, 0, rfl, hl, ?_, ?_⟩
    · rw [cell_of_row w g (0 + j * 2) _ T (0, 0) hh, Nat.zero_add]
      rw [← h4, List.getElem?_take_of_lt (by omega)] at e1
      simpa using e1
    · rw [cell_of_row w g (0 + j * 2 + 1) _ T (0, 0) hh, Nat.zero_add]
      rw [← h4, List.getElem?_take_of_lt (by omega)] at e2
      simpa using e2
/-- Behind an append: the slice holds one entry more, in its own block or in a new one. -/
def PushedP (T : TypeId) (w : World) (p : Option Addr) (B : List (Nat × Nat)) (q : Option Addr) (cap : Nat) (w' : World) : Prop :=
  Pr T w' q cap B ∧ Mod (fun i => ∃ a, p = some a ∧ i = a.block) w w' ∧ ∃ g, q = some ⟨g, 0, none⟩ ∧ (p = some ⟨g, 0, none⟩ ∨ w.heap.size ≤ g)
theorem wpList_pushP {P : Program} {ops : Array Oper} {rest : List Oper} {o : Oper} {a : Act} {Q : Exit → Act → World → Prop} {w : World} (hgd : o.guard = none) (s x : Operand) (Ts T : TypeId) (z : Value)
    (ho : o.op = .call { callee := .builtin .append, args := #[s, x], argTypes := #[Ts, Ts] }) (hT : P.underlying Ts = some (.slice T)) (hi : (P.info? T).map (fun i => (i.zero, i.size, i.bytes)) = some (some z, 2, 16)) (hzs : z.cells.size = 2)
    (p : Option Addr) (cap n : Nat) (E : List (Nat × Nat)) (e : Nat × Nat) (hn : E.length = n) (hs : a.eval s = .slice p n cap) (hS : Pr T w p cap E) {B : Nat} (hx : a.eval x = .slice (some ⟨B, 0, none⟩) 1 1) (hB : w.heap.size = B) (hl : n + 1 ≤ 1000000000000)
    (h : ∀ q c w', PushedP T w p (E ++ [e]) q c w' → wpList P ops Q rest (a.put o.dst (.slice q (n + 1) c)) w') :
    wpList P ops Q (o :: rest) a (w.alloc (.cells #[.int .i64 (e.1 : Int), .int .i64 (e.2 : Int)] T)) := by
  cases hq : P.info? T with
  | none => rw [hq] at hi; cases hi
  | some i =>
    rw [hq] at hi
    simp only [Option.map_some, Option.some.injEq, Prod.mk.injEq] at hi
    obtain ⟨hz, h1, h2⟩ := hi
    subst hn
    subst hB
    have hSo : (w.alloc (.cells #[.int .i64 (e.1 : Int), .int .i64 (e.2 : Int)] T)).ownsRow 0 T 2 (.slice p E.length cap) E.length (flat E) := hS.old ((Below.refl _ _).alloc (Nat.le_refl _) _)
    refine wpList_append_lies _ hgd s x Ts ho 0 T i z 2 16 hT hq hz h1 h2 hzs (by decide) _ E.length (flat E) hs hSo ⟨w.heap.size, 0, none⟩ 1 1 (flat [e]) hx rfl ?_ (flat_one _) (by decide) (by unfold maxLen; omega) ?_ (Nat.zero_le _) _ rfl ?_
    · intro j u hj
      have hadd : (⟨w.heap.size, 0, none⟩ : Addr).add j = ⟨w.heap.size, j, none⟩ := by unfold Addr.add; split <;> simp_all
      rw [hadd, cell_of_row _ w.heap.size j _ T (0, 0) (heap_alloc_new _ _)]
      simpa [flat] using hj
    · omega
    · intro g c w' hown hgrow hat _
      refine h (some ⟨g, 0, none⟩) c w' ⟨?_, ?_, g, rfl, ?_⟩
      · unfold Pr; rw [List.length_append, flat_app]; exact hown
      · refine ((Mod.refl _ w).alloc _).grown hgrow ?_
        intro j hj _
        cases p with
        | none => simp [Value.ownBlock] at hj
        | some a => simp [Value.ownBlock] at hj; exact ⟨a, rfl, hj.symm⟩
      · rcases hat with hat | hat
        · left
          rcases hS.shape with ⟨rfl, _⟩ | ⟨g', rfl, _⟩
          · simp [Value.ownBlock] at hat
          · simp [Value.ownBlock] at hat; subst hat; rfl
        · right; rw [hat]; simp
end Go.Proofs.Ythmgigojgagpeaa
