/- Laws at the operations: append of numbers, bytes as a string, Reverse, TrimLeft. -/
import Derived.Test.YtepibfpdkjkdjaaDoorLaw
import Derived.Test.YtepibfpdkjkdjaaDoorNum3
import Derived.Test.YtepibfpdkjkdjaaDoorShelf
import Derived.Laws.BytesArg
namespace Go.Proofs.YtepibfpdkjkdjaaDoor
open Go.RowKit

/-- Behind an append: the slice holds more, in its own block or in a new one. -/
def Pushed (k : IntKind) (T : TypeId) (w : World) (p : Option Addr) (B : List Nat) (q : Option Addr) (cap : Nat) (w' : World) : Prop :=
  Sl k T w' q cap B ∧ Mod (fun i => ∃ a, p = some a ∧ i = a.block) w w' ∧ ∃ g, q = some ⟨g, 0, none⟩ ∧ (p = some ⟨g, 0, none⟩ ∨ w.heap.size ≤ g)

/-- Numbers are appended that a new block holds. -/
theorem wpList_push {P : Program} {ops : Array Oper} {rest : List Oper} {o : Oper} {a : Act} {Q : Exit → Act → World → Prop} {w : World} (hgd : o.guard = none) (s x : Operand) (k : IntKind) (Ts T : TypeId) (z : Value) (bytes : Nat)
    (ho : o.op = .call { callee := .builtin .append, args := #[s, x], argTypes := #[Ts, Ts] }) (hT : P.underlying Ts = some (.slice T)) (hi : (P.info? T).map (fun i => (i.zero, i.size, i.bytes)) = some (some z, 1, bytes)) (hzs : z.cells.size = 1) (hby : bytes ≤ 8)
    (p : Option Addr) (cap n m : Nat) (A Y : List Nat) (hn : A.length = n) (hY : Y.length = m) (h0 : 0 < m) (hs : a.eval s = .slice p n cap) (hS : Sl k T w p cap A) (hx : a.eval x = .slice (some ⟨w.heap.size, 0, none⟩) m m) (hl : n + m ≤ 1000000000000)
    (h : ∀ q c w', Pushed k T w p (A ++ Y) q c w' → wpList P ops Q rest (a.put o.dst (.slice q (n + m) c)) w') :
    wpList P ops Q (o :: rest) a (w.alloc (.cells (nums k Y).toArray T)) := by
  obtain ⟨i, hi', hz, h1, h2⟩ := info_parts hi
  subst hn
  subst hY
  have hSo : (w.alloc (.cells (nums k Y).toArray T)).ownsRow 0 T 1 (.slice p A.length cap) A.length (nums k A) := hS.alloc _
  refine wpList_append_lies _ hgd s x Ts ho 0 T i z 1 bytes hT hi' hz h1 h2 hzs (by decide) _ A.length (nums k A) hs hSo ⟨w.heap.size, 0, none⟩ Y.length Y.length (nums k Y) hx (by simp [nums_len]) ?_ (nums_one _ _) h0 (by unfold maxLen; omega) ?_ (Nat.zero_le _) _ rfl ?_
  · intro j u hj
    have hadd : (⟨w.heap.size, 0, none⟩ : Addr).add j = ⟨w.heap.size, j, none⟩ := by unfold Addr.add; split <;> simp_all
    rw [hadd, cell_of_row _ w.heap.size j _ T (0, 0) (heap_alloc_new _ _)]
    simpa using hj
  · have := Nat.mul_le_mul hl hby; omega
  · intro g c w' hown hgrow hat _
    refine h (some ⟨g, 0, none⟩) c w' ⟨?_, ?_, g, rfl, ?_⟩
    · unfold Sl; rw [List.length_append, show nums k (A ++ Y) = nums k A ++ nums k Y by simp [nums]]; exact hown
    · refine ((Mod.refl _ w).alloc _).grown hgrow ?_
      intro j hj _
      cases p with
      | none => simp [Value.ownBlock] at hj
      | some a => simp [Value.ownBlock] at hj; exact ⟨a, rfl, hj.symm⟩
    · rcases hat with hat | hat
      · left
        rcases hS.shape with ⟨rfl, _⟩ | ⟨g', rfl, _⟩
        · simp [Value.ownBlock] at hat
        · simp [Value.ownBlock] at hat; subst hat; rfl
      · right; rw [hat]; simp

theorem info_u8 : (Tryd.prog.info? 5).map (fun i => (i.zero, i.size, i.bytes)) = some (some (.int .u8 0), 1, 1) := by kernel_rfl

/-- 'string(b)'. -/
theorem conv_str (p : Option Addr) (cap n : Nat) (A : List Nat) (hn : A.length = n) (w : World) (hS : Sl .u8 5 w p cap A) :
    (convert 71 9 (.slice p n cap)).run Tryd.prog w = .ok (.string ⟨(chars A).toArray⟩) w := by
  subst hn
  rcases hS.shape with ⟨rfl, rfl, rfl⟩ | ⟨g, rfl, _⟩
  · kernel_rfl
  · rw [run_convert_bytes_arg w 71 5 Tryd.underlying71 Tryd.underlying5 g 0 A.length cap (A.map fun (x : Nat) => (x : Int)) (by simp) (fun i hi => by
      rw [Nat.zero_add, hS.cell i hi]
      simp [List.getD, hi]) 9 Tryd.underlying9]
    simp [strOfNums, chars, Function.comp_def]

open Go.Sort in
theorem reverse_any (g cap : Nat) (A : List Nat) (w : World) (hS : Sl .u8 5 w (some ⟨g, 0, none⟩) cap A) (hl : A.length ≤ 1000000000) :
    Calls Tryd.prog 55 #[.slice (some ⟨g, 0, none⟩) A.length cap] w fun e w' => e = .returned (.tuple #[]) ∧ Sl .u8 5 w' (some ⟨g, 0, none⟩) cap A.reverse ∧ Mod (· = g) w w' := by
  have hH : Holds (fun x : Nat => Value.int .u8 (x : Int)) w g 0 A.toArray := by
    intro j hj
    have hj' : j < A.length := by simpa using hj
    refine ⟨?_, by rw [Nat.zero_add]; exact hS.froz j⟩
    rw [Nat.zero_add, hS.cell j hj', getElem!_pos A.toArray j hj]
    simp
  refine (Tryd.slices_Reverse (fun x : Nat => Value.int .u8 (x : Int)) (fun _ => rfl) g 0 cap A w hH (by omega)).mono ?_
  rintro e w' ⟨rfl, n, rfl⟩
  have hm : Mod (· = g) w (putRow (fun x : Nat => Value.int .u8 (x : Int)) (Go.Sort.ahead w n) g 0 A.reverse.toArray) := by
    refine ⟨rfl, rfl, rfl, by simp [Go.Sort.ahead], fun k _ hk => ?_⟩
    show (w.heap.modify g _)[k]? = w.heap[k]?
    rw [Array.getElem?_modify, if_neg (fun e => hk e.symm)]
  refine ⟨rfl, ?_, hm⟩
  rcases hS.shape with ⟨h, _⟩ | ⟨g', h, hlt, h1, h2, cur, hh, h3, h4⟩
  · cases h
  · simp only [Option.some.injEq, Addr.mk.injEq] at h
    obtain ⟨rfl, _⟩ := h
    have hrow : (putRow (fun x : Nat => Value.int .u8 (x : Int)) (Go.Sort.ahead w n) g 0 A.reverse.toArray).heap[g]? = some (.cells (putCells (fun x : Nat => Value.int .u8 (x : Int)) 0 A.reverse.toArray cur) 5 (0, 0)) := by
      show (w.heap.modify g _)[g]? = _
      rw [Array.getElem?_modify, if_pos rfl, hh]; rfl
    refine Sl.of_row hrow (by simpa using h1) h2 (by simpa [putCells] using h3) ?_
    apply List.ext_getElem
    · simp [putCells, nums_len]; omega
    · intro i hi1 hi2
      have hiA : i < A.length := by simpa [nums_len] using hi2
      have hr : i < A.reverse.toArray.size := by simpa using hiA
      simp only [putCells, List.getElem_take, Array.getElem_toList, Array.getElem_mapIdx, nums, List.getElem_map]
      rw [if_pos ⟨Nat.zero_le _, by simpa using hiA⟩, Nat.sub_zero, getElem!_pos A.reverse.toArray i hr]
      simp

theorem trimleft_any (l : List UInt8) (c : UInt8) (hc : c.toNat < 128) (w : World) :
    Calls Tryd.prog 56 #[.string ⟨l.toArray⟩, .string ⟨#[c]⟩] w fun e w' => e = .returned (.string ⟨(l.dropWhile (· == c)).toArray⟩) ∧ w = w' :=
  Lib.flip (Tryd.strings_TrimLeft_one ⟨l.toArray⟩ c hc w)
end Go.Proofs.YtepibfpdkjkdjaaDoor
