/- Texts 2: what the laws lean on. -/
import Derived.Test.YtdahkemeoefndaaDoorW1
import Derived.Test.YtdahkemeoefndaaDoorShelf
import Derived.Test.YtdahkemeoefndaaDoorRev
import Derived.Laws.BytesArg
import Derived.Deep.LoopGhost
import Derived.Deep.RegionHeld3
import Derived.Lib.ItoaNum
import Derived.Orders
import Derived.Tactics
import Derived.Deep.AppendLies
namespace Go.Proofs.YtdahkemeoefndaaDoor.NN

/-- Letters of numbers. -/
def chars (l : List Nat) : List UInt8 := l.map UInt8.ofNat
/-- A number's decimal digits, the highest first. -/
def dec (x : Nat) : List UInt8 := if x = 0 then [48] else chars ((dg 10 x).reverse.map (48 + ·))

/-- Digits without the noughts ahead are those of their value. -/
theorem strip_dg (b : Nat) (hb : 2 ≤ b) (n : Nat) : ∀ D : List Nat, D.length = n → (∀ z ∈ D, z < b) → D.reverse.dropWhile (· == 0) = (dg b (vl b D)).reverse := by
  induction n with
  | zero => intro D h _; have := List.eq_nil_of_length_eq_zero h; subst this; simp [vl, dg_zero]
  | succ n ih =>
    intro D h hD
    have hne : D ≠ [] := by intro e; subst e; simp at h
    obtain ⟨l, z, rfl⟩ : ∃ l z, D = l ++ [z] := ⟨D.dropLast, D.getLast hne, (List.dropLast_concat_getLast hne).symm⟩
    rw [List.reverse_append, List.reverse_singleton, List.singleton_append, List.dropWhile_cons]
    by_cases hz : z = 0
    · subst hz
      rw [if_pos (by rfl), vl_snoc_zero]
      exact ih l (by simpa using h) (fun y hy => hD y (by simp [hy]))
    · rw [if_neg (by simpa using hz), dg_vl b hb _ hD (by intro y hy; rw [List.getLast?_append] at hy; simp at hy; omega)]
      simp
theorem trim_chars (D : List Nat) (hD : ∀ z ∈ D, z < 10) : ((chars (D.map (48 + ·))).reverse.dropWhile (· == 48)) = chars ((dg 10 (vl 10 D)).reverse.map (48 + ·)) := by
  have h := strip_dg 10 (by decide) D.length D rfl hD
  have key : ∀ l : List Nat, (∀ z ∈ l, z < 10) → (chars (l.map (48 + ·))).dropWhile (· == 48) = chars ((l.dropWhile (· == 0)).map (48 + ·)) := by
    intro l hl
    induction l with
    | nil => rfl
    | cons z l ih =>
      have hz := hl z (by simp)
      have hl' := ih (fun y hy => hl y (by simp [hy]))
      simp only [chars, List.map_cons, List.dropWhile_cons] at hl' ⊢
      by_cases h0 : z = 0
      · subst h0; rw [if_pos (by rfl), if_pos (by rfl)]; exact hl'
      · have e1 : (UInt8.ofNat (48 + z) == 48) = false := by
          rw [beq_eq_false_iff_ne]; intro e
          have := congrArg UInt8.toNat e
          rw [UInt8.toNat_ofNat_of_lt' (show 48 + z < 256 by omega)] at this
          have e48 : UInt8.toNat 48 = 48 := rfl
          rw [e48] at this; omega
        have e2 : (z == 0) = false := by rw [beq_eq_false_iff_ne]; exact h0
        rw [e1, e2]; rfl
  have e : (chars (D.map (48 + ·))).reverse = chars (D.reverse.map (48 + ·)) := by simp [chars, List.map_reverse]
  rw [e, key D.reverse (fun z hz => hD z (List.mem_reverse.1 hz)), h]
theorem chars_app (a b : List Nat) : chars (a ++ b) = chars a ++ chars b := by simp [chars]

/-- Digits that are taken off one after the other. -/
theorem take_digit (D : List Nat) (r k y x : Nat) (h : vl 10 D + 10 ^ D.length * (r + 10 ^ (k + 1) * y) = x) :
    vl 10 (D ++ [r % 10]) + 10 ^ (D ++ [r % 10]).length * (r / 10 + 10 ^ k * y) = x := by
  rw [vl_app, List.length_append, List.length_singleton, Nat.pow_succ 10 D.length]
  rw [Nat.pow_succ] at h
  have e1 : r + 10 ^ k * 10 * y = r % 10 + 10 * (r / 10 + 10 ^ k * y) := by
    have := Nat.mod_add_div r 10
    rw [Nat.mul_add, show 10 * (10 ^ k * y) = 10 ^ k * 10 * y by rw [Nat.mul_comm (10 ^ k) 10, Nat.mul_assoc]]
    omega
  rw [e1, Nat.mul_add] at h
  simp only [vl, Nat.mul_zero, Nat.add_zero]
  rw [Nat.mul_assoc]
  omega
end Go.Proofs.YtdahkemeoefndaaDoor.NN

namespace Go.Proofs.YtdahkemeoefndaaDoor.NN
open Go.RowKit

/-- Behind an append: the slice holds more, in its own block or in a new one. -/
def Pushed (k : IntKind) (T : TypeId) (w : World) (p : Option Addr) (B : List Nat) (q : Option Addr) (cap : Nat) (w' : World) : Prop :=
  Sl k T w' q cap B ∧ Mod (fun i => ∃ a, p = some a ∧ i = a.block) w w' ∧ ∃ g, q = some ⟨g, 0, none⟩ ∧ (p = some ⟨g, 0, none⟩ ∨ w.heap.size ≤ g)

/-- Numbers are appended that a new block holds. -/
theorem wpList_push {P : Program} {ops : Array Oper} {rest : List Oper} {o : Oper} {a : Act} {Q : Exit → Act → World → Prop} {w : World} (hgd : o.guard = none) (s x : Operand) (k : IntKind) (Ts T : TypeId) (z : Value) (bytes : Nat)
    (ho : o.op = .call { callee := .builtin .append, args := #[s, x], argTypes := #[Ts, Ts] }) (hT : P.underlying Ts = some (.slice T)) (hi : (P.info? T).map (fun i => (i.zero, i.size, i.bytes)) = some (some z, 1, bytes)) (hzs : z.cells.size = 1) (hby : bytes ≤ 8)
    (p : Option Addr) (cap n m : Nat) (A Y : List Nat) (hn : A.length = n) (hY : Y.length = m) (h0 : 0 < m) (hs : a.eval s = .slice p n cap) (hS : Sl k T w p cap A) (hx : a.eval x = .slice (some ⟨w.heap.size, 0, none⟩) m m) (hl : n + m ≤ 1000000000000)
    (h : ∀ q c w', Pushed k T w p (A ++ Y) q c w' → wpList P ops Q rest (a.put o.dst (.slice q (n + m) c)) w') :
    wpList P ops Q (o :: rest) a (w.alloc (.cells (nums k Y).toArray T)) := by
  obtain ⟨i, hi', hz, h1, h2⟩ := info_parts hi
  subst hn
  subst hY
  have hSo : (w.alloc (.cells (nums k Y).toArray T)).ownsRow 0 T 1 (.slice p A.length cap) A.length (nums k A) := hS.alloc _
  refine wpList_append_lies _ hgd s x Ts ho 0 T i z 1 bytes hT hi' hz h1 h2 hzs (by decide) _ A.length (nums k A) hs hSo ⟨w.heap.size, 0, none⟩ Y.length Y.length (nums k Y) hx (by simp [nums_len]) ?_ (nums_one _ _) h0 (by unfold maxLen; omega) ?_ (Nat.zero_le _) _ rfl ?_
  · intro j u hj
    have hadd : (⟨w.heap.size, 0, none⟩ : Addr).add j = ⟨w.heap.size, j, none⟩ := by unfold Addr.add; split <;> simp_all
    rw [hadd, cell_of_row _ w.heap.size j _ T (0, 0) (heap_alloc_new _ _)]
    simpa using hj
  · have := Nat.mul_le_mul hl hby; omega
  · intro g c w' hown hgrow hat _
    refine h (some ⟨g, 0, none⟩) c w' ⟨?_, ?_, g, rfl, ?_⟩
    · unfold Sl; rw [List.length_append, show nums k (A ++ Y) = nums k A ++ nums k Y by simp [nums]]; exact hown
    · refine ((Mod.refl _ w).alloc _).grown hgrow ?_
      intro j hj _
      cases p with
      | none => simp [Value.ownBlock] at hj
      | some a => simp [Value.ownBlock] at hj; exact ⟨a, rfl, hj.symm⟩
    · rcases hat with hat | hat
      · left
        rcases hS.shape with ⟨rfl, _⟩ | ⟨g', rfl, _⟩
        · simp [Value.ownBlock] at hat
        · simp [Value.ownBlock] at hat; subst hat; rfl
      · right; rw [hat]; simp

theorem info_u8 : (Tryd.prog.info? 5).map (fun i => (i.zero, i.size, i.bytes)) = some (some (.int .u8 0), 1, 1) := by kernel_rfl

/-- 'string(b)'. -/
theorem conv_str (p : Option Addr) (cap n : Nat) (A : List Nat) (hn : A.length = n) (w : World) (hS : Sl .u8 5 w p cap A) :
    (convert 42 9 (.slice p n cap)).run Tryd.prog w = .ok (.string ⟨(chars A).toArray⟩) w := by
  subst hn
  rcases hS.shape with ⟨rfl, rfl, rfl⟩ | ⟨g, rfl, _⟩
  · kernel_rfl
  · rw [run_convert_bytes_arg w 42 5 Tryd.underlying42 Tryd.underlying5 g 0 A.length cap (A.map fun (x : Nat) => (x : Int)) (by simp) (fun i hi => by
      rw [Nat.zero_add, hS.cell i hi]
      simp [List.getD, hi]) 9 Tryd.underlying9]
    simp [strOfNums, chars, Function.comp_def]

open Go.Sort in
theorem reverse_any (g cap : Nat) (A : List Nat) (w : World) (hS : Sl .u8 5 w (some ⟨g, 0, none⟩) cap A) (hl : A.length ≤ 1000000000) :
    Calls Tryd.prog 32 #[.slice (some ⟨g, 0, none⟩) A.length cap] w fun e w' => e = .returned (.tuple #[]) ∧ Sl .u8 5 w' (some ⟨g, 0, none⟩) cap A.reverse ∧ Mod (· = g) w w' := by
  have hH : Holds (fun x : Nat => Value.int .u8 (x : Int)) w g 0 A.toArray := by
    intro j hj
    have hj' : j < A.length := by simpa using hj
    refine ⟨?_, by rw [Nat.zero_add]; exact hS.froz j⟩
    rw [Nat.zero_add, hS.cell j hj', getElem!_pos A.toArray j hj]
    simp
  refine (Tryd.slices_Reverse (fun x : Nat => Value.int .u8 (x : Int)) (fun _ => rfl) g 0 cap A w hH (by omega)).mono ?_
  rintro e w' ⟨rfl, n, rfl⟩
  have hm : Mod (· = g) w (putRow (fun x : Nat => Value.int .u8 (x : Int)) (Go.Sort.ahead w n) g 0 A.reverse.toArray) := by
    refine ⟨rfl, rfl, rfl, by simp [Go.Sort.ahead], fun k _ hk => ?_⟩
    show (w.heap.modify g _)[k]? = w.heap[k]?
    rw [Array.getElem?_modify, if_neg (fun e => hk e.symm)]
  refine ⟨rfl, ?_, hm⟩
  rcases hS.shape with ⟨h, _⟩ | ⟨g', h, hlt, h1, h2, cur, hh, h3, h4⟩
  · cases h
  · simp only [Option.some.injEq, Addr.mk.injEq] at h
    obtain ⟨rfl, _⟩ := h
    have hrow : (putRow (fun x : Nat => Value.int .u8 (x : Int)) (Go.Sort.ahead w n) g 0 A.reverse.toArray).heap[g]? = some (.cells (putCells (fun x : Nat => Value.int .u8 (x : Int)) 0 A.reverse.toArray cur) 5 (0, 0)) := by
      show (w.heap.modify g _)[g]? = _
      rw [Array.getElem?_modify, if_pos rfl, hh]; rfl
    refine Sl.of_row hrow (by simpa using h1) h2 (by simpa [putCells] using h3) ?_
    apply List.ext_getElem
    · simp [putCells, nums_len]; omega
    · intro i hi1 hi2
      have hiA : i < A.length := by simpa [nums_len] using hi2
      have hr : i < A.reverse.toArray.size := by simpa using hiA
      simp only [putCells, List.getElem_take, Array.getElem_toList, Array.getElem_mapIdx, nums, List.getElem_map]
      rw [if_pos ⟨Nat.zero_le _, by simpa using hiA⟩, Nat.sub_zero, getElem!_pos A.reverse.toArray i hr]
      simp

theorem trimleft_any (l : List UInt8) (c : UInt8) (hc : c.toNat < 128) (w : World) :
    Calls Tryd.prog 33 #[.string ⟨l.toArray⟩, .string ⟨#[c]⟩] w fun e w' => e = .returned (.string ⟨(l.dropWhile (· == c)).toArray⟩) ∧ w = w' :=
  Lib.flip (Tryd.strings_TrimLeft_one ⟨l.toArray⟩ c hc w)
end Go.Proofs.YtdahkemeoefndaaDoor.NN

namespace Go.Proofs.YtdahkemeoefndaaDoor.NN
open Go.RowKit

theorem digits_le {D n x : Nat} (h : 10 ^ D ≤ x) (hx : x < 4294967296 ^ n) : D ≤ 10 * n := by
  apply Nat.le_of_not_lt; intro hlt
  have h1 : (10 : Nat) ^ (10 * n) ≤ 10 ^ D := Nat.pow_le_pow_right (by decide) (by omega)
  have h2 : (4294967296 : Nat) ^ n ≤ (10 ^ 10) ^ n := Nat.pow_le_pow_left (by decide) n
  rw [← Nat.pow_mul] at h2
  omega
/-- What Text has laid by. -/
structure TxtR (w : World) (x gl : Nat) (D : List Nat) (pd : Option Addr) (cd : Nat) (wr : World) : Prop where
  s : Sl .u8 5 wr pd cd (D.map (48 + ·))
  lt : ∀ z ∈ D, z < 10
  m : Below w.heap.size w wr
  fd : ∀ a, pd = some a → gl < a.block
  lo : w.heap.size ≤ gl
  gs : gl < wr.heap.size
theorem TxtR.mod {w : World} {x gl : Nat} {D : List Nat} {pd : Option Addr} {cd : Nat} {wr w' : World} {S : Nat → Prop} (h : TxtR w x gl D pd cd wr) (hm : Mod S wr w') (hS : ∀ i, i < w.heap.size → ¬ S i) (hp : ∀ a, pd = some a → ¬ S a.block) : TxtR w x gl D pd cd w' :=
  ⟨h.s.kept hm hp, h.lt, h.m.trans (hm.to_below h.m.size (fun i hi => hS i hi)), h.fd, h.lo, Nat.lt_of_lt_of_le h.gs hm.size⟩
theorem TxtR.below {w : World} {x gl : Nat} {D : List Nat} {pd : Option Addr} {cd : Nat} {wr w' : World} (h : TxtR w x gl D pd cd wr) (hb : Below wr.heap.size wr w') : TxtR w x gl D pd cd w' :=
  h.mod (Mod.of_below hb) (fun i hi hle => by have := h.m.size; omega) (fun a e hle => by subst e; have := h.s.lt; omega)
theorem TxtR.push {w : World} {x gl d t : Nat} {D : List Nat} {pd pq : Option Addr} {cd cq : Nat} {wr w' : World} (h : TxtR w x gl D pd cd wr) (hP : Pushed .u8 5 wr pd (D.map (48 + ·) ++ [t]) pq cq w') (ht : t = 48 + d) (hd : d < 10) : TxtR w x gl (D ++ [d]) pq cq w' := by
  obtain ⟨hS, hm, g, rfl, hor⟩ := hP
  have hfd := h.fd
  have hlo := h.lo
  refine ⟨by rw [List.map_append, List.map_singleton, ← ht]; exact hS, ?_, h.m.trans (hm.to_below h.m.size (by rintro i hi ⟨a, e, he⟩; have := hfd a e; omega)), ?_, hlo, Nat.lt_of_lt_of_le h.gs hm.size⟩
  · intro z hz
    rcases List.mem_append.1 hz with hz | hz
    · exact h.lt z hz
    · rw [List.mem_singleton.1 hz]; exact hd
  · rintro a e
    cases e
    rcases hor with hor | hor
    · exact hfd _ hor
    · exact Nat.lt_of_lt_of_le h.gs hor
theorem dec_of {x : Nat} {D : List Nat} (hx : x ≠ 0) (hD : ∀ z ∈ D, z < 10) (hv : vl 10 D = x) : (chars (D.map (48 + ·))).reverse.dropWhile (· == 48) = dec x := by
  rw [trim_chars D hD, hv, dec, if_neg hx]
theorem chars_rev (l : List Nat) : chars l.reverse = (chars l).reverse := by simp [chars]

set_option maxHeartbeats 4000000 in
theorem text_any (p : Option Addr) (cp x : Nat) (w : World) (hx : NatIn w p cp x) (lx : (lb x).length ≤ 100000) :
    Calls Tryd.prog 11 #[.agg #[.slice p (lb x).length cp]] w fun r w' => r = .returned (.string ⟨(dec x).toArray⟩) ∧ Below w.heap.size w w' := by
  by_cases hx0 : x = 0
  · subst hx0
    have e0 : (0 == 0) = true := rfl
    go_enter Tryd.func11, Tryd.ntmps11
    go_wp2_with fail
    refine (zero_any p cp 0 _).mono ?_
    rintro r w1 ⟨rfl, hb⟩
    have hB : Below w.heap.size w w1 := ((Below.refl _ _).alloc (Nat.le_refl _) _).trans (hb.mono (by simp))
    clear hb
    go_wp2_with fail
    go_ret
    exact ⟨rfl, hB⟩
  · have e0 : (x == 0) = false := by rw [beq_eq_false_iff_ne]; exact hx0
    go_enter Tryd.func11, Tryd.ntmps11
    go_wp2_with fail
    refine (zero_any p cp x _).mono ?_
    rintro r w1 ⟨rfl, hb⟩
    have k1 : Boxed w1 w.heap.size 26 (.slice p (lb x).length cp) := Boxed.below' (Boxed.new w _ _) hb (by simp)
    have hB : Below w.heap.size w w1 := ((Below.refl _ _).alloc (Nat.le_refl _) _).trans (hb.mono (by simp))
    have hx1 := hx.old hB
    have c1 := k1.cell
    clear hb k1
    go_wp2_with fail
    refine (clone_any p cp (lb x) w1 hx1 (by omega)).mono ?_
    rintro r w2 ⟨q, c, rfl, hS2, hb2, hf2⟩
    have hB2 := hB.trans (hb2.mono hB.size)
    have hf2' : ∀ a, q = some a → a.block < w2.heap.size := by rintro a rfl; exact hS2.lt
    have hgl : w.heap.size ≤ w2.heap.size := hB2.size
    have hB3 : Below w.heap.size w (w2.alloc (.cells #[.slice q (lb x).length c] 26)) := hB2.alloc hgl _
    have k4 := Boxed.new w2 26 (.slice q (lb x).length c)
    have hS3 : NatIn (w2.alloc (.cells #[.slice q (lb x).length c] 26)) q c x := hS2.alloc _
    have hsz : w2.heap.size < (w2.alloc (.cells #[.slice q (lb x).length c] 26)).heap.size := by simp
    have hf3 : ∀ a, q = some a → w.heap.size ≤ a.block := fun a e => Nat.le_trans hB.size (hf2 a e)
    clear hx hx1 c1 hB hS2 hb2 hf2 hB2
    go_wp2_with fail
    generalize (w2.alloc (.cells #[.slice q (lb x).length c] 26)) = W at hB3 k4 hS3 hsz ⊢
    generalize w2.heap.size = gl at hf2' hgl k4 hsz ⊢
    have hbd : Hid (∀ (D : List Nat) (y : Nat), vl 10 D + 10 ^ D.length * y = x → y ≠ 0 → D.length ≤ 1000000) := Lib.hid (by
      intro D y h hy
      have h1 : 10 ^ D.length * 1 ≤ 10 ^ D.length * y := Nat.mul_le_mul_left _ (by omega)
      have := digits_le (show 10 ^ D.length ≤ x by omega) (lt_pow_dg 4294967296 (by decide) x)
      change D.length ≤ 10 * (lb x).length at this
      omega)
    have hR0 : TxtR w x gl [] none 0 W := ⟨Sl.empty _ _ _, by simp, hB3, (fun a h => by cases h), hgl, hsz⟩
    go_loopg [3] (x + 1) (fun k s3 wr => ∃ (D : List Nat) (pd : Option Addr) (cd y : Nat) (q : Option Addr) (c nd : Nat), s3 = .slice pd nd cd ∧ Hid (nd = D.length) ∧ nd ≤ 1000009 ∧ y < k ∧ TxtR w x gl D pd cd wr ∧ Hid (vl 10 D + 10 ^ D.length * y = x) ∧ (lb y).length ≤ 100000 ∧
      Boxed wr gl 26 (.slice q (lb y).length c) ∧ NatIn wr q c y ∧ (∀ a, q = some a → w.heap.size ≤ a.block ∧ a.block ≠ gl ∧ ∀ b, pd = some b → b.block ≠ a.block))
    case atStart => exact ⟨[], none, 0, x, q, c, 0, rfl, rfl, by omega, by omega, hR0, Lib.hid (by simp [vl]), lx, k4, hS3, fun a e => ⟨hf3 a e, by have := hf2' a e; omega, fun b h => by cases h⟩⟩
    case round =>
      clear hR0 hB3 k4 hS3 hsz hf3 hf2'
      obtain ⟨D, pd, cd, y, q, c, nd, rfl, hnd, hnb, hyk, hR, hval, ly, kb, hN, hq⟩ := hrel
      have c4 := kb.cell
      by_cases hy0 : y = 0
      · subst hy0
        have ey : (0 == 0) = true := rfl
        go_wp2_with fail
        refine (zero_any q c 0 wr).mono ?_
        rintro r w1 ⟨rfl, hb⟩
        have hR1 := hR.below hb
        clear c4 kb hN hq hb hR
        have hv := hval.out
        rw [Nat.mul_zero, Nat.add_zero] at hv
        have hDne : D.map (48 + ·) ≠ [] := by intro e; have : D = [] := by simpa using e
                                              subst this; simp [vl] at hv; omega
        obtain ⟨g, rfl⟩ := hR1.s.isPtr hDne
        have hg := hR1.fd _ rfl
        have hgw : w.heap.size ≤ g := by have := hR1.lo; have : gl < g := hg; omega
        have hrv := reverse_any g cd (D.map (48 + ·)) w1 hR1.s (by rw [List.length_map, ← hnd.out]; omega)
        rw [List.length_map, ← hnd.out] at hrv
        go_wp2_with fail
        refine hrv.mono ?_
        clear hrv
        rintro r w2 ⟨rfl, hS2, hm2⟩
        obtain ⟨R, hRe⟩ : ∃ R, R = (D.map (48 + ·)).reverse := ⟨_, rfl⟩
        rw [← hRe] at hS2
        have hcv := conv_str (some ⟨g, 0, none⟩) cd nd R (by rw [hRe, List.length_reverse, List.length_map, hnd.out]) w2 hS2
        have hB2 : Below w.heap.size w w2 := hR1.m.trans (hm2.to_below hR1.m.size (by intro k hk h; omega))
        have hfin : Hid ((chars R).dropWhile (· == 48) = dec x) := Lib.hid (by rw [hRe, chars_rev, dec_of hx0 hR1.lt hv])
        have HRe := Lib.hid hRe
        have Hv := Lib.hid hv
        clear hRe hv hS2 hm2 hR1 hg hgw
        go_wp2_with fail
        refine (trimleft_any (chars R) 48 (by decide) w2).mono ?_
        rintro r w3 ⟨rfl, rfl⟩
        rw [hfin.out]
        clear hcv
        go_wp2_with fail
        go_ret
        exact ⟨rfl, hB2⟩
      · have ey : (y == 0) = false := by rw [beq_eq_false_iff_ne]; exact hy0
        go_wp2_with fail
        refine (zero_any q c y wr).mono ?_
        rintro r w1 ⟨rfl, hb⟩
        have hR1 := hR.below hb
        have kb1 := Boxed.below' kb hb hR.gs
        have hN1 := hN.old hb
        have c1 := kb1.cell
        clear c4 kb hN hb hR
        go_wp2_with fail
        have hdv := divide_any q c y 1000000000 (lb y) w1 hN1 rfl (by omega) (by decide) (by decide)
        refine hdv.mono ?_
        clear hdv
        rintro r w2 ⟨rfl, S, hSl, hSb, hSv, hS2, hm2⟩
        have hR2 := hR1.mod hm2 (fun i hi h => by obtain ⟨a, e, h⟩ := h; have := (hq a e).1; omega) (fun b e h => by obtain ⟨a, e', h⟩ := h; exact (hq a e').2.2 b e h)
        have kb2 := Boxed.mod' kb1 hm2 (by rintro ⟨a, e, h⟩; exact (hq a e).2.1 h.symm)
        have c2 := kb2.cell
        obtain ⟨y', hy'⟩ : ∃ y', y' = y / 1000000000 := ⟨_, rfl⟩
        obtain ⟨r0, hr0⟩ : ∃ r0, r0 = y % 1000000000 := ⟨_, rfl⟩
        rw [← hy'] at hSv
        rw [← hr0]
        have HSl := Lib.hid hSl
        have HSv := Lib.hid hSv
        have hval1 : Hid (vl 10 D + 10 ^ D.length * (r0 + 10 ^ 9 * y') = x) := Lib.hid (by rw [← hval.out, hr0, hy']; congr 2; exact Nat.mod_add_div y 1000000000)
        have hr9 : r0 < 10 ^ 9 := by rw [hr0]; exact Nat.mod_lt _ (by decide)
        have hyl : y' < y := by rw [hy']; exact Nat.div_lt_self (by omega) (by decide)
        have ly' : (lb y').length ≤ 100000 := Nat.le_trans (dg_len_mono 4294967296 (by decide) (Nat.le_of_lt hyl)) ly
        clear c1 kb1 hN1 hm2 hR1 hSl hSv hy' hr0
        go_wp2_with fail
        have htr := trim_any q c S w2 hS2 hSb (by rw [HSl.out]; omega)
        rw [HSl.out, HSv.out] at htr
        refine htr.mono ?_
        clear htr
        rintro r w3 ⟨q3, c3, rfl, hN3, hb3, hq3⟩
        have hR3 := hR2.below hb3
        have kb3 := Boxed.below' kb2 hb3 hR2.gs
        have hq3' : ∀ a, q3 = some a → w.heap.size ≤ a.block ∧ a.block ≠ gl ∧ ∀ b, pd = some b → b.block ≠ a.block := by
          rintro a rfl
          rcases hq3 with h | h
          · cases h
          · exact hq a h.symm
        have c4 := kb3.cell
        have f4 := kb3.frozen
        have hR4 := hR3.mod ((Mod.refl (· = gl) w3).setCell (p := ⟨gl, 0, none⟩) (fun _ => rfl) (.slice q3 (lb y').length c3)) (fun i hi h => by have := hR3.lo; omega) (fun b e h => by have := hR3.fd b e; omega)
        have kb4 : Boxed (w3.setCell ⟨gl, 0, none⟩ (.slice q3 (lb y').length c3)) gl 26 (.slice q3 (lb y').length c3) := kb3.set _
        have hN4 : NatIn (w3.setCell ⟨gl, 0, none⟩ (.slice q3 (lb y').length c3)) q3 c3 y' := hN3.other ⟨gl, 0, none⟩ _ (fun a e => (hq3' a e).2.1)
        clear c2 kb2 hR2 hS2 hb3 hq3 hq hN3 hR3 hSb kb3
        have hnb6 : nd ≤ 1000000 := by rw [hnd.out]; exact hbd.out D y hval.out hy0
        go_wp2_with fail
        generalize w3.setCell ⟨gl, 0, none⟩ (.slice q3 (lb y').length c3) = W4 at hR4 kb4 hN4 ⊢
        clear c4 f4
        obtain ⟨wo, rfl⟩ : ∃ wo : World, wo = wr := ⟨_, rfl⟩
        go_loopw [3, 5, 21] (fun s3 s5 s21 wr => ∃ (j k r : Nat) (D : List Nat) (pd : Option Addr) (cd nd : Nat), j + k = 9 ∧ nd + k ≤ 1000009 ∧ s21 = .int .i64 (j : Int) ∧ s5 = .int .u32 (r : Int) ∧ Hid (r < 10 ^ k) ∧ r < 1000000000 ∧ s3 = .slice pd nd cd ∧ Hid (nd = D.length) ∧ TxtR w x gl D pd cd wr ∧ Hid (vl 10 D + 10 ^ D.length * (r + 10 ^ k * y') = x) ∧
          Boxed wr gl 26 (.slice q3 (lb y').length c3) ∧ NatIn wr q3 c3 y' ∧ (∀ a, q3 = some a → w.heap.size ≤ a.block ∧ a.block ≠ gl ∧ ∀ b, pd = some b → b.block ≠ a.block)) (fun _ _ j _ => 9 - (intOf j).toNat)
        case atStart => exact ⟨0, 9, r0, D, pd, cd, nd, rfl, by omega, rfl, rfl, hr9, hr9, rfl, hnd, hR4, hval1, kb4, hN4, hq3'⟩
        case round =>
          clear hR4 kb4 hN4 hq3' hval1 hval hnd hr9
          obtain ⟨j, k, r, D, pd, cd, nd, hjk, hnk, rfl, rfl, hr, hr9, rfl, hnd, hR, hval, kb, hN, hq⟩ := hrel
          by_cases hj9 : j < 9
          · obtain ⟨k', rfl⟩ : ∃ k', k = k' + 1 := ⟨k - 1, by omega⟩
            have hv2 := take_digit D r k' y' x hval.out
            have hr2 : r / 10 < 10 ^ k' := by have := hr.out; rw [Nat.pow_succ] at this; omega
            obtain ⟨d, hd⟩ : ∃ d, d = r % 10 := ⟨_, rfl⟩
            obtain ⟨t, ht⟩ : ∃ t, t = 48 + d := ⟨_, rfl⟩
            obtain ⟨r', hr'⟩ : ∃ r', r' = r / 10 := ⟨_, rfl⟩
            rw [← hd, ← hr'] at hv2
            rw [← hr'] at hr2
            have e1 : (r : Int) % 10 = d := by omega
            have e2 : (d : Int) % 256 = d := by omega
            have e3 : (48 + (d : Int)) = t := by omega
            have e4 : (48 + (d : Int)) % 256 = t := by omega
            have e5 : (r : Int) / 10 = r' := by omega
            have e6 : (t : Int) % 256 = t := by omega
            have hd10 : d < 10 := by omega
            have Hv2 := Lib.hid hv2
            have Ht := Lib.hid ht
            have Hr2 := Lib.hid hr2
            have hr9' : r' < 1000000000 := by omega
            have hDm : (D.map (48 + ·)).length = nd := by rw [List.length_map, hnd.out]
            have HDm := Lib.hid hDm
            clear hv2 hd ht hr' hr2 hval hr hDm
            go_wp2_with (at_builtin; refine wpList_push rfl _ _ .u8 42 5 (.int .u8 0) 1 rfl Tryd.underlying42 info_u8 rfl (by decide) pd cd nd 1 (D.map (48 + ·)) [t] HDm.out rfl (by decide) rfl hR.s rfl (by omega) ?_; intro pq cq W5 hP)
            have hR5 := hR.push hP Ht.out hd10
            obtain ⟨hS5, hm5, gq, rfl, hor⟩ := hP
            have hfd := hR.fd
            have kb5 := Boxed.mod' kb hm5 (by rintro ⟨a, e, he⟩; have := hfd a e; omega)
            have hN5 : NatIn W5 q3 c3 y' := hN.kept hm5 (by rintro a e ⟨b, e', he⟩; exact (hq a e).2.2 b e' he.symm)
            have hq5 : ∀ a, q3 = some a → w.heap.size ≤ a.block ∧ a.block ≠ gl ∧ ∀ b, (some ⟨gq, 0, none⟩ : Option Addr) = some b → b.block ≠ a.block := by
              intro a e
              refine ⟨(hq a e).1, (hq a e).2.1, ?_⟩
              intro b hb
              cases hb
              rcases hor with hor | hor
              · exact (hq a e).2.2 _ hor
              · subst e; have := hN.lt; show gq ≠ a.block; omega
            clear hS5 hm5 hor hfd hR kb hN hq
            go_wp2_with fail
            go_roundw
            case rel => exact ⟨j + 1, k', r', D ++ [d], some ⟨gq, 0, none⟩, cq, nd + 1, by omega, by omega, by go_num, rfl, Hr2.out, hr9', rfl, Lib.hid (by rw [List.length_append, hnd.out]; rfl), hR5, Hv2.out, kb5, hN5, hq5⟩
            case measure => simp [intOf]; omega
          · obtain rfl : j = 9 := by omega
            obtain rfl : k = 0 := by omega
            have hv := hval.out
            have hr0 : r = 0 := by have := hr.out; rw [Nat.pow_zero] at this; omega
            rw [hr0, Nat.pow_zero, Nat.one_mul, Nat.zero_add] at hv
            have Hv := Lib.hid hv
            clear hv hr0 hval
            go_wp2_with fail
            go_roundg (y' + 1)
            case measure => omega
            case rel => exact ⟨D, pd, cd, y', q3, c3, nd, rfl, hnd, by omega, by omega, hR, Hv, ly', kb, hN, hq⟩
end Go.Proofs.YtdahkemeoefndaaDoor.NN

namespace Go.Proofs.YtdahkemeoefndaaDoor.NN
open Go.RowKit

/-- How many bits a number has. -/
def bl (n : Nat) : Nat := (dg 2 n).length
theorem bl_zero : bl 0 = 0 := by unfold bl; rw [dg_zero]; rfl
theorem bl_unique {x L : Nat} (h0 : 1 ≤ L) (h1 : 2 ^ (L - 1) ≤ x) (h2 : x < 2 ^ L) : bl x = L := by
  have a := dg_len_le 2 (by decide) x L h2
  have b : ¬ bl x ≤ L - 1 := by
    intro hle
    have h3 : x < 2 ^ bl x := lt_pow_dg 2 (by decide) x
    have h4 : 2 ^ bl x ≤ 2 ^ (L - 1) := Nat.pow_le_pow_right (by decide) hle
    omega
  unfold bl at *
  omega
theorem bl_bounds {x : Nat} (h : x ≠ 0) : 1 ≤ bl x ∧ 2 ^ (bl x - 1) ≤ x ∧ x < 2 ^ bl x := by
  have h1 : 0 < bl x := by
    apply Nat.pos_of_ne_zero; intro e
    exact h (dg_nil 2 (by decide) (List.eq_nil_of_length_eq_zero e))
  exact ⟨h1, pow_le_dg 2 (by decide) x h1, lt_pow_dg 2 (by decide) x⟩
theorem bl_lib (x : Nat) (hx : x < 4294967296) : Lib.bitLen x = bl x := by
  by_cases h : x = 0
  · subst h; rw [bl_zero]; rfl
  · have hb := Lib.bitLenAux_bounds 64 x (Nat.lt_trans hx (by decide)) h
    exact (bl_unique hb.1 hb.2.1 hb.2.2).symm
theorem bl_limbs {x n : Nat} (hn : (lb x).length = n + 1) : bl x = 32 * n + bl (x / 4294967296 ^ n) := by
  have h1 : 4294967296 ^ n ≤ x := by
    have := pow_le_dg 4294967296 (by decide) x (by show 0 < (lb x).length; omega)
    change 4294967296 ^ ((lb x).length - 1) ≤ x at this
    rwa [hn, Nat.add_sub_cancel] at this
  have hp : (4294967296 : Nat) ^ n = 2 ^ (32 * n) := by rw [Nat.pow_mul]
  have hpos : 0 < (4294967296 : Nat) ^ n := Nat.pow_pos (by decide)
  have hq : x / 4294967296 ^ n ≠ 0 := by
    have := Nat.div_pos h1 hpos; omega
  obtain ⟨b1, b2, b3⟩ := bl_bounds hq
  apply bl_unique (by omega)
  · rw [show 32 * n + bl (x / 4294967296 ^ n) - 1 = 32 * n + (bl (x / 4294967296 ^ n) - 1) by omega, Nat.pow_add, ← hp]
    have := Nat.mul_le_mul_left (4294967296 ^ n) b2
    have h3 := Nat.mul_div_le x (4294967296 ^ n)
    omega
  · rw [Nat.pow_add, ← hp]
    have h3 := Nat.mul_le_mul_left (4294967296 ^ n) (show x / 4294967296 ^ n + 1 ≤ 2 ^ bl (x / 4294967296 ^ n) from b3)
    have h4 := Nat.lt_mul_div_succ x hpos
    omega

theorem bl_le {y n : Nat} (h : (lb y).length ≤ n) : bl y ≤ 32 * n := by
  apply dg_len_le 2 (by decide)
  have h1 := lt_pow_dg 4294967296 (by decide) y
  change y < 4294967296 ^ (lb y).length at h1
  have h2 : (4294967296 : Nat) ^ (lb y).length ≤ 4294967296 ^ n := Nat.pow_le_pow_right (by decide) h
  rw [Nat.pow_mul]
  exact Nat.lt_of_lt_of_le h1 h2
theorem lb_mul (x y : Nat) : (lb (x * y)).length ≤ (lb x).length + (lb y).length := dg_len_mul _ (by decide) x y
theorem lb_add (x y : Nat) : (lb (x + y)).length ≤ max (lb x).length (lb y).length + 1 := dg_len_add _ (by decide) x y
theorem lb_le {x y : Nat} (h : x ≤ y) : (lb x).length ≤ (lb y).length := dg_len_mono _ (by decide) h
theorem lb_64 {x : Nat} (h : x < 18446744073709551616) : (lb x).length ≤ 2 := dg_len_le _ (by decide) x 2 h

set_option maxHeartbeats 1000000 in
theorem bits_any (p : Option Addr) (cp x : Nat) (w : World) (hx : NatIn w p cp x) (lx : (lb x).length ≤ 100000) :
    Calls Tryd.prog 34 #[.agg #[.slice p (lb x).length cp]] w fun r w' => r = .returned (.int .i64 (bl x : Int)) ∧ Below w.heap.size w w' := by
  by_cases hx0 : x = 0
  · subst hx0
    have e0 : (0 == 0) = true := rfl
    rw [bl_zero]
    go_enter Tryd.func34, Tryd.ntmps34
    go_wp2_with fail
    refine (zero_any p cp 0 _).mono ?_
    rintro r w1 ⟨rfl, hb⟩
    have hB : Below w.heap.size w w1 := ((Below.refl _ _).alloc (Nat.le_refl _) _).trans (hb.mono (by simp))
    clear hb
    go_wp2_with fail
    go_ret
    exact ⟨rfl, hB⟩
  · have e0 : (x == 0) = false := by rw [beq_eq_false_iff_ne]; exact hx0
    have hne : lb x ≠ [] := fun e => hx0 (lb_nil.1 e)
    obtain ⟨g, rfl⟩ := hx.isPtr hne
    obtain ⟨n, hn⟩ : ∃ n, (lb x).length = n + 1 := ⟨(lb x).length - 1, by have := List.length_pos_iff.2 hne; omega⟩
    obtain ⟨t, ht⟩ : ∃ t, t = x / 4294967296 ^ n := ⟨_, rfl⟩
    have ht32 : t < 4294967296 := by
      have := lt_pow_dg 4294967296 (by decide) x
      change x < 4294967296 ^ (lb x).length at this
      rw [hn, Nat.pow_succ] at this
      rw [ht, Nat.div_lt_iff_lt_mul (Nat.pow_pos (by decide)), Nat.mul_comm]; exact this
    have hbl : bl x = 32 * n + bl t := by rw [ht]; exact bl_limbs hn
    have hlt : n < (lb x).length := by omega
    have hcl : (lb x)[n]'hlt = t := by
      have := dg_at 4294967296 (by decide) x n hlt
      change (lb x)[n]'hlt = _ at this
      rw [this, ← ht, Nat.mod_eq_of_lt ht32]
    have Hbl := Lib.hid hbl
    have hz := zero_any (some ⟨g, 0, none⟩) cp x (w.alloc (.cells #[.slice (some ⟨g, 0, none⟩) (lb x).length cp] 26))
    have htb : bl t ≤ 32 := dg_len_le 2 (by decide) t 32 (Nat.lt_of_lt_of_le ht32 (by decide))
    rw [hn] at lx hz ⊢
    have Hn := Lib.hid hn
    have hc : w.cell? ⟨g, n, none⟩ = some (.int .u32 (t : Int)) := by have := hx.cell n hlt; rw [hcl] at this; exact this
    have hgl : g < w.heap.size := hx.lt
    clear hn ht hbl hcl
    go_enter Tryd.func34, Tryd.ntmps34
    go_wp2_with fail
    refine hz.mono ?_
    clear hz
    rintro r w1 ⟨rfl, hb⟩
    have k1 : Boxed w1 w.heap.size 26 (.slice (some ⟨g, 0, none⟩) (n + 1) cp) := Boxed.below' (Boxed.new w _ _) hb (by simp)
    have hB : Below w.heap.size w w1 := ((Below.refl _ _).alloc (Nat.le_refl _) _).trans (hb.mono (by simp))
    have c1 := k1.cell
    have hc1 : w1.cell? ⟨g, n, none⟩ = some (.int .u32 (t : Int)) := (hB.cell (p := ⟨g, n, none⟩) hgl).trans hc
    have i0 : (0 : Int) ≤ n := by omega
    have i1 : (n : Int) < n + 1 := by omega
    have w1' : IntKind.i64.wrap (32 * (n : Int)) = 32 * (n : Int) := by rw [IntKind.wrap_i64]; omega
    clear hb k1 hc
    go_wp2_with fail
    refine (Tryd.bits_Len32 (t : Int) w1 (by omega) (by omega)).mono ?_
    rintro r w2 ⟨rfl, rfl⟩
    rw [Int.toNat_natCast, bl_lib t ht32]
    have w2' : IntKind.i64.wrap (32 * (n : Int) + bl t) = 32 * (n : Int) + bl t := by rw [IntKind.wrap_i64]; omega
    go_wp2_with fail
    go_ret
    exact ⟨by rw [Hbl.out]; exact congrArg (fun z => Ending.returned (.int .i64 z)) (by simp), hB⟩
end Go.Proofs.YtdahkemeoefndaaDoor.NN

namespace Go.Proofs.YtdahkemeoefndaaDoor.NN
open Go.RowKit

/-- 256 times the logarithm by 2, the rest cut off. -/
def lg (p : Nat) : Nat := bl (p ^ 256) - 1
set_option maxHeartbeats 2000000 in
theorem log_any (p : Nat) (w : World) (hp : Hid (p < 18446744073709551616)) :
    Calls Tryd.prog 12 #[.int .u64 p] w fun r w' => r = .returned (.int .i64 (lg p : Int)) ∧ Below w.heap.size w w' := by
  have hl2 : (lb p).length ≤ 2 := lb_64 hp.out
  go_enter Tryd.func12, Tryd.ntmps12
  go_wp2_with fail
  refine (nofn_any p w hp).mono ?_
  rintro r w1 ⟨q, c, rfl, hN, hb, hf⟩
  have hB1 : Below w.heap.size w (w1.alloc (.cells #[.slice q (lb p).length c] 26)) := hb.alloc hb.size _
  have k1 := Boxed.new w1 26 (.slice q (lb p).length c)
  have hN1 : NatIn (w1.alloc (.cells #[.slice q (lb p).length c] 26)) q c p := hN.alloc _
  have hq1 : ∀ a, q = some a → a.block ≠ w1.heap.size := by rintro a rfl; have := hN.lt; omega
  have hg1 : w1.heap.size < (w1.alloc (.cells #[.slice q (lb p).length c] 26)).heap.size := by simp
  have hw1 : w.heap.size ≤ w1.heap.size := hb.size
  clear hN hb hf
  go_wp2_with fail
  generalize w1.alloc (.cells #[.slice q (lb p).length c] 26) = W at hB1 k1 hN1 hg1 ⊢
  generalize w1.heap.size = gl at k1 hq1 hg1 hw1 ⊢
  go_loopw [6] (fun s6 wr => ∃ (i y : Nat) (q : Option Addr) (c : Nat), i ≤ 8 ∧ s6 = .int .i64 (i : Int) ∧ Hid (y = p ^ 2 ^ i) ∧ Hid ((lb y).length ≤ 2 ^ (i + 1)) ∧ Boxed wr gl 26 (.slice q (lb y).length c) ∧ NatIn wr q c y ∧ Below w.heap.size w wr ∧ gl < wr.heap.size ∧ (∀ a, q = some a → a.block ≠ gl)) (fun i _ => 8 - (intOf i).toNat)
  case atStart => exact ⟨0, p, q, c, by omega, rfl, Lib.hid (by simp), hl2, k1, hN1, hB1, hg1, hq1⟩
  case round =>
    clear k1 hN1 hB1 hg1 hq1 hl2
    obtain ⟨i, y, q, c, hi, rfl, hy, hly, kb, hN, hB, hg, hq⟩ := hrel
    have hly2 : (lb y).length ≤ 512 := Nat.le_trans hly.out (Nat.le_trans (Nat.pow_le_pow_right (by decide) (show i + 1 ≤ 9 by omega)) (by decide))
    have c1 := kb.cell
    by_cases hi8 : i < 8
    · go_wp2_with fail
      refine (mul_any q q c c y y wr hN hN (by omega) (by omega)).mono ?_
      rintro r w2 ⟨q2, c2, rfl, hN2, hb2, hf2⟩
      obtain ⟨z, hz⟩ : ∃ z, z = y * y := ⟨_, rfl⟩
      rw [← hz] at hN2 ⊢
      have k2 := Boxed.below' kb hb2 hg
      have hB2 := hB.trans (hb2.mono hB.size)
      have cc := k2.cell
      have ff := k2.frozen
      have hq2 : ∀ a, q2 = some a → a.block ≠ gl := by intro a e; have := hf2 a e; omega
      have hzp : Hid (z = p ^ 2 ^ (i + 1)) := Lib.hid (by rw [hz, hy.out, ← Nat.pow_add, Nat.pow_succ 2 i, show 2 ^ i * 2 = 2 ^ i + 2 ^ i by omega])
      have hzl : Hid ((lb z).length ≤ 2 ^ (i + 1 + 1)) := Lib.hid (by rw [hz]; have := lb_mul y y; have := hly.out; rw [Nat.pow_succ 2 (i + 1)]; omega)
      have hg2 : gl < w2.heap.size := Nat.lt_of_lt_of_le hg hb2.size
      clear hz c1 kb hN hB hb2 hf2 hq hy hly
      go_wp2_with fail
      go_roundw
      case rel => exact ⟨i + 1, z, q2, c2, by omega, by simp, hzp, hzl, k2.set _, hN2.other ⟨gl, 0, none⟩ _ hq2, hB2.setCell (p := ⟨gl, 0, none⟩) hw1 _, by have := (grownBy_setCell' w2 gl (.slice q2 (lb z).length c2)).size; omega, hq2⟩
      case measure => simp [intOf]; omega
    · obtain rfl : i = 8 := by omega
      have hbl := bl_le hly2
      have hlg : lg p = bl y - 1 := by unfold lg; rw [hy.out]
      have Hlg := Lib.hid hlg
      clear hlg
      go_wp2_with fail
      refine (bits_any q c y wr hN (by omega)).mono ?_
      rintro r w2 ⟨rfl, hb2⟩
      have hB2 := hB.trans (hb2.mono hB.size)
      clear c1 kb hN hB hb2
      go_wp2_with fail
      go_ret
      exact ⟨congrArg (fun z => Ending.returned (.int .i64 z)) (by rw [Hlg.out]; omega), hB2⟩
end Go.Proofs.YtdahkemeoefndaaDoor.NN

namespace Go.Proofs.YtdahkemeoefndaaDoor
open Go

/-- How many of the first n are not listed yet. -/
def unl (L : Array Bool) : Nat → Nat
  | 0 => 0
  | n + 1 => unl L n + (if L.getD n true then 0 else 1)
theorem unl_le (L : Array Bool) : ∀ n, unl L n ≤ n
  | 0 => Nat.le_refl _
  | n + 1 => by have := unl_le L n; simp only [unl]; split <;> omega
theorem set_self (L : Array Bool) (i : Nat) : (L.setIfInBounds i true).getD i true = true := by
  by_cases h : i < L.size
  · simp [h]
  · simp [h]
theorem unl_set (L : Array Bool) (i : Nat) (hi : L.getD i true = false) : ∀ n, unl (L.setIfInBounds i true) n + (if i < n then 1 else 0) = unl L n
  | 0 => rfl
  | n + 1 => by
    have ih := unl_set L i hi n
    simp only [unl]
    by_cases h : n = i
    · subst h
      rw [set_self, hi]
      simp at ih ⊢
      exact ih
    · rw [getD_set_ne true (Ne.symm h)]
      generalize (if L.getD n true = true then 0 else 1) = z
      by_cases h2 : i < n
      · rw [if_pos h2] at ih; rw [if_pos (by omega)]; omega
      · rw [if_neg h2] at ih; rw [if_neg (by omega)]; omega
theorem unl_pos (L : Array Bool) : ∀ n i, i < n → L.getD i true = false → 0 < unl L n
  | n + 1, i, h, hi => by
    simp only [unl]
    by_cases e : i = n
    · subst e; rw [hi]; simp
    · have := unl_pos L n i (by omega) hi; omega

/-- What is in the slots that the operations know: those of the list. -/
def AllV (V : Tmp → Value → World → Prop) (a : Act) (w : World) : List Tmp → Prop
  | [] => True
  | t :: r => V t (a.eval (.tmp t)) w ∧ AllV V a w r
theorem AllV.of {V : Tmp → Value → World → Prop} {a : Act} {w : World} : ∀ {l : List Tmp}, (∀ t ∈ l, V t (a.eval (.tmp t)) w) → AllV V a w l
  | [], _ => trivial
  | t :: r, h => ⟨h t (by simp), AllV.of (fun u hu => h u (by simp [hu]))⟩

/-- The slots whose values an operation waits for. -/
def waits (md : Region.Mode) (ops : Array Oper) (o : Oper) : List Tmp :=
  (o.after.toList.filter (Region.binds md)).filterMap fun e => (ops[e.on]?).bind (·.dst)

structure Agree (ops : Array Oper) (a0 a : Act) : Prop where
  size : a.tmps.size = a0.tmps.size
  defers : a.defers = a0.defers
  same : ∀ t, (∀ (i : Nat) (o : Oper), ops[i]? = some o → o.dst ≠ some t) → a.eval (.tmp t) = a0.eval (.tmp t)

def drawOk (ops : Array Oper) (N : Nat) : Bool :=
  (List.range ops.size).all fun i => match ops[i]? with
    | none => true
    | some o => o.after.all (fun e => decide (e.on < i)) && (match o.dst with
      | none => true
      | some d => decide (d < N) && (List.range ops.size).all fun j => j == i || (match ops[j]? with | some p => p.dst != some d | none => true))

structure DrawOk (ops : Array Oper) (N : Nat) : Prop where
  before : ∀ (i : Nat) (o : Oper), ops[i]? = some o → ∀ e ∈ o.after, e.on < i
  room : ∀ (i : Nat) (o : Oper) (d : Tmp), ops[i]? = some o → o.dst = some d → d < N
  apart : ∀ (i j : Nat) (o p : Oper) (d : Tmp), ops[i]? = some o → ops[j]? = some p → j ≠ i → o.dst = some d → p.dst ≠ some d
theorem drawOk_spec {ops : Array Oper} {N : Nat} (h : drawOk ops N = true) : DrawOk ops N := by
  have key : ∀ (i : Nat) (o : Oper), ops[i]? = some o → o.after.all (fun e => decide (e.on < i)) = true ∧ (match o.dst with
      | none => true
      | some d => decide (d < N) && (List.range ops.size).all fun j => j == i || (match ops[j]? with | some p => p.dst != some d | none => true)) = true := by
    intro i o ho
    have hlt : i < ops.size := (Array.getElem?_eq_some_iff.1 ho).1
    have := List.all_eq_true.1 h i (List.mem_range.2 hlt)
    simp only [ho, Bool.and_eq_true] at this
    exact this
  refine ⟨fun i o ho e he => ?_, fun i o d ho hd => ?_, fun i j o p d ho hp hj hd hpd => ?_⟩
  · have := Array.all_eq_true_iff_forall_mem.1 (key i o ho).1 e he
    exact of_decide_eq_true this
  · have := (key i o ho).2
    rw [hd] at this
    simp only [Bool.and_eq_true] at this
    exact of_decide_eq_true this.1
  · have := (key i o ho).2
    rw [hd] at this
    simp only [Bool.and_eq_true] at this
    have h2 := List.all_eq_true.1 this.2 j (List.mem_range.2 (Array.getElem?_eq_some_iff.1 hp).1)
    simp only [hp, Bool.or_eq_true, beq_iff_eq, hj, false_or, bne_iff_ne, ne_eq] at h2
    exact h2 hpd

/-- What one operation owes. -/
def Owes (P : Program) (md : Region.Mode) (ops : Array Oper) (Q : Exit → Act → World → Prop) (V : Tmp → Value → World → Prop) (G : World → Prop) (a0 : Act) (i : Nat) (o : Oper) : Prop :=
  ∀ a w, Agree ops a0 a → G w → AllV V a w (waits md ops o) →
    wpOp P ops Q i (fun a' w' => ∃ v, a' = a.put o.dst v ∧ (∀ t, o.dst = some t → V t v w') ∧ G w' ∧ ∀ t x, V t x w → V t x w') a w

theorem eval_put_same {a : Act} {d : Tmp} (h : d < a.tmps.size) (v : Value) : (a.put (some d) v).eval (.tmp d) = v := by
  simp [Act.put, Act.eval, h]
theorem size_put (a : Act) (d : Option Tmp) (v : Value) : (a.put d v).tmps.size = a.tmps.size := by
  cases d <;> simp [Act.put]
theorem defers_put (a : Act) (d : Option Tmp) (v : Value) : (a.put d v).defers = a.defers := by
  cases d <;> rfl

section
variable {P : Program} {ops : Array Oper} {Q : Exit → Act → World → Prop} {md : Region.Mode} {V : Tmp → Value → World → Prop} {G : World → Prop} {a0 : Act}

theorem ready_some (hok : DrawOk ops a0.tmps.size) {L : Array Bool} (hL : L.size = ops.size) : ∀ i, i < ops.size → L.getD i true = false → ∃ j, j ∈ Region.ready md ops L := by
  intro i
  induction i using Nat.strongRecOn with
  | ind i ih =>
    intro hi hun
    have ho : ops[i]? = some ops[i] := Array.getElem?_eq_getElem hi
    by_cases h : ∀ e ∈ ops[i].after, Region.binds md e = true → L.getD e.on false = true
    · exact ⟨i, mem_ready.2 ⟨hun, _, ho, h⟩⟩
    · have ⟨e, he⟩ := Classical.not_forall.1 h
      have ⟨he1, he2⟩ := Classical.not_imp.1 he
      have ⟨hb, hf⟩ := Classical.not_imp.1 he2
      have hlt := hok.before i _ ho e he1
      have hel : e.on < L.size := by omega
      refine ih e.on hlt (by omega) ?_
      simp [hel] at hf ⊢
      exact hf

theorem wpAny_vals (hok : DrawOk ops a0.tmps.size) (step : ∀ (i : Nat) (o : Oper), ops[i]? = some o → Owes P md ops Q V G a0 i o)
    (fin : ∀ a w, Agree ops a0 a → G w → (∀ (i : Nat) (o : Oper) (t : Tmp), ops[i]? = some o → o.dst = some t → V t (a.eval (.tmp t)) w) → Q .normal a w) :
    ∀ (fuel : Nat) (L : Array Bool) (a : Act) (w : World), unl L ops.size ≤ fuel → L.size = ops.size → Agree ops a0 a → G w →
      (∀ (i : Nat) (o : Oper) (t : Tmp), ops[i]? = some o → L.getD i true = true → o.dst = some t → V t (a.eval (.tmp t)) w) → wpAny P md ops Q fuel L a w := by
  have allL : ∀ L : Array Bool, L.size = ops.size → Region.ready md ops L = [] → ∀ (i : Nat) (o : Oper), ops[i]? = some o → L.getD i true = true := by
    intro L hL hr i o ho
    cases hc : L.getD i true with
    | true => rfl
    | false =>
      obtain ⟨j, hj⟩ := ready_some (md := md) hok hL i (Array.getElem?_eq_some_iff.1 ho).1 hc
      rw [hr] at hj; cases hj
  intro fuel
  induction fuel with
  | zero =>
    intro L a w hu hL ha hG hv
    have hr : Region.ready md ops L = [] := by
      apply List.eq_nil_iff_forall_not_mem.2
      intro j hj
      obtain ⟨hun, o, ho, _⟩ := mem_ready.1 hj
      have := unl_pos L ops.size j (Array.getElem?_eq_some_iff.1 ho).1 hun
      omega
    exact ⟨hr, fin a w ha hG (fun i o t ho ht => hv i o t ho (allL L hL hr i o ho) ht)⟩
  | succ fuel ih =>
    intro L a w hu hL ha hG hv
    refine ⟨fun hr => fin a w ha hG (fun i o t ho ht => hv i o t ho (allL L hL hr i o ho) ht), fun i hi => ?_⟩
    obtain ⟨hun, o, ho, hall⟩ := mem_ready.1 hi
    have hil : i < ops.size := (Array.getElem?_eq_some_iff.1 ho).1
    have hw : AllV V a w (waits md ops o) := AllV.of (by
      intro t ht
      unfold waits at ht
      obtain ⟨e, he, hd⟩ := List.mem_filterMap.1 ht
      obtain ⟨he1, he2⟩ := List.mem_filter.1 he
      cases hj : ops[e.on]? with
      | none => rw [hj] at hd; cases hd
      | some p =>
        rw [hj] at hd
        have hl := hall e (by simpa using he1) he2
        have hel : e.on < L.size := by rw [hL]; exact (Array.getElem?_eq_some_iff.1 hj).1
        exact hv e.on p t hj (by simp [hel] at hl ⊢; exact hl) hd)
    refine wpOp_mono (fun a' w' h => ?_) (step i o ho a w ha hG hw)
    obtain ⟨v, rfl, hvi, hG', hst⟩ := h
    refine ih _ _ _ ?_ (by simpa using hL) ?_ hG' ?_
    · have := unl_set L i hun ops.size
      rw [if_pos hil] at this; omega
    · refine ⟨by rw [size_put]; exact ha.size, by rw [defers_put]; exact ha.defers, fun t ht => ?_⟩
      rw [Act.eval_put (fun d hd e => ht i o ho (by cases e; exact hd))]
      exact ha.same t ht
    · intro j p t hp hl ht
      by_cases e : j = i
      · subst e
        rw [ho] at hp; cases hp
        rw [ht, eval_put_same (by rw [ha.size]; exact hok.room j o t ho ht)]
        exact hvi t ht
      · rw [Act.eval_put (fun d hd e2 => by cases e2; exact hok.apart i j o p t ho hp e hd ht)]
        rw [getD_set_ne true (Ne.symm e)] at hl
        exact hst _ _ (hv j p t hp hl ht)

/-- The obligations one after the other. -/
def OweAll (P : Program) (md : Region.Mode) (ops : Array Oper) (Q : Exit → Act → World → Prop) (V : Tmp → Value → World → Prop) (G : World → Prop) (a0 : Act) : Nat → List Oper → Prop
  | _, [] => True
  | k, o :: r => Owes P md ops Q V G a0 k o ∧ OweAll P md ops Q V G a0 (k + 1) r
theorem OweAll.get : ∀ {l : List Oper} {k : Nat}, OweAll P md ops Q V G a0 k l → ∀ (i : Nat) (o : Oper), l[i]? = some o → Owes P md ops Q V G a0 (k + i) o
  | _ :: _, k, h, 0, o, hi => by cases hi; exact h.1
  | _ :: r, k, h, i + 1, o, hi => by
    have := OweAll.get h.2 i o (by simpa using hi)
    rwa [show k + 1 + i = k + (i + 1) by omega] at this
  | [], _, _, i, o, hi => by simp at hi
theorem OweAll.cons {k : Nat} {o : Oper} {r : List Oper} (h : Owes P md ops Q V G a0 k o) (h2 : OweAll P md ops Q V G a0 (k + 1) r) : OweAll P md ops Q V G a0 k (o :: r) := ⟨h, h2⟩
theorem OweAll.nil {k : Nat} : OweAll P md ops Q V G a0 k [] := trivial

/-- A region that draws its order. -/
theorem wp_region_vals {id : Nat} {w : World} (V : Tmp → Value → World → Prop) (G : World → Prop) (N : Nat) (hm : P.follows .mixedOrders = true) (hok : drawOk ops N = true) (hN : a0.tmps.size = N) (hG : G w.drew)
    (step : OweAll P .any ops Q V G a0 0 ops.toList)
    (fin : ∀ a w, Agree ops a0 a → G w → (∀ (i : Nat) (o : Oper) (t : Tmp), ops[i]? = some o → o.dst = some t → V t (a.eval (.tmp t)) w) → Q .normal a w) : (Code.region id ops true).wp P Q a0 w := by
  subst hN
  have hok := drawOk_spec hok
  refine wp_region_any hm (wpAny_vals hok (V := V) (G := G) (fun i o ho => ?_) fin ops.size _ a0 _ (unl_le _ _) (by simp) ⟨rfl, rfl, fun _ _ => rfl⟩ hG ?_)
  · have := step.get i o (by simpa using ho)
    rwa [Nat.zero_add] at this
  · intro i o t ho hl _
    have hlt := (Array.getElem?_eq_some_iff.1 ho).1
    simp [hlt] at hl

/-- The slots of the operations. -/
def dsts (ops : Array Oper) : List Tmp := ops.toList.filterMap (·.dst)
def puts (f : Tmp → Value) (l : List Tmp) (b : Act) : Act := l.foldl (fun b t => b.put (some t) (f t)) b
theorem puts_spec (f : Tmp → Value) : ∀ (l : List Tmp) (b : Act), (∀ t ∈ l, t < b.tmps.size) →
    (puts f l b).tmps.size = b.tmps.size ∧ (puts f l b).defers = b.defers ∧ ∀ t, (puts f l b).eval (.tmp t) = if t ∈ l then f t else b.eval (.tmp t)
  | [], b, _ => ⟨rfl, rfl, fun t => by simp [puts]⟩
  | u :: r, b, h => by
    have ih := puts_spec f r (b.put (some u) (f u)) (fun t ht => by rw [size_put]; exact h t (by simp [ht]))
    refine ⟨ih.1.trans (size_put _ _ _), ih.2.1.trans (defers_put _ _ _), fun t => ?_⟩
    have e : puts f (u :: r) b = puts f r (b.put (some u) (f u)) := rfl
    rw [e, ih.2.2 t]
    by_cases h1 : t ∈ r
    · rw [if_pos h1, if_pos (by simp [h1])]
    · rw [if_neg h1]
      by_cases h2 : t = u
      · subst h2; rw [eval_put_same (h t (by simp)), if_pos (by simp)]
      · rw [Act.eval_put (fun d hd e2 => by cases hd; cases e2; exact h2 rfl), if_neg (by simp [h1, h2])]
theorem act_ext {a b : Act} (hs : a.tmps.size = b.tmps.size) (hd : a.defers = b.defers) (h : ∀ t, a.eval (.tmp t) = b.eval (.tmp t)) : a = b := by
  obtain ⟨ta, da⟩ := a
  obtain ⟨tb, db⟩ := b
  have : ta = tb := by
    apply Array.ext hs
    intro i h1 h2
    have := h i
    simpa [Act.eval, h1, h2] using this
  subst this
  cases hd
  rfl
theorem Agree.puts {a : Act} (ha : Agree ops a0 a) (hok : DrawOk ops a0.tmps.size) : a = puts (fun t => a.eval (.tmp t)) (dsts ops) a0 := by
  have hm : ∀ t ∈ dsts ops, ∃ (i : Nat) (o : Oper), ops[i]? = some o ∧ o.dst = some t := by
    intro t ht
    obtain ⟨o, ho, hd⟩ := List.mem_filterMap.1 ht
    obtain ⟨i, hi, e⟩ := List.getElem_of_mem ho
    refine ⟨i, o, ?_, hd⟩
    rw [← e]
    simp at hi
    simp [hi]
  have hp := puts_spec (fun t => a.eval (.tmp t)) (dsts ops) a0 (fun t ht => by obtain ⟨i, o, hi, hd⟩ := hm t ht; exact hok.room i o t hi hd)
  refine act_ext (ha.size.trans hp.1.symm) (ha.defers.trans hp.2.1.symm) (fun t => ?_)
  rw [hp.2.2 t]
  by_cases h : t ∈ dsts ops
  · rw [if_pos h]
  · rw [if_neg h]
    refine ha.same t (fun i o hi hd => h ?_)
    exact List.mem_filterMap.2 ⟨o, by simpa using Array.mem_of_getElem? hi, hd⟩

/-- A region that draws its order, what follows it at a known frame. -/
theorem wp_region_puts {id : Nat} {w : World} (V : Tmp → Value → World → Prop) (G : World → Prop) (N : Nat) (hm : P.follows .mixedOrders = true) (hok : drawOk ops N = true) (hN : a0.tmps.size = N) (hG : G w.drew)
    (step : OweAll P .any ops Q V G a0 0 ops.toList)
    (fin : ∀ f w, G w → (∀ (i : Nat) (o : Oper) (t : Tmp), ops[i]? = some o → o.dst = some t → V t (f t) w) → Q .normal (puts f (dsts ops) a0) w) : (Code.region id ops true).wp P Q a0 w :=
  wp_region_vals V G N hm hok hN hG step (fun a w ha hG hv => by
    subst hN
    rw [ha.puts (drawOk_spec hok)]
    exact fin _ w hG hv)

theorem AllV.get {a : Act} {w : World} : ∀ {l : List Tmp}, AllV V a w l → ∀ t, l.contains t = true → V t (a.eval (.tmp t)) w
  | [], _, t, h => by simp at h
  | u :: r, hh, t, h => by
    by_cases e : t = u
    · subst e; exact hh.1
    · exact AllV.get hh.2 t (by simpa [e] using h)
theorem Agree.outer {a : Act} (h : Agree ops a0 a) (t : Tmp) (ht : ops.all (fun o => o.dst != some t) = true) : a.eval (.tmp t) = a0.eval (.tmp t) := by
  refine h.same t (fun i o ho e => ?_)
  have := Array.all_eq_true_iff_forall_mem.1 ht o (Array.mem_of_getElem? ho)
  rw [e] at this; simp at this
theorem getD_bool {a : Act} {t : Tmp} {b : Bool} (h : a.eval (.tmp t) = .bool b) : a.tmps[t]? = some (.bool b) := by
  unfold Act.eval at h
  cases hc : a.tmps[t]? with
  | none => simp [hc, undef] at h
  | some x => simp [hc] at h; rw [h]
theorem wanted_of {o : Oper} {a : Act} {g : Nat} {want : Bool} {t : Tmp} (hg : o.guard = some (g, want)) (hd : (ops[g]?).bind (·.dst) = some t) (h : a.eval (.tmp t) = .bool want) : Region.wanted o (yielded ops a.tmps) = true := by
  unfold Region.wanted yielded
  rw [hg]
  simp only [hd, Option.bind_some, getD_bool h]
  simp
theorem wanted_free {o : Oper} {a : Act} (hg : o.guard = none) : Region.wanted o (yielded ops a.tmps) = true := by
  unfold Region.wanted; rw [hg]

/-- An operation that yields a value and turns nothing. -/
theorem owes_val {i : Nat} {o : Oper} {t : Tmp} (hi : ops[i]? = some o) (ht : o.dst = some t) (h : ∀ a w, Agree ops a0 a → G w → AllV V a w (waits md ops o) →
    ∃ v, Region.wanted o (yielded ops a.tmps) = true ∧ (execOp a.eval o).run P w = .ok (.value v) w ∧ V t v w) : Owes P md ops Q V G a0 i o := by
  intro a w ha hG hV
  obtain ⟨v, hw, hr, hv⟩ := h a w ha hG hV
  unfold wpOp
  rw [hi]
  simp only [hw, if_true, Oper.wp, hr, Oper.upon]
  exact .inl ⟨v, rfl, fun u hu => by rw [ht] at hu; cases hu; exact hv, hG, fun _ _ h => h⟩
/-- A call. -/
theorem owes_call {i : Nat} {o : Oper} {t : Tmp} (hi : ops[i]? = some o) (ht : o.dst = some t) (f : FuncId) (h : ∀ a w, Agree ops a0 a → G w → AllV V a w (waits md ops o) →
    ∃ args, Region.wanted o (yielded ops a.tmps) = true ∧ (execOp a.eval o).run P w = .ok (.enter f args) w ∧
      Calls P f args w fun e w' => ∃ v, e = .returned v ∧ V t v w' ∧ G w' ∧ ∀ t x, V t x w → V t x w') : Owes P md ops Q V G a0 i o := by
  intro a w ha hG hV
  obtain ⟨args, hw, hr, hc⟩ := h a w ha hG hV
  unfold wpOp
  rw [hi]
  simp only [hw, if_true, Oper.wp, hr, Oper.upon]
  refine .inl (hc.mono ?_)
  rintro e w' ⟨v, rfl, h1, h2, h3⟩
  exact ⟨v, rfl, fun u hu => by rw [ht] at hu; cases hu; exact h1, h2, h3⟩
end
end Go.Proofs.YtdahkemeoefndaaDoor

namespace Go.Proofs.YtdahkemeoefndaaDoor.NN
open Go.RowKit

/-- A value that is the number n. -/
def NV (n : Nat) (v : Value) (w : World) : Prop := ∃ q c, v = .agg #[.slice q (lb n).length c] ∧ NatIn w q c n
theorem NV.old {n : Nat} {v : Value} {w w' : World} (h : NV n v w) (hb : Below w.heap.size w w') : NV n v w' := by
  obtain ⟨q, c, e, hN⟩ := h; exact ⟨q, c, e, hN.old hb⟩

inductive Kd where
  | any
  | eq (v : Value)
  | nat (n : Nat)
def Val : Kd → Value → World → Prop
  | .any, _, _ => True
  | .eq x, v, _ => v = x
  | .nat n, v, w => NV n v w
theorem Val.old {k : Kd} {v : Value} {w w' : World} (h : Val k v w) (hb : Below w.heap.size w w') : Val k v w' := by
  cases k with
  | any => trivial
  | eq x => exact h
  | nat n => exact NV.old h hb
theorem lb_pow {x n : Nat} (h : x < 10 ^ n) : (lb x).length ≤ n :=
  dg_len_le _ (by decide) x n (Nat.lt_of_lt_of_le h (Nat.pow_le_pow_left (by decide) n))
end Go.Proofs.YtdahkemeoefndaaDoor.NN

namespace Go.Proofs.YtdahkemeoefndaaDoor
open Go

def waitsI (md : Region.Mode) (o : Oper) : List Nat := (o.after.toList.filter (Region.binds md)).map (·.on)
def AllU {Γ : Type} (U : Nat → Γ → World → Prop) (γ : Γ) (w : World) (l : List Nat) : Prop := ∀ j, l.contains j = true → U j γ w

/-- As drawOk, of the edges that bind. -/
def drawOk2 (md : Region.Mode) (ops : Array Oper) (N : Nat) : Bool :=
  (List.range ops.size).all fun i => match ops[i]? with
    | none => true
    | some o => o.after.all (fun e => !Region.binds md e || decide (e.on < i)) && (match o.dst with
      | none => true
      | some d => decide (d < N) && (List.range ops.size).all fun j => j == i || (match ops[j]? with | some p => p.dst != some d | none => true))
structure DrawOk2 (md : Region.Mode) (ops : Array Oper) (N : Nat) : Prop where
  before : ∀ (i : Nat) (o : Oper), ops[i]? = some o → ∀ e ∈ o.after, Region.binds md e = true → e.on < i
  room : ∀ (i : Nat) (o : Oper) (d : Tmp), ops[i]? = some o → o.dst = some d → d < N
  apart : ∀ (i j : Nat) (o p : Oper) (d : Tmp), ops[i]? = some o → ops[j]? = some p → j ≠ i → o.dst = some d → p.dst ≠ some d
theorem drawOk2_spec {md : Region.Mode} {ops : Array Oper} {N : Nat} (h : drawOk2 md ops N = true) : DrawOk2 md ops N := by
  have key : ∀ (i : Nat) (o : Oper), ops[i]? = some o → o.after.all (fun e => !Region.binds md e || decide (e.on < i)) = true ∧ (match o.dst with
      | none => true
      | some d => decide (d < N) && (List.range ops.size).all fun j => j == i || (match ops[j]? with | some p => p.dst != some d | none => true)) = true := by
    intro i o ho
    have hlt : i < ops.size := (Array.getElem?_eq_some_iff.1 ho).1
    have := List.all_eq_true.1 h i (List.mem_range.2 hlt)
    simp only [ho, Bool.and_eq_true] at this
    exact this
  refine ⟨fun i o ho e he hb => ?_, fun i o d ho hd => ?_, fun i j o p d ho hp hj hd hpd => ?_⟩
  · have := Array.all_eq_true_iff_forall_mem.1 (key i o ho).1 e he
    rw [hb] at this
    simpa using this
  · have := (key i o ho).2
    rw [hd] at this
    simp only [Bool.and_eq_true] at this
    exact of_decide_eq_true this.1
  · have := (key i o ho).2
    rw [hd] at this
    simp only [Bool.and_eq_true] at this
    have h2 := List.all_eq_true.1 this.2 j (List.mem_range.2 (Array.getElem?_eq_some_iff.1 hp).1)
    simp only [hp, Bool.or_eq_true, beq_iff_eq, hj, false_or, bne_iff_ne, ne_eq] at h2
    exact h2 hpd
theorem ready_some2 {ops : Array Oper} {md : Region.Mode} {N : Nat} (hok : DrawOk2 md ops N) {L : Array Bool} (hL : L.size = ops.size) : ∀ i, i < ops.size → L.getD i true = false → ∃ j, j ∈ Region.ready md ops L := by
  intro i
  induction i using Nat.strongRecOn with
  | ind i ih =>
    intro hi hun
    have ho : ops[i]? = some ops[i] := Array.getElem?_eq_getElem hi
    by_cases h : ∀ e ∈ ops[i].after, Region.binds md e = true → L.getD e.on false = true
    · exact ⟨i, mem_ready.2 ⟨hun, _, ho, h⟩⟩
    · have ⟨e, he⟩ := Classical.not_forall.1 h
      have ⟨he1, he2⟩ := Classical.not_imp.1 he
      have ⟨hb, hf⟩ := Classical.not_imp.1 he2
      have hlt := hok.before i _ ho e he1 hb
      have hel : e.on < L.size := by omega
      refine ih e.on hlt (by omega) ?_
      simp [hel] at hf ⊢
      exact hf
theorem agree_puts2 {ops : Array Oper} {a0 a : Act} (ha : Agree ops a0 a) (room : ∀ (i : Nat) (o : Oper) (d : Tmp), ops[i]? = some o → o.dst = some d → d < a0.tmps.size) : a = puts (fun t => a.eval (.tmp t)) (dsts ops) a0 := by
  have hm : ∀ t ∈ dsts ops, ∃ (i : Nat) (o : Oper), ops[i]? = some o ∧ o.dst = some t := by
    intro t ht
    obtain ⟨o, ho, hd⟩ := List.mem_filterMap.1 ht
    obtain ⟨i, hi, e⟩ := List.getElem_of_mem ho
    refine ⟨i, o, ?_, hd⟩
    rw [← e]
    simp at hi
    simp [hi]
  have hp := puts_spec (fun t => a.eval (.tmp t)) (dsts ops) a0 (fun t ht => by obtain ⟨i, o, hi, hd⟩ := hm t ht; exact room i o t hi hd)
  refine act_ext (ha.size.trans hp.1.symm) (ha.defers.trans hp.2.1.symm) (fun t => ?_)
  rw [hp.2.2 t]
  by_cases h : t ∈ dsts ops
  · rw [if_pos h]
  · rw [if_neg h]
    refine ha.same t (fun i o hi hd => h ?_)
    exact List.mem_filterMap.2 ⟨o, by simpa using Array.mem_of_getElem? hi, hd⟩

section
variable {P : Program} {ops : Array Oper} {Q : Exit → Act → World → Prop} {md : Region.Mode} {Γ : Type} {V : Tmp → Value → Γ → World → Prop} {U : Nat → Γ → World → Prop} {G : Γ → World → Prop} {a0 : Act}

/-- What one operation owes. -/
def Owes2 (P : Program) (md : Region.Mode) (ops : Array Oper) (Q : Exit → Act → World → Prop) (V : Tmp → Value → Γ → World → Prop) (U : Nat → Γ → World → Prop) (G : Γ → World → Prop) (a0 : Act) (i : Nat) (o : Oper) : Prop :=
  ∀ γ a w, Agree ops a0 a → G γ w → AllV (fun t v w => V t v γ w) a w (waits md ops o) → AllU U γ w (waitsI md o) →
    wpOp P ops Q i (fun a' w' => ∃ v γ', a' = a.put o.dst v ∧ (∀ t, o.dst = some t → V t v γ' w') ∧ U i γ' w' ∧ G γ' w' ∧
      ∀ j p, ops[j]? = some p → j ≠ i → (∀ e ∈ p.after, Region.binds md e = true → e.on ≠ i) → (∀ t x, p.dst = some t → V t x γ w → V t x γ' w') ∧ (U j γ w → U j γ' w')) a w

theorem wpAny_vals2 (hok : DrawOk2 md ops a0.tmps.size) (step : ∀ (i : Nat) (o : Oper), ops[i]? = some o → Owes2 P md ops Q V U G a0 i o)
    (fin : ∀ γ a w, Agree ops a0 a → G γ w → (∀ (i : Nat) (o : Oper) (t : Tmp), ops[i]? = some o → o.dst = some t → V t (a.eval (.tmp t)) γ w) → (∀ (i : Nat) (o : Oper), ops[i]? = some o → U i γ w) → Q .normal a w) :
    ∀ (fuel : Nat) (γ : Γ) (L : Array Bool) (a : Act) (w : World), unl L ops.size ≤ fuel → L.size = ops.size → Agree ops a0 a → G γ w →
      (∀ (j : Nat) (p : Oper), ops[j]? = some p → L.getD j true = true → ∀ e ∈ p.after, Region.binds md e = true → L.getD e.on true = true) →
      (∀ (i : Nat) (o : Oper) (t : Tmp), ops[i]? = some o → L.getD i true = true → o.dst = some t → V t (a.eval (.tmp t)) γ w) →
      (∀ (i : Nat) (o : Oper), ops[i]? = some o → L.getD i true = true → U i γ w) → wpAny P md ops Q fuel L a w := by
  have allL : ∀ L : Array Bool, L.size = ops.size → Region.ready md ops L = [] → ∀ (i : Nat) (o : Oper), ops[i]? = some o → L.getD i true = true := by
    intro L hL hr i o ho
    cases hc : L.getD i true with
    | true => rfl
    | false =>
      obtain ⟨j, hj⟩ := ready_some2 hok hL i (Array.getElem?_eq_some_iff.1 ho).1 hc
      rw [hr] at hj; cases hj
  intro fuel
  induction fuel with
  | zero =>
    intro γ L a w hu hL ha hG _ hv hU
    have hr : Region.ready md ops L = [] := by
      apply List.eq_nil_iff_forall_not_mem.2
      intro j hj
      obtain ⟨hun, o, ho, _⟩ := mem_ready.1 hj
      have := unl_pos L ops.size j (Array.getElem?_eq_some_iff.1 ho).1 hun
      omega
    exact ⟨hr, fin γ a w ha hG (fun i o t ho ht => hv i o t ho (allL L hL hr i o ho) ht) (fun i o ho => hU i o ho (allL L hL hr i o ho))⟩
  | succ fuel ih =>
    intro γ L a w hu hL ha hG hcl hv hU
    refine ⟨fun hr => fin γ a w ha hG (fun i o t ho ht => hv i o t ho (allL L hL hr i o ho) ht) (fun i o ho => hU i o ho (allL L hL hr i o ho)), fun i hi => ?_⟩
    obtain ⟨hun, o, ho, hall⟩ := mem_ready.1 hi
    have hil : i < ops.size := (Array.getElem?_eq_some_iff.1 ho).1
    have up : ∀ k, k < ops.size → L.getD k false = true → L.getD k true = true := by
      intro k hk h
      have hkl : k < L.size := by omega
      simp [hkl] at h ⊢; exact h
    have hw : AllV (fun t v w => V t v γ w) a w (waits md ops o) := AllV.of (by
      intro t ht
      unfold waits at ht
      obtain ⟨e, he, hd⟩ := List.mem_filterMap.1 ht
      obtain ⟨he1, he2⟩ := List.mem_filter.1 he
      cases hj : ops[e.on]? with
      | none => rw [hj] at hd; cases hd
      | some p =>
        rw [hj] at hd
        exact hv e.on p t hj (up _ (Array.getElem?_eq_some_iff.1 hj).1 (hall e (by simpa using he1) he2)) hd)
    have hwU : AllU U γ w (waitsI md o) := by
      intro j hj
      have hj2 : j ∈ waitsI md o := by simpa using hj
      obtain ⟨e, he, rfl⟩ := List.mem_map.1 hj2
      obtain ⟨he1, he2⟩ := List.mem_filter.1 he
      have hlt := hok.before i o ho e (by simpa using he1) he2
      have hes : e.on < ops.size := by omega
      exact hU e.on _ (Array.getElem?_eq_getElem hes) (up _ hes (hall e (by simpa using he1) he2))
    refine wpOp_mono (fun a' w' h => ?_) (step i o ho γ a w ha hG hw hwU)
    obtain ⟨v, γ', rfl, hvi, hUi, hG', hst⟩ := h
    have notOn : ∀ (j : Nat) (p : Oper), ops[j]? = some p → L.getD j true = true → ∀ e ∈ p.after, Region.binds md e = true → e.on ≠ i := by
      intro j p hp hl e he hb heq
      have := hcl j p hp hl e he hb
      rw [heq, hun] at this; cases this
    refine ih γ' _ _ _ ?_ (by simpa using hL) ?_ hG' ?_ ?_ ?_
    · have := unl_set L i hun ops.size
      rw [if_pos hil] at this; omega
    · refine ⟨by rw [size_put]; exact ha.size, by rw [defers_put]; exact ha.defers, fun t ht => ?_⟩
      rw [Act.eval_put (fun d hd e => ht i o ho (by cases e; exact hd))]
      exact ha.same t ht
    · intro j p hp hl e he hb
      by_cases e1 : e.on = i
      · rw [e1]; exact set_self L i
      · rw [getD_set_ne true (Ne.symm e1)]
        by_cases e2 : j = i
        · subst e2
          rw [ho] at hp; cases hp
          have hlt := hok.before j o ho e he hb
          exact up _ (by omega) (hall e he hb)
        · rw [getD_set_ne true (Ne.symm e2)] at hl
          exact hcl j p hp hl e he hb
    · intro j p t hp hl ht
      by_cases e : j = i
      · subst e
        rw [ho] at hp; cases hp
        rw [ht, eval_put_same (by rw [ha.size]; exact hok.room j o t ho ht)]
        exact hvi t ht
      · rw [Act.eval_put (fun d hd e2 => by cases e2; exact hok.apart i j o p t ho hp e hd ht)]
        rw [getD_set_ne true (Ne.symm e)] at hl
        exact (hst j p hp e (notOn j p hp hl)).1 t _ ht (hv j p t hp hl ht)
    · intro j p hp hl
      by_cases e : j = i
      · subst e; exact hUi
      · rw [getD_set_ne true (Ne.symm e)] at hl
        exact (hst j p hp e (notOn j p hp hl)).2 (hU j p hp hl)

def OweAll2 (P : Program) (md : Region.Mode) (ops : Array Oper) (Q : Exit → Act → World → Prop) (V : Tmp → Value → Γ → World → Prop) (U : Nat → Γ → World → Prop) (G : Γ → World → Prop) (a0 : Act) : Nat → List Oper → Prop
  | _, [] => True
  | k, o :: r => Owes2 P md ops Q V U G a0 k o ∧ OweAll2 P md ops Q V U G a0 (k + 1) r
theorem OweAll2.get : ∀ {l : List Oper} {k : Nat}, OweAll2 P md ops Q V U G a0 k l → ∀ (i : Nat) (o : Oper), l[i]? = some o → Owes2 P md ops Q V U G a0 (k + i) o
  | _ :: _, k, h, 0, o, hi => by cases hi; exact h.1
  | _ :: r, k, h, i + 1, o, hi => by
    have := OweAll2.get h.2 i o (by simpa using hi)
    rwa [show k + 1 + i = k + (i + 1) by omega] at this
  | [], _, _, i, o, hi => by simp at hi
theorem OweAll2.cons {k : Nat} {o : Oper} {r : List Oper} (h : Owes2 P md ops Q V U G a0 k o) (h2 : OweAll2 P md ops Q V U G a0 (k + 1) r) : OweAll2 P md ops Q V U G a0 k (o :: r) := ⟨h, h2⟩
theorem OweAll2.nil {k : Nat} : OweAll2 P md ops Q V U G a0 k [] := trivial

/-- A region that draws its order, with a ghost. -/
theorem wp_region_vals2 {id : Nat} {w : World} (γ0 : Γ) (V : Tmp → Value → Γ → World → Prop) (U : Nat → Γ → World → Prop) (G : Γ → World → Prop) (N : Nat) (hm : P.follows .mixedOrders = true) (hok : drawOk2 .any ops N = true) (hN : a0.tmps.size = N) (hG : G γ0 w.drew)
    (step : OweAll2 P .any ops Q V U G a0 0 ops.toList)
    (fin : ∀ γ a w, Agree ops a0 a → G γ w → (∀ (i : Nat) (o : Oper) (t : Tmp), ops[i]? = some o → o.dst = some t → V t (a.eval (.tmp t)) γ w) → (∀ (i : Nat) (o : Oper), ops[i]? = some o → U i γ w) → Q .normal a w) : (Code.region id ops true).wp P Q a0 w := by
  subst hN
  have hok := drawOk2_spec hok
  have hrep : ∀ (i : Nat) (o : Oper), ops[i]? = some o → (Array.replicate ops.size false).getD i true = true → False := by
    intro i o ho hl
    have hlt := (Array.getElem?_eq_some_iff.1 ho).1
    simp [hlt] at hl
  refine wp_region_any hm (wpAny_vals2 hok (V := V) (U := U) (G := G) (fun i o ho => ?_) fin ops.size γ0 _ a0 _ (unl_le _ _) (by simp) ⟨rfl, rfl, fun _ _ => rfl⟩ hG ?_ ?_ ?_)
  · have := step.get i o (by simpa using ho)
    rwa [Nat.zero_add] at this
  · intro j p hp hl; exact (hrep j p hp hl).elim
  · intro j p t hp hl; exact (hrep j p hp hl).elim
  · intro j p hp hl; exact (hrep j p hp hl).elim
/-- .. what follows it at a known frame. -/
theorem wp_region_puts2 {id : Nat} {w : World} (γ0 : Γ) (V : Tmp → Value → Γ → World → Prop) (U : Nat → Γ → World → Prop) (G : Γ → World → Prop) (N : Nat) (hm : P.follows .mixedOrders = true) (hok : drawOk2 .any ops N = true) (hN : a0.tmps.size = N) (hG : G γ0 w.drew)
    (step : OweAll2 P .any ops Q V U G a0 0 ops.toList)
    (fin : ∀ f γ w, G γ w → (∀ (i : Nat) (o : Oper) (t : Tmp), ops[i]? = some o → o.dst = some t → V t (f t) γ w) → (∀ (i : Nat) (o : Oper), ops[i]? = some o → U i γ w) → Q .normal (puts f (dsts ops) a0) w) : (Code.region id ops true).wp P Q a0 w :=
  wp_region_vals2 γ0 V U G N hm hok hN hG step (fun γ a w ha hG hv hU => by
    subst hN
    rw [agree_puts2 ha (drawOk2_spec hok).room]
    exact fin _ γ w hG hv hU)
end
end Go.Proofs.YtdahkemeoefndaaDoor

namespace Go.Proofs.YtdahkemeoefndaaDoor.NN.R
open Go.RowKit

/-- The row is not the new box's block. -/
def Off (q : Option Addr) (γ : Option Nat) : Prop := ∀ g a, γ = some g → q = some a → a.block ≠ g
/-- A number as a value. -/
def NG (n : Nat) (v : Value) (γ : Option Nat) (w : World) : Prop := ∃ q c, v = .agg #[.slice q (lb n).length c] ∧ NatIn w q c n ∧ Off q γ
def SG (n : Nat) (v : Value) (γ : Option Nat) (w : World) : Prop := ∃ q c, v = .tuple #[.agg #[.slice q (lb n).length c], .bool true] ∧ NatIn w q c n ∧ Off q γ
def TG (n : Nat) (x y : Value) (v : Value) (γ : Option Nat) (w : World) : Prop := ∃ q c, v = .tuple #[.agg #[.slice q (lb n).length c], x, y] ∧ NatIn w q c n ∧ Off q γ
def PG (v : Value) (γ : Option Nat) (w : World) : Prop := ∃ g, γ = some g ∧ v = .pointer (some ⟨g, 0, none⟩) ∧ ∃ z, Boxed w g 26 z
def UG (n : Nat) (γ : Option Nat) (w : World) : Prop := ∃ g q c, γ = some g ∧ Boxed w g 26 (.slice q (lb n).length c) ∧ NatIn w q c n ∧ Off q γ
theorem NG.old {n : Nat} {v : Value} {γ : Option Nat} {w w' : World} (h : NG n v γ w) (hb : Below w.heap.size w w') : NG n v γ w' := by
  obtain ⟨q, c, e, hN, ho⟩ := h; exact ⟨q, c, e, hN.old hb, ho⟩
theorem SG.old {n : Nat} {v : Value} {γ : Option Nat} {w w' : World} (h : SG n v γ w) (hb : Below w.heap.size w w') : SG n v γ w' := by
  obtain ⟨q, c, e, hN, ho⟩ := h; exact ⟨q, c, e, hN.old hb, ho⟩
theorem TG.old {n : Nat} {x y v : Value} {γ : Option Nat} {w w' : World} (h : TG n x y v γ w) (hb : Below w.heap.size w w') : TG n x y v γ w' := by
  obtain ⟨q, c, e, hN, ho⟩ := h; exact ⟨q, c, e, hN.old hb, ho⟩
theorem PG.old {v : Value} {γ : Option Nat} {w w' : World} (h : PG v γ w) (hb : Below w.heap.size w w') : PG v γ w' := by
  obtain ⟨g, e, hv, z, hz⟩ := h; exact ⟨g, e, hv, z, Boxed.below' hz hb hz.lt⟩
theorem UG.old {n : Nat} {γ : Option Nat} {w w' : World} (h : UG n γ w) (hb : Below w.heap.size w w') : UG n γ w' := by
  obtain ⟨g, q, c, e, hx, hN, ho⟩ := h; exact ⟨g, q, c, e, Boxed.below' hx hb hx.lt, hN.old hb, ho⟩
theorem NG.zero (γ : Option Nat) (w : World) : NG 0 (.agg #[.slice none 0 0]) γ w :=
  ⟨none, 0, by rw [lb_zero]; rfl, by show Sl _ _ _ _ _ (lb 0); rw [lb_zero]; exact Sl.empty _ _ _, fun _ _ _ h => by cases h⟩
theorem NV.zero (w : World) : NV 0 (.agg #[.slice none 0 0]) w :=
  ⟨none, 0, by rw [lb_zero]; rfl, by show Sl _ _ _ _ _ (lb 0); rw [lb_zero]; exact Sl.empty _ _ _⟩
/-- What a slot holds. -/
inductive Kr where
  | any
  | eq (v : Value)
  | nat (n : Nat)
  | sub (n : Nat)
  | tri (n : Nat) (x y : Value)
  | ptr
def VR : Kr → Value → Option Nat → World → Prop
  | .any, _, _, _ => True
  | .eq x, v, _, _ => v = x
  | .nat n, v, γ, w => NG n v γ w
  | .sub n, v, γ, w => SG n v γ w
  | .tri n x y, v, γ, w => TG n x y v γ w
  | .ptr, v, γ, w => PG v γ w
theorem VR.old {k : Kr} {v : Value} {γ : Option Nat} {w w' : World} (h : VR k v γ w) (hb : Below w.heap.size w w') : VR k v γ w' := by
  cases k with
  | any => trivial
  | eq x => exact h
  | nat n => exact NG.old h hb
  | sub n => exact SG.old h hb
  | tri n x y => exact TG.old h hb
  | ptr => exact PG.old h hb
structure GG (W : World) (γ : Option Nat) (w : World) : Prop where
  b : Below W.heap.size W w
  g : ∀ g, γ = some g → W.heap.size ≤ g ∧ g < w.heap.size
theorem GG.far {W w : World} {γ : Option Nat} (h : GG W γ w) {q : Option Addr} {c n : Nat} (hn : NatIn W q c n) : Off q γ := by
  rintro g a e rfl
  have := hn.lt; have := (h.g g e).1; omega
theorem GG.fresh {W w : World} {γ : Option Nat} (h : GG W γ w) {q : Option Addr} (hf : ∀ a, q = some a → w.heap.size ≤ a.block) : Off q γ := by
  intro g a e e2
  have := hf a e2; have := (h.g g e).2; omega
theorem GG.old {W w w' : World} {γ : Option Nat} (h : GG W γ w) (hb : Below w.heap.size w w') : GG W γ w' :=
  ⟨h.b.trans (hb.mono h.b.size), fun g e => ⟨(h.g g e).1, Nat.lt_of_lt_of_le (h.g g e).2 hb.size⟩⟩
/-- The facts that no slot holds: what the store leaves. -/
def UU (ks x : Nat) (i : Nat) (γ : Option Nat) (w : World) : Prop := if i = ks then UG x γ w else True
theorem UU.old {ks x i : Nat} {γ : Option Nat} {w w' : World} (h : UU ks x i γ w) (hb : Below w.heap.size w w') : UU ks x i γ w' := by
  unfold UU at h ⊢
  by_cases e : i = ks
  · rw [if_pos e] at h ⊢; exact h.old hb
  · rw [if_neg e]; trivial

section
variable {P : Program} {ops : Array Oper} {Q : Exit → Act → World → Prop} {md : Region.Mode} {K : Tmp → Kr} {ks x : Nat} {W : World} {a0 : Act}
theorem owes2_val {i : Nat} {o : Oper} {t : Tmp} (hi : ops[i]? = some o) (ht : o.dst = some t) (h9 : i ≠ ks) (h : ∀ γ a w, Agree ops a0 a → GG W γ w → AllV (fun t v w => VR (K t) v γ w) a w (waits md ops o) → AllU (UU ks x) γ w (waitsI md o) →
    ∃ v, Region.wanted o (yielded ops a.tmps) = true ∧ (execOp a.eval o).run P w = .ok (.value v) w ∧ VR (K t) v γ w) : Owes2 P md ops Q (fun t v γ w => VR (K t) v γ w) (UU ks x) (GG W) a0 i o := by
  intro γ a w ha hG hV hU
  obtain ⟨v, hw, hr, hv⟩ := h γ a w ha hG hV hU
  unfold wpOp
  rw [hi]
  simp only [hw, if_true, Oper.wp, hr, Oper.upon]
  exact .inl ⟨v, γ, rfl, fun u hu => by rw [ht] at hu; cases hu; exact hv, by unfold UU; rw [if_neg h9]; trivial, hG, fun _ _ _ _ _ => ⟨fun _ _ _ h => h, fun h => h⟩⟩
theorem owes2_call {i : Nat} {o : Oper} {t : Tmp} (hi : ops[i]? = some o) (ht : o.dst = some t) (h9 : i ≠ ks) (f : FuncId) (h : ∀ γ a w, Agree ops a0 a → GG W γ w → AllV (fun t v w => VR (K t) v γ w) a w (waits md ops o) → AllU (UU ks x) γ w (waitsI md o) →
    ∃ args, Region.wanted o (yielded ops a.tmps) = true ∧ (execOp a.eval o).run P w = .ok (.enter f args) w ∧
      Calls P f args w fun e w' => ∃ v, e = .returned v ∧ VR (K t) v γ w' ∧ Below w.heap.size w w') : Owes2 P md ops Q (fun t v γ w => VR (K t) v γ w) (UU ks x) (GG W) a0 i o := by
  intro γ a w ha hG hV hU
  obtain ⟨args, hw, hr, hc⟩ := h γ a w ha hG hV hU
  unfold wpOp
  rw [hi]
  simp only [hw, if_true, Oper.wp, hr, Oper.upon]
  refine .inl (hc.mono ?_)
  rintro e w' ⟨v, rfl, h1, hb⟩
  exact ⟨v, γ, rfl, fun u hu => by rw [ht] at hu; cases hu; exact h1, by unfold UU; rw [if_neg h9]; trivial, hG.old hb, fun _ _ _ _ _ => ⟨fun _ _ _ h => VR.old h hb, fun h => UU.old h hb⟩⟩
/-- The new box. -/
theorem owes2_alloc {i : Nat} {o : Oper} {t : Tmp} {z : Value} (hi : ops[i]? = some o) (ht : o.dst = some t) (h9 : i ≠ ks) (hg : o.guard = none) (hK : K t = .ptr) (hkp : ∀ u, u ≠ t → K u ≠ .ptr)
    (hap : ∀ (j : Nat) (p : Oper), ops[j]? = some p → j ≠ i → p.dst ≠ some t) (h9w : ∀ p : Oper, ops[ks]? = some p → ∃ e ∈ p.after, Region.binds md e = true ∧ e.on = i)
    (hr : ∀ (a : Act) (w : World), (execOp a.eval o).run P w = .ok (.value (.pointer (some ⟨w.heap.size, 0, none⟩))) (w.alloc (.cells #[z] 26))) : Owes2 P md ops Q (fun t v γ w => VR (K t) v γ w) (UU ks x) (GG W) a0 i o := by
  intro γ a w ha hG hV hU
  unfold wpOp
  rw [hi]
  simp only [wanted_free hg, if_true, Oper.wp, hr, Oper.upon]
  have hb : Below w.heap.size w (w.alloc (.cells #[z] 26)) := (Below.refl _ _).alloc (Nat.le_refl _) _
  have off : ∀ {q : Option Addr} {c n : Nat}, NatIn w q c n → Off q (some w.heap.size) := by
    rintro q c n hn g a e rfl
    have := hn.lt
    cases e; omega
  refine .inl ⟨.pointer (some ⟨w.heap.size, 0, none⟩), some w.heap.size, rfl, fun u hu => ?_, by unfold UU; rw [if_neg h9]; trivial, ⟨hG.b.trans (hb.mono hG.b.size), fun g e => ?_⟩, fun j p hp hj hw => ⟨fun u v hu h => ?_, fun h => ?_⟩⟩
  · rw [ht] at hu; cases hu
    show VR (K t) _ _ _
    rw [hK]
    exact ⟨_, rfl, rfl, z, Boxed.new w _ _⟩
  · cases e; exact ⟨hG.b.size, by simp⟩
  · have hut : u ≠ t := fun e => hap j p hp hj (by rw [hu, e])
    have hk := hkp u hut
    show VR (K u) _ _ _
    cases hku : K u with
    | any => trivial
    | eq x => rw [hku] at h; exact h
    | nat n => rw [hku] at h; obtain ⟨q, c, e, hN, _⟩ := h; exact ⟨q, c, e, hN.alloc _, off hN⟩
    | sub n => rw [hku] at h; obtain ⟨q, c, e, hN, _⟩ := h; exact ⟨q, c, e, hN.alloc _, off hN⟩
    | tri n x y => rw [hku] at h; obtain ⟨q, c, e, hN, _⟩ := h; exact ⟨q, c, e, hN.alloc _, off hN⟩
    | ptr => exact absurd hku hk
  · unfold UU
    by_cases e : j = ks
    · subst e
      obtain ⟨e, he, hbd, hon⟩ := h9w p hp
      exact absurd hon (hw e he hbd)
    · rw [if_neg e]; trivial
/-- The store into it. -/
theorem owes2_store {o : Oper} (hi : ops[ks]? = some o) (ht : o.dst = none) (hg : o.guard = none) (h : ∀ γ a w, Agree ops a0 a → GG W γ w → AllV (fun t v w => VR (K t) v γ w) a w (waits md ops o) →
    ∃ g q c, γ = some g ∧ (∃ z, Boxed w g 26 z) ∧ NatIn w q c x ∧ Off q γ ∧ (execOp a.eval o).run P w = .ok .skip (w.setCell ⟨g, 0, none⟩ (.slice q (lb x).length c))) : Owes2 P md ops Q (fun t v γ w => VR (K t) v γ w) (UU ks x) (GG W) a0 ks o := by
  intro γ a w ha hG hV hU
  obtain ⟨g, q, c, rfl, ⟨z, hz⟩, hN, ho, hr⟩ := h γ a w ha hG hV
  unfold wpOp
  rw [hi]
  simp only [wanted_free hg, if_true, Oper.wp, hr, Oper.upon]
  have hgB := (hG.g g rfl).1
  have hm : Mod (· = g) w (w.setCell ⟨g, 0, none⟩ (.slice q (lb x).length c)) := (Mod.refl (· = g) w).setCell (p := ⟨g, 0, none⟩) (fun _ => rfl) _
  have hb : Below W.heap.size w (w.setCell ⟨g, 0, none⟩ (.slice q (lb x).length c)) := (Below.refl _ w).setCell (p := ⟨g, 0, none⟩) hgB _
  have keep : ∀ {q' : Option Addr} {c' n' : Nat}, NatIn w q' c' n' → Off q' (some g) → NatIn (w.setCell ⟨g, 0, none⟩ (.slice q (lb x).length c)) q' c' n' :=
    fun hN' ho' => hN'.kept hm (fun a e => ho' g a rfl e)
  have hu9 : UU ks x ks (some g) (w.setCell ⟨g, 0, none⟩ (.slice q (lb x).length c)) := by unfold UU; rw [if_pos rfl]; exact ⟨g, q, c, rfl, hz.set _, keep hN ho, ho⟩
  have hv0 : ∀ t, o.dst = some t → VR (K t) undef (some g) (w.setCell ⟨g, 0, none⟩ (.slice q (lb x).length c)) := by intro t e; rw [ht] at e; cases e
  refine .inl ⟨undef, some g, rfl, hv0, hu9, ⟨hG.b.trans hb, fun g' e => ⟨(hG.g g' e).1, Nat.lt_of_lt_of_le (hG.g g' e).2 hm.size⟩⟩, fun j p hp hj hw => ⟨fun u v hu h => ?_, fun h => ?_⟩⟩
  · show VR (K u) _ _ _
    cases hku : K u with
    | any => trivial
    | eq x => rw [hku] at h; exact h
    | nat n => rw [hku] at h; obtain ⟨q', c', e, hN', ho'⟩ := h; exact ⟨q', c', e, keep hN' ho', ho'⟩
    | sub n => rw [hku] at h; obtain ⟨q', c', e, hN', ho'⟩ := h; exact ⟨q', c', e, keep hN' ho', ho'⟩
    | tri n x y => rw [hku] at h; obtain ⟨q', c', e, hN', ho'⟩ := h; exact ⟨q', c', e, keep hN' ho', ho'⟩
    | ptr => rw [hku] at h; obtain ⟨g', e, hv, _⟩ := h; cases e; exact ⟨g, rfl, hv, _, hz.set _⟩
  · unfold UU; rw [if_neg hj]; trivial
end
end Go.Proofs.YtdahkemeoefndaaDoor.NN.R

namespace Go.Proofs.YtdahkemeoefndaaDoor.NN
open Go.RowKit

/-- What a tipset weighs more. -/
def gw (p : Nat) (wins : Int) : Nat := lg p + lg p * wins.toNat / 10
theorem lg_le (p : Nat) (hp : p < 18446744073709551616) : lg p ≤ 16384 := by
  have h1 : (lb p).length ≤ 2 := lb_64 hp
  have h2 : ∀ k, (lb (p ^ (k + 1))).length ≤ 2 * (k + 1) := by
    intro k
    induction k with
    | zero => rw [Nat.pow_one]; omega
    | succ k ih => rw [Nat.pow_succ]; have := lb_mul (p ^ (k + 1)) p; omega
  have h3 := bl_le (h2 255)
  have e : lg p = bl (p ^ (255 + 1)) - 1 := rfl
  rw [e]
  omega

/-- The memory of Of. -/
def OfR (w : World) (L n gl : Nat) (q : Option Addr) (c : Nat) (wx : World) : Prop :=
  Boxed wx w.heap.size 26 (.slice none 0 0) ∧ Boxed wx gl 26 (.slice q n c) ∧ NatIn wx q c L ∧ Below w.heap.size w wx ∧ w.heap.size < gl ∧ (∀ a, q = some a → w.heap.size < a.block)
theorem OfR.below {w : World} {L n gl : Nat} {q : Option Addr} {c : Nat} {wx w' : World} (h : OfR w L n gl q c wx) (hb : Below wx.heap.size wx w') : OfR w L n gl q c w' := by
  obtain ⟨h1, h2, h3, h4, h5, h6⟩ := h
  exact ⟨Boxed.below' h1 hb h1.lt, Boxed.below' h2 hb h2.lt, h3.old hb, h4.trans (hb.mono h4.size), h5, h6⟩

set_option maxHeartbeats 4000000 in
theorem gof_any (p : Nat) (wins : Int) (w : World) (hp : Hid (p < 18446744073709551616)) (hw : Hid (wins ≤ 9223372036854775807)) :
    Calls Tryd.prog 7 #[.int .u64 p, .int .i64 wins] w (NatOut w (gw p wins)) := by
  obtain ⟨L, hL⟩ : ∃ L, L = lg p := ⟨_, rfl⟩
  have hLb : L ≤ 16384 := by rw [hL]; exact lg_le p hp.out
  obtain ⟨m, hm⟩ : ∃ m, m = wins.toNat := ⟨_, rfl⟩
  have e1 : max wins 0 = (m : Int) := by omega
  have hm64 : Hid (m < 18446744073709551616) := Lib.hid (by have := hw.out; omega)
  have hml : (lb m).length ≤ 2 := lb_64 hm64.out
  have e2 : IntKind.u64.wrap (m : Int) = (m : Int) := by have := hm64.out; rw [IntKind.wrap_u64]; omega
  have e3 : IntKind.u64.wrap (L : Int) = (L : Int) := by rw [IntKind.wrap_u64]; omega
  have hL64 : Hid (L < 18446744073709551616) := Lib.hid (by omega)
  have hLl : (lb L).length ≤ 2 := lb_64 hL64.out
  obtain ⟨u, hu⟩ : ∃ u, u = L * m := ⟨_, rfl⟩
  obtain ⟨v, hv⟩ : ∃ v, v = u / 10 := ⟨_, rfl⟩
  have hul : (lb u).length ≤ 4 := by rw [hu]; have := lb_mul L m; omega
  obtain ⟨z, hz⟩ : ∃ z, z = gw p wins := ⟨_, rfl⟩
  have hz2 : z = L + v := by rw [hz, hv, hu, hL, hm]; rfl
  rw [← hz]
  have HL := Lib.hid hL
  have Hm := Lib.hid hm
  have Hv := Lib.hid hv
  have Hu := Lib.hid hu
  have Hz := Lib.hid hz2
  clear hL hm hv hz hz2 hu
  have hlog := log_any p (w.alloc (.cells #[.slice none 0 0] 26)) hp
  rw [← HL.out] at hlog
  go_enter Tryd.func7, Tryd.ntmps7
  go_wp2_with fail
  refine hlog.mono ?_
  clear hlog
  rintro r w1 ⟨rfl, hb1⟩
  have k1 : Boxed w1 w.heap.size 26 (.slice none 0 0) := Boxed.below' (Boxed.new w _ _) hb1 (by simp)
  have hB1 : Below w.heap.size w w1 := ((Below.refl _ _).alloc (Nat.le_refl _) _).trans (hb1.mono (by simp))
  have hs1 : w.heap.size < w1.heap.size := k1.lt
  clear hb1
  go_wp2_with fail
  refine (nofn_any L w1 hL64).mono ?_
  rintro r w2 ⟨q, c, rfl, hN, hb, hf⟩
  have hR0 : OfR w L (lb L).length w2.heap.size q c (w2.alloc (.cells #[.slice q (lb L).length c] 26)) := by
    have hs := hb.size
    exact ⟨(Boxed.below' k1 hb k1.lt).alloc _, Boxed.new _ _ _, hN.alloc _, (hB1.trans (hb.mono hB1.size)).alloc (by omega) _, by omega, fun a e => by have := hf a e; omega⟩
  clear k1 hB1 hN hb hf hs1
  go_upto_region 2 with fail
  generalize w2.alloc (.cells #[.slice q (lb L).length c] 26) = W at hR0 ⊢
  generalize w2.heap.size = gl at hR0 ⊢
  -- region 2
  refine wp_region_puts2 (Γ := Option Nat) none (fun t vv γ w' => R.VR (
      match t with
      | 14 => .nat L
      | 15 => .eq (.int .i64 wins)
      | 16 => .eq (.int .i64 (m : Int))
      | 17 => .eq (.int .u64 (m : Int))
      | 18 => .nat m
      | 19 => .nat u
      | 20 => .tri v (.int .u32 ((u % 10 : Nat) : Int)) (.bool true)
      | 13 => .tri v (.int .u32 ((u % 10 : Nat) : Int)) (.bool true)
      | 21 => .nat v
      | 22 => .eq (.int .u32 ((u % 10 : Nat) : Int))
      | 23 => .eq (.bool true)
      | 6 => .ptr
      | 7 => .eq (.int .u32 ((u % 10 : Nat) : Int))
      | 8 => .eq (.bool true)
      | _ => .any) vv γ w') (R.UU 12 v) (R.GG W) 27 (by kernel_rfl) (by decide +kernel) rfl ⟨(Below.refl _ _).drew, fun g e => by cases e⟩ (by
    refine OweAll2.cons (R.owes2_val rfl rfl (by decide) fun γ a w1 ha hG hV hU => ?_) ?_
    · skip
      have h5 := ha.outer 5 (by decide +kernel)
      simp only [Act.eval] at h5
      have c5 := (Boxed.below' hR0.2.1 hG.b hR0.2.1.lt).cell
      exact ⟨.agg #[.slice q (lb L).length c], wanted_free rfl, by simp [execOp, go_sem, h5, c5], ⟨_, _, rfl, hR0.2.2.1.old hG.b, hG.far hR0.2.2.1⟩⟩
    refine OweAll2.cons (R.owes2_val rfl rfl (by decide) fun γ a w1 ha hG hV hU => ?_) ?_
    · skip
      have h1 := ha.outer 1 (by decide +kernel)
      simp only [Act.eval] at h1
      exact ⟨.int .i64 wins, wanted_free rfl, by simp [execOp, go_sem, h1], rfl⟩
    refine OweAll2.cons (R.owes2_val rfl rfl (by decide) fun γ a w1 ha hG hV hU => ?_) ?_
    · skip
      have h15 : a.tmps.getD 15 undef = (.int .i64 wins) := hV.get 15 (by decide +kernel)
      exact ⟨.int .i64 (m : Int), wanted_free rfl, by simp [go_sem, h15, e1], rfl⟩
    refine OweAll2.cons (R.owes2_val rfl rfl (by decide) fun γ a w1 ha hG hV hU => ?_) ?_
    · skip
      have h16 : a.tmps.getD 16 undef = (.int .i64 (m : Int)) := hV.get 16 (by decide +kernel)
      exact ⟨.int .u64 (m : Int), wanted_free rfl, by simp [execOp, go_sem, h16, e2], rfl⟩
    refine OweAll2.cons (R.owes2_call rfl rfl (by decide) 6 fun γ a w1 ha hG hV hU => ?_) ?_
    · skip
      have h17 : a.tmps.getD 17 undef = (.int .u64 (m : Int)) := hV.get 17 (by decide +kernel)
      refine ⟨#[.int .u64 (m : Int)], wanted_free rfl, by simp [go_sem, h17], ?_⟩
      refine (nofn_any m w1 hm64).mono ?_
      rintro r w2 ⟨qr, cr, rfl, hN, hb, hf⟩; exact ⟨_, rfl, ⟨qr, cr, rfl, hN, hG.fresh hf⟩, hb⟩
    refine OweAll2.cons (R.owes2_call rfl rfl (by decide) 25 fun γ a w1 ha hG hV hU => ?_) ?_
    · skip
      obtain ⟨q14, c14, h14, n14, o14⟩ : R.NG L (a.tmps.getD 14 undef) γ w1 := hV.get 14 (by decide +kernel)
      obtain ⟨q18, c18, h18, n18, o18⟩ : R.NG m (a.tmps.getD 18 undef) γ w1 := hV.get 18 (by decide +kernel)
      refine ⟨#[.agg #[.slice q14 (lb L).length c14], .agg #[.slice q18 (lb m).length c18]], wanted_free rfl, by simp [go_sem, h14, h18], ?_⟩
      have hmm := mul_any q14 q18 c14 c18 L m w1 n14 n18 (by omega) (by omega)
      rw [← Hu.out] at hmm
      refine hmm.mono ?_
      rintro r w2 ⟨qr, cr, rfl, hN, hb, hf⟩; exact ⟨_, rfl, ⟨qr, cr, rfl, hN, hG.fresh hf⟩, hb⟩
    refine OweAll2.cons (R.owes2_call rfl rfl (by decide) 26 fun γ a w1 ha hG hV hU => ?_) ?_
    · skip
      obtain ⟨q19, c19, h19, n19, o19⟩ : R.NG u (a.tmps.getD 19 undef) γ w1 := hV.get 19 (by decide +kernel)
      refine ⟨#[.agg #[.slice q19 (lb u).length c19], .int .u32 10], wanted_free rfl, by simp [go_sem, h19], ?_⟩
      have hdd := div_any q19 c19 u 10 w1 n19 (by omega) (by decide) (by decide)
      rw [← Hv.out] at hdd
      refine hdd.mono ?_
      rintro r w2 ⟨qr, cr, rfl, hN, hb, hf⟩; exact ⟨_, rfl, ⟨qr, cr, rfl, hN, hG.fresh hf⟩, hb⟩
    refine OweAll2.cons (R.owes2_val rfl rfl (by decide) fun γ a w1 ha hG hV hU => ?_) ?_
    · skip
      obtain ⟨q20, c20, h20, n20, o20⟩ : R.TG v (.int .u32 ((u % 10 : Nat) : Int)) (.bool true) (a.tmps.getD 20 undef) γ w1 := hV.get 20 (by decide +kernel)
      exact ⟨.tuple #[.agg #[.slice q20 (lb v).length c20], .int .u32 ((u % 10 : Nat) : Int), .bool true], wanted_free rfl, by simp [execOp, go_sem, h20], ⟨_, _, rfl, n20, o20⟩⟩
    refine OweAll2.cons (R.owes2_val rfl rfl (by decide) fun γ a w1 ha hG hV hU => ?_) ?_
    · skip
      obtain ⟨q13, c13, h13, n13, o13⟩ : R.TG v (.int .u32 ((u % 10 : Nat) : Int)) (.bool true) (a.tmps.getD 13 undef) γ w1 := hV.get 13 (by decide +kernel)
      exact ⟨.agg #[.slice q13 (lb v).length c13], wanted_free rfl, by simp [execOp, go_sem, h13], ⟨_, _, rfl, n13, o13⟩⟩
    refine OweAll2.cons (R.owes2_val rfl rfl (by decide) fun γ a w1 ha hG hV hU => ?_) ?_
    · skip
      obtain ⟨q13, c13, h13, n13, o13⟩ : R.TG v (.int .u32 ((u % 10 : Nat) : Int)) (.bool true) (a.tmps.getD 13 undef) γ w1 := hV.get 13 (by decide +kernel)
      exact ⟨.int .u32 ((u % 10 : Nat) : Int), wanted_free rfl, by simp [execOp, go_sem, h13], rfl⟩
    refine OweAll2.cons (R.owes2_val rfl rfl (by decide) fun γ a w1 ha hG hV hU => ?_) ?_
    · skip
      obtain ⟨q13, c13, h13, n13, o13⟩ : R.TG v (.int .u32 ((u % 10 : Nat) : Int)) (.bool true) (a.tmps.getD 13 undef) γ w1 := hV.get 13 (by decide +kernel)
      exact ⟨.bool true, wanted_free rfl, by simp [execOp, go_sem, h13], rfl⟩
    refine OweAll2.cons (R.owes2_alloc (t := 6) (z := .slice none 0 0) rfl rfl (by decide) rfl rfl ?_ (fun j p hp hj => (drawOk2_spec (md := .any) (N := 27) (by decide +kernel)).apart 11 j _ p 6 rfl hp hj rfl) ?_ ?_) ?_
    · intro x hx h
      split at h <;> first | contradiction | exact hx rfl
    · intro p hp
      obtain rfl := Option.some.inj hp
      exact ⟨⟨11, .data⟩, by simp, rfl, rfl⟩
    · intro a w1
      simp [execOp, go_sem]
    refine OweAll2.cons (R.owes2_store rfl rfl rfl fun γ a w1 ha hG hV => ?_) ?_
    · skip
      obtain ⟨g6, e6, h6, z6, b6⟩ : R.PG (a.tmps.getD 6 undef) γ w1 := hV.get 6 (by decide +kernel)
      obtain ⟨q21, c21, h21, n21, o21⟩ : R.NG v (a.tmps.getD 21 undef) γ w1 := hV.get 21 (by decide +kernel)
      have c6 := b6.cell
      have f6 := b6.frozen
      exact ⟨g6, q21, c21, e6, ⟨z6, b6⟩, n21, o21, by simp [execOp, go_sem, h6, h21, c6, f6]⟩
    refine OweAll2.cons (R.owes2_val rfl rfl (by decide) fun γ a w1 ha hG hV hU => ?_) ?_
    · skip
      have h22 : a.tmps.getD 22 undef = (.int .u32 ((u % 10 : Nat) : Int)) := hV.get 22 (by decide +kernel)
      exact ⟨.int .u32 ((u % 10 : Nat) : Int), wanted_free rfl, by simp [execOp, go_sem, h22], rfl⟩
    refine OweAll2.cons (R.owes2_val rfl rfl (by decide) fun γ a w1 ha hG hV hU => ?_) ?_
    · skip
      have h23 : a.tmps.getD 23 undef = (.bool true) := hV.get 23 (by decide +kernel)
      exact ⟨.bool true, wanted_free rfl, by simp [execOp, go_sem, h23], rfl⟩
    exact OweAll2.nil) ?_
  intro f γ W2 hG hv hU
  obtain ⟨gs, eg, h6, -⟩ : R.PG (f 6) γ W2 := hv 11 _ 6 rfl rfl
  have hu : R.UU 12 v 12 γ W2 := hU 12 _ rfl
  unfold R.UU at hu
  rw [if_pos rfl] at hu
  obtain ⟨gs', qs, cs, eg', kb, nb, -⟩ := hu
  have e : gs' = gs := by rw [eg] at eg'; exact (Option.some.inj eg').symm
  subst e
  rename_i hK
  refine hK _ _ ?_
  have hgs := (hG.g _ eg).1
  clear hK hv hU eg eg'
  replace hR0 := hR0.below hG.b
  clear hG
  simp only [dsts, puts, List.filterMap_cons, List.filterMap_nil, List.foldl_cons, List.foldl_nil, Act.put, List.setIfInBounds_toArray, List.set_cons_succ, List.set_cons_zero, h6]
  obtain ⟨k4, k5, nL, hB, hlt, hq⟩ := hR0
  have c5 := k5.cell
  have c6 := kb.cell
  have hvl : (lb v).length ≤ 100000 := Nat.le_trans (lb_le (show v ≤ u by rw [Hv.out]; exact Nat.div_le_self _ _)) (by omega)
  have hadd := add_any q qs c cs L v W2 nL nb (by omega) hvl
  rw [← Hz.out] at hadd
  clear c5 c6
  have c5 := k5.cell
  have c6 := kb.cell
  go_wp2_with fail
  refine hadd.mono ?_
  clear hadd
  rintro r w5 ⟨q5, cc5, rfl, n5, hb, hf⟩
  have k45 := Boxed.below' k4 hb k4.lt
  have hB5 := hB.trans (hb.mono hB.size)
  have hf5 : ∀ a, q5 = some a → w.heap.size < a.block := fun a e => by have := hf a e; have := k4.lt; omega
  have c4 := k45.cell
  have f4 := k45.frozen
  clear k4 k5 kb hb hf c5 c6 nb nL
  go_wp2_with fail
  have c7 := (k45.set (.slice q5 (lb z).length cc5)).cell
  refine bodyPost_ret (v := .agg #[.slice q5 (lb z).length cc5]) (by simp [results, Tryd.results7, go_sem, c7]) rfl ⟨q5, cc5, rfl, ?_, ?_, fun a e => by have := hf5 a e; omega⟩
  · exact n5.other ⟨w.heap.size, 0, none⟩ _ (fun a e => by have := hf5 a e; show a.block ≠ w.heap.size; omega)
  · exact hB5.setCell (p := ⟨w.heap.size, 0, none⟩) (Nat.le_refl _) _
end Go.Proofs.YtdahkemeoefndaaDoor.NN

namespace Go.Proofs.YtdahkemeoefndaaDoor.NN
open Go.RowKit

theorem gw_mono (p : Nat) {a b : Int} (h : a ≤ b) : gw p a ≤ gw p b := by
  unfold gw
  have h1 : lg p * a.toNat ≤ lg p * b.toNat := Nat.mul_le_mul_left _ (by omega)
  have := Nat.div_le_div_right (c := 10) h1
  omega
theorem gw_lb (p : Nat) (wins : Int) (hp : p < 18446744073709551616) (hw : wins ≤ 9223372036854775807) : (lb (gw p wins)).length ≤ 100000 ∧ (dg 10 (gw p wins)).length ≤ 100000 := by
  have h1 := lg_le p hp
  have h2 : lg p * wins.toNat ≤ 16384 * 9223372036854775807 := Nat.mul_le_mul h1 (by omega)
  have h3 : gw p wins ≤ 16384 + 16384 * 9223372036854775807 := by
    unfold gw
    have := Nat.div_le_self (lg p * wins.toNat) 10
    omega
  refine ⟨Nat.le_trans (dg_len_le _ (by decide) _ 4 (Nat.lt_of_le_of_lt h3 (by decide))) (by decide), Nat.le_trans (dg_len_le 10 (by decide) _ 40 (Nat.lt_of_le_of_lt h3 (by decide))) (by decide)⟩

end Go.Proofs.YtdahkemeoefndaaDoor.NN

namespace Go.Proofs.YtdahkemeoefndaaDoor.NN
open Go Go.RowKit

section
variable {P : Program} {ops : Array Oper} {Q : Exit → Act → World → Prop} {md : Region.Mode} {Γ : Type} {V : Tmp → Value → Γ → World → Prop} {U N : Nat → Γ → World → Prop} {G : Γ → World → Prop} {a0 : Act}

/-- What one operation owes. -/
def Owes3 (P : Program) (md : Region.Mode) (ops : Array Oper) (Q : Exit → Act → World → Prop) (V : Tmp → Value → Γ → World → Prop) (U N : Nat → Γ → World → Prop) (G : Γ → World → Prop) (a0 : Act) (i : Nat) (o : Oper) : Prop :=
  ∀ γ a w, Agree ops a0 a → G γ w → AllV (fun t v w => V t v γ w) a w (waits md ops o) → AllU U γ w (waitsI md o) → N i γ w → (∀ j p, ops[j]? = some p → (∃ e ∈ p.after, Region.binds md e = true ∧ e.on = i) → N j γ w) →
    wpOp P ops Q i (fun a' w' => ∃ v γ', a' = a.put o.dst v ∧ (∀ t, o.dst = some t → V t v γ' w') ∧ U i γ' w' ∧ G γ' w' ∧
      (∀ j p, ops[j]? = some p → j ≠ i → (∀ e ∈ p.after, Region.binds md e = true → e.on ≠ i) → (∀ t x, p.dst = some t → V t x γ w → V t x γ' w') ∧ (U j γ w → U j γ' w')) ∧ (∀ j, j ≠ i → N j γ w → N j γ' w')) a w

theorem wpAny_vals3 (hok : DrawOk2 md ops a0.tmps.size) (step : ∀ (i : Nat) (o : Oper), ops[i]? = some o → Owes3 P md ops Q V U N G a0 i o)
    (fin : ∀ γ a w, Agree ops a0 a → G γ w → (∀ (i : Nat) (o : Oper) (t : Tmp), ops[i]? = some o → o.dst = some t → V t (a.eval (.tmp t)) γ w) → (∀ (i : Nat) (o : Oper), ops[i]? = some o → U i γ w) → Q .normal a w) :
    ∀ (fuel : Nat) (γ : Γ) (L : Array Bool) (a : Act) (w : World), unl L ops.size ≤ fuel → L.size = ops.size → Agree ops a0 a → G γ w →
      (∀ (j : Nat) (p : Oper), ops[j]? = some p → L.getD j true = true → ∀ e ∈ p.after, Region.binds md e = true → L.getD e.on true = true) →
      (∀ (i : Nat) (o : Oper) (t : Tmp), ops[i]? = some o → L.getD i true = true → o.dst = some t → V t (a.eval (.tmp t)) γ w) →
      (∀ (i : Nat) (o : Oper), ops[i]? = some o → L.getD i true = true → U i γ w) →
      (∀ (i : Nat) (o : Oper), ops[i]? = some o → L.getD i true = false → N i γ w) → wpAny P md ops Q fuel L a w := by
  have allL : ∀ L : Array Bool, L.size = ops.size → Region.ready md ops L = [] → ∀ (i : Nat) (o : Oper), ops[i]? = some o → L.getD i true = true := by
    intro L hL hr i o ho
    cases hc : L.getD i true with
    | true => rfl
    | false =>
      obtain ⟨j, hj⟩ := ready_some2 hok hL i (Array.getElem?_eq_some_iff.1 ho).1 hc
      rw [hr] at hj; cases hj
  intro fuel
  induction fuel with
  | zero =>
    intro γ L a w hu hL ha hG _ hv hU _
    have hr : Region.ready md ops L = [] := by
      apply List.eq_nil_iff_forall_not_mem.2
      intro j hj
      obtain ⟨hun, o, ho, _⟩ := mem_ready.1 hj
      have := unl_pos L ops.size j (Array.getElem?_eq_some_iff.1 ho).1 hun
      omega
    exact ⟨hr, fin γ a w ha hG (fun i o t ho ht => hv i o t ho (allL L hL hr i o ho) ht) (fun i o ho => hU i o ho (allL L hL hr i o ho))⟩
  | succ fuel ih =>
    intro γ L a w hu hL ha hG hcl hv hU hN
    refine ⟨fun hr => fin γ a w ha hG (fun i o t ho ht => hv i o t ho (allL L hL hr i o ho) ht) (fun i o ho => hU i o ho (allL L hL hr i o ho)), fun i hi => ?_⟩
    obtain ⟨hun, o, ho, hall⟩ := mem_ready.1 hi
    have hil : i < ops.size := (Array.getElem?_eq_some_iff.1 ho).1
    have up : ∀ k, k < ops.size → L.getD k false = true → L.getD k true = true := by
      intro k hk h
      have hkl : k < L.size := by omega
      simp [hkl] at h ⊢; exact h
    have hw : AllV (fun t v w => V t v γ w) a w (waits md ops o) := AllV.of (by
      intro t ht
      unfold waits at ht
      obtain ⟨e, he, hd⟩ := List.mem_filterMap.1 ht
      obtain ⟨he1, he2⟩ := List.mem_filter.1 he
      cases hj : ops[e.on]? with
      | none => rw [hj] at hd; cases hd
      | some p =>
        rw [hj] at hd
        exact hv e.on p t hj (up _ (Array.getElem?_eq_some_iff.1 hj).1 (hall e (by simpa using he1) he2)) hd)
    have hwU : AllU U γ w (waitsI md o) := by
      intro j hj
      have hj2 : j ∈ waitsI md o := by simpa using hj
      obtain ⟨e, he, rfl⟩ := List.mem_map.1 hj2
      obtain ⟨he1, he2⟩ := List.mem_filter.1 he
      have hlt := hok.before i o ho e (by simpa using he1) he2
      have hes : e.on < ops.size := by omega
      exact hU e.on _ (Array.getElem?_eq_getElem hes) (up _ hes (hall e (by simpa using he1) he2))
    refine wpOp_mono (fun a' w' h => ?_) (step i o ho γ a w ha hG hw hwU (hN i o ho hun) (fun j p hp ⟨e, he, hb, heq⟩ => hN j p hp (by
      cases hl : L.getD j true with
      | false => rfl
      | true => have := hcl j p hp hl e he hb; rw [heq, hun] at this; cases this)))
    obtain ⟨v, γ', rfl, hvi, hUi, hG', hst, hNst⟩ := h
    have notOn : ∀ (j : Nat) (p : Oper), ops[j]? = some p → L.getD j true = true → ∀ e ∈ p.after, Region.binds md e = true → e.on ≠ i := by
      intro j p hp hl e he hb heq
      have := hcl j p hp hl e he hb
      rw [heq, hun] at this; cases this
    refine ih γ' _ _ _ ?_ (by simpa using hL) ?_ hG' ?_ ?_ ?_ ?_
    · have := unl_set L i hun ops.size
      rw [if_pos hil] at this; omega
    · refine ⟨by rw [size_put]; exact ha.size, by rw [defers_put]; exact ha.defers, fun t ht => ?_⟩
      rw [Act.eval_put (fun d hd e => ht i o ho (by cases e; exact hd))]
      exact ha.same t ht
    · intro j p hp hl e he hb
      by_cases e1 : e.on = i
      · rw [e1]; exact set_self L i
      · rw [getD_set_ne true (Ne.symm e1)]
        by_cases e2 : j = i
        · subst e2
          rw [ho] at hp; cases hp
          have hlt := hok.before j o ho e he hb
          exact up _ (by omega) (hall e he hb)
        · rw [getD_set_ne true (Ne.symm e2)] at hl
          exact hcl j p hp hl e he hb
    · intro j p t hp hl ht
      by_cases e : j = i
      · subst e
        rw [ho] at hp; cases hp
        rw [ht, eval_put_same (by rw [ha.size]; exact hok.room j o t ho ht)]
        exact hvi t ht
      · rw [Act.eval_put (fun d hd e2 => by cases e2; exact hok.apart i j o p t ho hp e hd ht)]
        rw [getD_set_ne true (Ne.symm e)] at hl
        exact (hst j p hp e (notOn j p hp hl)).1 t _ ht (hv j p t hp hl ht)
    · intro j p hp hl
      by_cases e : j = i
      · subst e; exact hUi
      · rw [getD_set_ne true (Ne.symm e)] at hl
        exact (hst j p hp e (notOn j p hp hl)).2 (hU j p hp hl)
    · intro j p hp hl
      by_cases e : j = i
      · subst e; rw [set_self] at hl; cases hl
      · rw [getD_set_ne true (Ne.symm e)] at hl
        exact hNst j e (hN j p hp hl)

def OweAll3 (P : Program) (md : Region.Mode) (ops : Array Oper) (Q : Exit → Act → World → Prop) (V : Tmp → Value → Γ → World → Prop) (U N : Nat → Γ → World → Prop) (G : Γ → World → Prop) (a0 : Act) : Nat → List Oper → Prop
  | _, [] => True
  | k, o :: r => Owes3 P md ops Q V U N G a0 k o ∧ OweAll3 P md ops Q V U N G a0 (k + 1) r
theorem OweAll3.get : ∀ {l : List Oper} {k : Nat}, OweAll3 P md ops Q V U N G a0 k l → ∀ (i : Nat) (o : Oper), l[i]? = some o → Owes3 P md ops Q V U N G a0 (k + i) o
  | _ :: _, k, h, 0, o, hi => by cases hi; exact h.1
  | _ :: r, k, h, i + 1, o, hi => by
    have := OweAll3.get h.2 i o (by simpa using hi)
    rwa [show k + 1 + i = k + (i + 1) by omega] at this
  | [], _, _, i, o, hi => by simp at hi
theorem OweAll3.cons {k : Nat} {o : Oper} {r : List Oper} (h : Owes3 P md ops Q V U N G a0 k o) (h2 : OweAll3 P md ops Q V U N G a0 (k + 1) r) : OweAll3 P md ops Q V U N G a0 k (o :: r) := ⟨h, h2⟩
theorem OweAll3.nil {k : Nat} : OweAll3 P md ops Q V U N G a0 k [] := trivial

/-- A region that draws its order, with a ghost. -/
theorem wp_region_vals3 {id : Nat} {w : World} (γ0 : Γ) (V : Tmp → Value → Γ → World → Prop) (U N : Nat → Γ → World → Prop) (G : Γ → World → Prop) (n : Nat) (hm : P.follows .mixedOrders = true) (hok : drawOk2 .any ops n = true) (hn : a0.tmps.size = n) (hG : G γ0 w.drew) (hN0 : ∀ i, N i γ0 w.drew)
    (step : OweAll3 P .any ops Q V U N G a0 0 ops.toList)
    (fin : ∀ γ a w, Agree ops a0 a → G γ w → (∀ (i : Nat) (o : Oper) (t : Tmp), ops[i]? = some o → o.dst = some t → V t (a.eval (.tmp t)) γ w) → (∀ (i : Nat) (o : Oper), ops[i]? = some o → U i γ w) → Q .normal a w) : (Code.region id ops true).wp P Q a0 w := by
  subst hn
  have hok := drawOk2_spec hok
  have hrep : ∀ (i : Nat) (o : Oper), ops[i]? = some o → (Array.replicate ops.size false).getD i true = true → False := by
    intro i o ho hl
    have hlt := (Array.getElem?_eq_some_iff.1 ho).1
    simp [hlt] at hl
  refine wp_region_any hm (wpAny_vals3 hok (V := V) (U := U) (N := N) (G := G) (fun i o ho => ?_) fin ops.size γ0 _ a0 _ (unl_le _ _) (by simp) ⟨rfl, rfl, fun _ _ => rfl⟩ hG ?_ ?_ ?_ (fun i _ _ _ => hN0 i))
  · have := step.get i o (by simpa using ho)
    rwa [Nat.zero_add] at this
  · intro j p hp hl; exact (hrep j p hp hl).elim
  · intro j p t hp hl; exact (hrep j p hp hl).elim
  · intro j p hp hl; exact (hrep j p hp hl).elim
/-- .. what follows it at a known frame. -/
theorem wp_region_puts3 {id : Nat} {w : World} (γ0 : Γ) (V : Tmp → Value → Γ → World → Prop) (U N : Nat → Γ → World → Prop) (G : Γ → World → Prop) (n : Nat) (hm : P.follows .mixedOrders = true) (hok : drawOk2 .any ops n = true) (hn : a0.tmps.size = n) (hG : G γ0 w.drew) (hN0 : ∀ i, N i γ0 w.drew)
    (step : OweAll3 P .any ops Q V U N G a0 0 ops.toList)
    (fin : ∀ f γ w, G γ w → (∀ (i : Nat) (o : Oper) (t : Tmp), ops[i]? = some o → o.dst = some t → V t (f t) γ w) → (∀ (i : Nat) (o : Oper), ops[i]? = some o → U i γ w) → Q .normal (puts f (dsts ops) a0) w) : (Code.region id ops true).wp P Q a0 w :=
  wp_region_vals3 γ0 V U N G n hm hok hn hG hN0 step (fun γ a w ha hG hv hU => by
    subst hn
    rw [agree_puts2 ha (drawOk2_spec hok).room]
    exact fin _ γ w hG hv hU)
end

/-! A region whose last work is one store: until then nothing old is turned. -/
section
variable {P : Program} {ops : Array Oper} {Q : Exit → Act → World → Prop} {md : Region.Mode} {K : Tmp → Kd} {ks : Nat} {W : World} {R : World → Prop} {a0 : Act}
def VS (K : Tmp → Kd) (t : Tmp) (v : Value) (γ : Bool) (w : World) : Prop := γ = true ∨ Val (K t) v w
def US (ks : Nat) (j : Nat) (γ : Bool) (_ : World) : Prop := j = ks → γ = true
def NS (ks : Nat) (j : Nat) (γ : Bool) (_ : World) : Prop := j = ks → γ = false
structure GS (W : World) (R : World → Prop) (γ : Bool) (w : World) : Prop where
  no : γ = false → Below W.heap.size W w
  yes : γ = true → R w
theorem AllV.plain {K : Tmp → Kd} {a : Act} {w : World} : ∀ {l : List Tmp}, AllV (fun t v w => VS K t v false w) a w l → AllV (fun t v w => Val (K t) v w) a w l
  | [], _ => trivial
  | _ :: _, h => ⟨h.1.resolve_left (by simp), AllV.plain h.2⟩
theorem owes3_val {i : Nat} {o o' : Oper} {t : Tmp} (hi : ops[i]? = some o) (ht : o.dst = some t) (hks : ops[ks]? = some o') (hne : i ≠ ks) (hwait : ∃ e ∈ o'.after, Region.binds md e = true ∧ e.on = i)
    (h : ∀ a w, Agree ops a0 a → Below W.heap.size W w → AllV (fun t v w => Val (K t) v w) a w (waits md ops o) →
    ∃ v, Region.wanted o (yielded ops a.tmps) = true ∧ (execOp a.eval o).run P w = .ok (.value v) w ∧ Val (K t) v w) : Owes3 P md ops Q (VS K) (US ks) (NS ks) (GS W R) a0 i o := by
  intro γ a w ha hG hV _ _ hN
  obtain rfl : γ = false := hN ks o' hks hwait rfl
  obtain ⟨v, hw, hr, hv⟩ := h a w ha (hG.no rfl) (AllV.plain hV)
  unfold wpOp
  rw [hi]
  simp only [hw, if_true, Oper.wp, hr, Oper.upon]
  exact .inl ⟨v, false, rfl, fun u hu => by rw [ht] at hu; cases hu; exact .inr hv, fun e => absurd e hne, hG, fun _ _ _ _ _ => ⟨fun _ _ _ h => h, fun h => h⟩, fun _ _ h => h⟩
theorem owes3_call {i : Nat} {o o' : Oper} {t : Tmp} (hi : ops[i]? = some o) (ht : o.dst = some t) (f : FuncId) (hks : ops[ks]? = some o') (hne : i ≠ ks) (hwait : ∃ e ∈ o'.after, Region.binds md e = true ∧ e.on = i)
    (h : ∀ a w, Agree ops a0 a → Below W.heap.size W w → AllV (fun t v w => Val (K t) v w) a w (waits md ops o) →
    ∃ args, Region.wanted o (yielded ops a.tmps) = true ∧ (execOp a.eval o).run P w = .ok (.enter f args) w ∧
      Calls P f args w fun e w' => ∃ v, e = .returned v ∧ Val (K t) v w' ∧ Below w.heap.size w w') : Owes3 P md ops Q (VS K) (US ks) (NS ks) (GS W R) a0 i o := by
  intro γ a w ha hG hV _ _ hN
  obtain rfl : γ = false := hN ks o' hks hwait rfl
  have hb0 := hG.no rfl
  obtain ⟨args, hw, hr, hc⟩ := h a w ha hb0 (AllV.plain hV)
  unfold wpOp
  rw [hi]
  simp only [hw, if_true, Oper.wp, hr, Oper.upon]
  refine .inl (hc.mono ?_)
  rintro e w' ⟨v, rfl, h1, hb⟩
  exact ⟨v, false, rfl, fun u hu => by rw [ht] at hu; cases hu; exact .inr h1, fun e => absurd e hne, ⟨fun _ => hb0.trans (hb.mono hb0.size), fun e => by cases e⟩, fun _ _ _ _ _ => ⟨fun _ _ _ h => h.imp id (fun h => Val.old h hb), fun h => h⟩, fun _ _ h => h⟩
theorem owes3_store {o : Oper} (hi : ops[ks]? = some o) (ht : o.dst = none) (hg : o.guard = none) (h : ∀ a w, Agree ops a0 a → Below W.heap.size W w → AllV (fun t v w => Val (K t) v w) a w (waits md ops o) →
    ∃ w', (execOp a.eval o).run P w = .ok .skip w' ∧ R w') : Owes3 P md ops Q (VS K) (US ks) (NS ks) (GS W R) a0 ks o := by
  intro γ a w ha hG hV _ hN _
  obtain rfl : γ = false := hN rfl
  obtain ⟨w', hr, hR⟩ := h a w ha (hG.no rfl) (AllV.plain hV)
  unfold wpOp
  rw [hi]
  simp only [wanted_free hg, if_true, Oper.wp, hr, Oper.upon]
  have hv0 : ∀ t, o.dst = some t → VS K t undef true w' := by intro t e; rw [ht] at e; cases e
  refine .inl ⟨undef, true, rfl, hv0, fun _ => rfl, ⟨fun e => (by cases e), fun _ => hR⟩, fun _ _ _ _ _ => ⟨fun _ _ _ _ => .inl rfl, fun _ _ => rfl⟩, fun j hj _ e => absurd e hj⟩
/-- The region: behind it the store has been. -/
theorem wp_region_last {id : Nat} {w : World} {o' : Oper} (K : Tmp → Kd) (ks : Nat) (R : World → Prop) (n : Nat) (hm : P.follows .mixedOrders = true) (hok : drawOk2 .any ops n = true) (hn : a0.tmps.size = n) (hW : Below W.heap.size W w.drew) (hks : ops[ks]? = some o')
    (step : OweAll3 P .any ops Q (VS K) (US ks) (NS ks) (GS W R) a0 0 ops.toList) (fin : ∀ f w, R w → Q .normal (puts f (dsts ops) a0) w) : (Code.region id ops true).wp P Q a0 w :=
  wp_region_puts3 false (VS K) (US ks) (NS ks) (GS W R) n hm hok hn ⟨fun _ => hW, fun e => by cases e⟩ (fun _ _ => rfl) step
    (fun f _ w hG _ hU => fin f w (hG.yes (hU ks o' hks rfl)))
end
end Go.Proofs.YtdahkemeoefndaaDoor.NN

namespace Go.Proofs.YtdahkemeoefndaaDoor.NN
open Go.RowKit

/-- The slice holds the steps. -/
def StepsAt (w : World) (ao : Option Addr) (L : List (Nat × Int)) : Prop :=
  ∀ j (h : j < L.length), ∃ bs off, ao = some ⟨bs, off, none⟩ ∧ bs < w.heap.size ∧ w.cell? ⟨bs, off + j * 2, none⟩ = some (.int .u64 ((L[j].1 : Nat) : Int)) ∧ w.cell? ⟨bs, off + j * 2 + 1, none⟩ = some (.int .i64 L[j].2)
theorem StepsAt.old {w w' : World} {ao : Option Addr} {L : List (Nat × Int)} (h : StepsAt w ao L) (hb : Below w.heap.size w w') : StepsAt w' ao L := by
  intro j hj
  obtain ⟨bs, off, e, hlt, c1, c2⟩ := h j hj
  exact ⟨bs, off, e, Nat.lt_of_lt_of_le hlt hb.size, (hb.cell (p := ⟨bs, off + j * 2, none⟩) hlt).trans c1, (hb.cell (p := ⟨bs, off + j * 2 + 1, none⟩) hlt).trans c2⟩
theorem StepsAt.take {w : World} {ao : Option Addr} {L : List (Nat × Int)} (h : StepsAt w ao L) (n : Nat) : StepsAt w ao (L.take n) := by
  intro j hj
  have hj2 : j < L.length := by rw [List.length_take] at hj; omega
  obtain ⟨bs, off, e, hlt, c1, c2⟩ := h j hj2
  refine ⟨bs, off, e, hlt, ?_, ?_⟩ <;> rw [List.getElem_take] <;> assumption
/-- Each step's numbers are of their kinds. -/
def StepsOk (L : List (Nat × Int)) : Prop := ∀ s ∈ L, s.1 < 18446744073709551616 ∧ -9223372036854775808 ≤ s.2 ∧ s.2 ≤ 9223372036854775807
/-- A weight and steps. -/
def gsum (x : Nat) (L : List (Nat × Int)) : Nat := L.foldl (fun a s => a + gw s.1 s.2) x
theorem gsum_take (x : Nat) (L : List (Nat × Int)) (i : Nat) (hi : i < L.length) : gsum x (L.take (i + 1)) = gsum x (L.take i) + gw L[i].1 L[i].2 := by
  unfold gsum
  rw [← List.take_append_getElem hi, List.foldl_append]; rfl

/-- A box is no row of numbers. -/
theorem Boxed.apart {w : World} {B : Nat} {T T' : TypeId} {v : Value} {k : IntKind} {q : Option Addr} {c : Nat} {A : List Nat} (h : Boxed w B T v) (hs : Sl k T' w q c A) (hT : T ≠ T') : ∀ a, q = some a → a.block ≠ B := by
  rintro a rfl rfl
  rcases hs.shape with ⟨e, _⟩ | ⟨g, e, _, _, _, cur, hh, _⟩
  · cases e
  · cases e
    have h2 : w.heap[g]? = _ := h
    rw [hh] at h2
    cases h2
    exact hT rfl
/-- While the steps are added: i are. -/
structure SumR (w : World) (B x n : Nat) (L : List (Nat × Int)) (i y ny : Nat) (q : Option Addr) (c : Nat) (wr : World) : Prop where
  val : y = gsum x (L.take i)
  len : ny = (lb y).length
  nyb : ny ≤ n + 10 * i
  s : NatIn wr q c y
  kb : Boxed wr B 26 (.slice q ny c)
  kr : Boxed wr (w.heap.size + 1) 26 (.slice none 0 0)
  m : Below w.heap.size w wr
  hB : w.heap.size + 1 < B

theorem SumR.next {w : World} {B x n : Nat} {L : List (Nat × Int)} {i y ny : Nat} {q : Option Addr} {c : Nat} {wr W w1 : World} (h : SumR w B x n L i y ny q c wr) (hW : Below wr.heap.size wr W) (hi : i < L.length) (y2 : Nat) (hy : y2 = y + gw L[i].1 L[i].2) (hg : (lb (gw L[i].1 L[i].2)).length ≤ 9)
    {q2 : Option Addr} {c2 : Nat} (hb : Below W.heap.size W w1) (hN : NatIn w1 q2 c2 y2) : SumR w B x n L (i + 1) y2 (lb y2).length q2 c2 (w1.setCell ⟨B, 0, none⟩ (.slice q2 (lb y2).length c2)) := by
  have hb2 : Below wr.heap.size wr w1 := hW.trans (hb.mono hW.size)
  have k2 := Boxed.below' h.kb hb2 h.kb.lt
  have hm : Mod (· = B) w1 (w1.setCell ⟨B, 0, none⟩ (.slice q2 (lb y2).length c2)) := (Mod.refl (· = B) w1).setCell (p := ⟨B, 0, none⟩) (fun _ => rfl) _
  have hB := h.hB
  refine ⟨?_, rfl, ?_, hN.kept hm (Boxed.apart k2 hN (by decide)), k2.set _, Boxed.mod' (Boxed.below' h.kr hb2 h.kr.lt) hm (by omega), (h.m.trans (hb2.mono h.m.size)).setCell (p := ⟨B, 0, none⟩) (by show w.heap.size ≤ B; omega) _, hB⟩
  · rw [gsum_take x L i hi, ← h.val, hy]
  · have h1 := lb_add y (gw L[i].1 L[i].2)
    rw [← hy] at h1
    have := h.len; have := h.nyb; omega

set_option maxRecDepth 20000 in
set_option maxHeartbeats 8000000 in
theorem sum_any (p : Option Addr) (cp x : Nat) (ao : Option Addr) (cap : Nat) (L : List (Nat × Int)) (w : World) (hx : NatIn w p cp x) (hS : StepsAt w ao L) (hL : L.length ≤ 12) (hok : StepsOk L) (lx : (lb x).length ≤ 1000) :
    Calls Tryd.prog 5 #[.agg #[.slice p (lb x).length cp], .slice ao L.length cap] w fun r w' => ∃ q c, r = .returned (.agg #[.slice q (lb (gsum x L)).length c]) ∧ NatIn w' q c (gsum x L) ∧ Below w.heap.size w w' := by
  obtain ⟨n, hn⟩ : ∃ n, L.length = n := ⟨_, rfl⟩
  rw [hn] at hL ⊢
  have Hn := Lib.hid hn
  have Hok := Lib.hid hok
  have hz0 : NatIn (((w.alloc (.cells #[.slice p (lb x).length cp] 26)).alloc (.cells #[.slice none 0 0] 26))) none 0 0 := by show Sl _ _ _ _ _ (lb 0); rw [lb_zero]; exact Sl.empty _ _ _
  have hB : Below w.heap.size w ((w.alloc (.cells #[.slice p (lb x).length cp] 26)).alloc (.cells #[.slice none 0 0] 26)) := ((Below.refl _ _).alloc (Nat.le_refl _) _).alloc (by simp) _
  have kr : Boxed ((w.alloc (.cells #[.slice p (lb x).length cp] 26)).alloc (.cells #[.slice none 0 0] 26)) (w.heap.size + 1) 26 (.slice none 0 0) := by
    have := Boxed.new (w.alloc (.cells #[.slice p (lb x).length cp] 26)) 26 (.slice none 0 0)
    rwa [World.size_alloc] at this
  have hx2 := hx.old hB
  have hadd := add_any p none cp 0 x 0 _ hx2 hz0 (by omega) (by rw [lb_zero]; exact Nat.zero_le _)
  rw [Nat.add_zero, show (lb 0).length = 0 by rw [lb_zero]; rfl] at hadd
  have HS := Lib.hid hS
  clear hn hok hx hz0 hx2 hS
  go_enter Tryd.func5, Tryd.ntmps5
  go_wp2_with fail
  refine hadd.mono ?_
  clear hadd
  rintro r w2 ⟨q, c, rfl, nx, hb, -⟩
  obtain ⟨nl, hnl⟩ : ∃ nl, nl = (lb x).length := ⟨_, rfl⟩
  have hR0 : SumR w w2.heap.size x nl L 0 x nl q c (w2.alloc (.cells #[.slice q nl c] 26)) := by
    have hs2 := hb.size
    have hs3 := hB.size
    have hlt := (Boxed.below' kr hb kr.lt).lt
    refine ⟨by simp [gsum], hnl, by omega, nx.alloc _, Boxed.new _ _ _, (Boxed.below' kr hb kr.lt).alloc _, (hB.trans (hb.mono hB.size)).alloc (by omega) _, by omega⟩
  rw [← hnl]
  have lnl : nl ≤ 1000 := by omega
  clear hB kr nx hb hnl
  go_upto_block 0 with fail
  generalize (w2.alloc (.cells #[.slice q nl c] 26)) = W0 at hR0 ⊢
  generalize w2.heap.size = B at hR0 ⊢
  go_wp2_with fail
  go_loopw [13] (fun s13 wr => ∃ (i y ny : Nat) (q : Option Addr) (c : Nat), i ≤ n ∧ s13 = .int .i64 (i : Int) ∧ SumR w B x nl L i y ny q c wr) (fun i _ => n - (intOf i).toNat)
  case atStart => exact ⟨0, x, nl, q, c, by omega, rfl, hR0⟩
  case round =>
    clear hR0
    obtain ⟨i, y, ny, q, c, hi, rfl, hR⟩ := hrel
    by_cases hin : i < n
    · have hil : i < L.length := by rw [Hn.out]; exact hin
      obtain ⟨bs, off, rfl, hbs, c1, c2⟩ := (HS.out.old hR.m) i hil
      obtain ⟨p1, hp1⟩ : ∃ z, z = L[i].1 := ⟨_, rfl⟩
      obtain ⟨w1, hw1⟩ : ∃ z, z = L[i].2 := ⟨_, rfl⟩
      have ho := Hok.out L[i] (List.getElem_mem hil)
      rw [← hp1, ← hw1] at ho
      rw [← hp1] at c1
      rw [← hw1] at c2
      have i1 : (i : Int) < n := by omega
      have i0 : (0 : Int) ≤ i := by omega
      have hnyb : ny ≤ 1200 := by have := hR.nyb; omega
      obtain ⟨g, hg⟩ : ∃ g, g = gw p1 w1 := ⟨_, rfl⟩
      have lg9 : (lb g).length ≤ 9 := by
        rw [hg]
        have h1 := lg_le p1 ho.1
        have h2 : lg p1 * w1.toNat ≤ 16384 * 9223372036854775807 := Nat.mul_le_mul h1 (by omega)
        have h3 : gw p1 w1 ≤ 16384 + 16384 * 9223372036854775807 := by
          unfold gw
          have := Nat.div_le_self (lg p1 * w1.toNat) 10
          omega
        exact Nat.le_trans (dg_len_le _ (by decide) _ 4 (Nat.lt_of_le_of_lt h3 (by decide))) (by decide)
      have hgo := fun w => gof_any p1 w1 w (Lib.hid ho.1) (Lib.hid ho.2.2)
      rw [← hg] at hgo
      have Hgo := Lib.hid hgo
      have hnext := fun W u1 h1 q2 c2 h2 h3 => hR.next (W := W) (w1 := u1) h1 hil (y + g) (by rw [hg, hp1, hw1]) (by rw [← hp1, ← hw1, ← hg]; exact lg9) (q2 := q2) (c2 := c2) h2 h3
      have Hnext := Lib.hid hnext
      have kb := hR.kb
      have nq := hR.s
      have hlen := hR.len
      clear hgo hnext hg ho hp1 hw1 hR
      go_upto_region 5 with fail
      obtain ⟨W, hW⟩ : ∃ W, W = wr.alloc (.cells #[.int .u64 (p1 : Int), .int .i64 w1] 32) := ⟨_, rfl⟩
      have hbW : Below wr.heap.size wr W := by rw [hW]; exact (Below.refl _ _).alloc (Nat.le_refl _) _
      have hSl : wr.heap.size < W.heap.size := by rw [hW]; simp
      have hrow : W.heap[wr.heap.size]? = some (.cells #[.int .u64 (p1 : Int), .int .i64 w1] 32 (0, 0)) := by rw [hW]; exact heap_alloc_new _ _
      have cS0 : W.cell? ⟨wr.heap.size, 0, none⟩ = some (.int .u64 (p1 : Int)) := by rw [cell_of_row W wr.heap.size 0 _ 32 (0, 0) hrow]; rfl
      have cS1 : W.cell? ⟨wr.heap.size, 1, none⟩ = some (.int .i64 w1) := by rw [cell_of_row W wr.heap.size 1 _ 32 (0, 0) hrow]; rfl
      rw [← hW]
      have kbW := Boxed.below' kb hbW kb.lt
      have nqW := nq.old hbW
      rw [hlen] at kbW
      have Hnx := Lib.hid (Hnext.out W · hbW)
      have lyb : (lb y).length ≤ 100000 := by rw [← hlen]; omega
      clear hW hrow kb nq Hnext
      generalize wr.heap.size = S at *
      refine wp_region_last (W := W) (fun t => match t with
        | 17 => .nat y
        | 18 => .eq (.pointer (some ⟨S, 0, none⟩))
        | 19 => .eq (.int .u64 (p1 : Int))
        | 20 => .eq (.pointer (some ⟨S, 1, none⟩))
        | 21 => .eq (.int .i64 w1)
        | 22 => .nat g
        | 23 => .nat (y + g)
        | _ => .any) 7 (fun w' => ∃ u1 q2 c2, Below W.heap.size W u1 ∧ NatIn u1 q2 c2 (y + g) ∧ w' = u1.setCell ⟨B, 0, none⟩ (.slice q2 (lb (y + g)).length c2)) 26 (by kernel_rfl) (by decide +kernel) rfl (Below.refl _ _).drew rfl (by
        refine OweAll3.cons (owes3_val rfl rfl rfl (by decide) ⟨⟨0, .phase⟩, by simp, rfl, rfl⟩ fun a u1 ha hG hV => ?_) ?_
        · skip
          have h5 := ha.outer 5 (by decide +kernel)
          simp only [Act.eval] at h5
          have c5 := (Boxed.below' kbW hG kbW.lt).cell
          exact ⟨.agg #[.slice q (lb y).length c], wanted_free rfl, by simp [execOp, go_sem, h5, c5], ⟨_, _, rfl, nqW.old hG⟩⟩
        refine OweAll3.cons (owes3_val rfl rfl rfl (by decide) ⟨⟨1, .phase⟩, by simp, rfl, rfl⟩ fun a u1 ha hG hV => ?_) ?_
        · skip
          have h7 := ha.outer 7 (by decide +kernel)
          simp only [Act.eval] at h7
          exact ⟨.pointer (some ⟨S, 0, none⟩), wanted_free rfl, by simp [execOp, go_sem, h7], rfl⟩
        refine OweAll3.cons (owes3_val rfl rfl rfl (by decide) ⟨⟨2, .phase⟩, by simp, rfl, rfl⟩ fun a u1 ha hG hV => ?_) ?_
        · skip
          have h18 : a.tmps.getD 18 undef = .pointer (some ⟨S, 0, none⟩) := hV.get 18 (by decide +kernel)
          have cc := (hG.cell (p := ⟨S, 0, none⟩) hSl).trans cS0
          exact ⟨.int .u64 (p1 : Int), wanted_free rfl, by simp [execOp, go_sem, h18, cc], rfl⟩
        refine OweAll3.cons (owes3_val rfl rfl rfl (by decide) ⟨⟨3, .phase⟩, by simp, rfl, rfl⟩ fun a u1 ha hG hV => ?_) ?_
        · skip
          have h7 := ha.outer 7 (by decide +kernel)
          simp only [Act.eval] at h7
          exact ⟨.pointer (some ⟨S, 1, none⟩), wanted_free rfl, by simp [execOp, go_sem, h7], rfl⟩
        refine OweAll3.cons (owes3_val rfl rfl rfl (by decide) ⟨⟨4, .phase⟩, by simp, rfl, rfl⟩ fun a u1 ha hG hV => ?_) ?_
        · skip
          have h20 : a.tmps.getD 20 undef = .pointer (some ⟨S, 1, none⟩) := hV.get 20 (by decide +kernel)
          have cc := (hG.cell (p := ⟨S, 1, none⟩) hSl).trans cS1
          exact ⟨.int .i64 w1, wanted_free rfl, by simp [execOp, go_sem, h20, cc], rfl⟩
        refine OweAll3.cons (owes3_call rfl rfl 7 rfl (by decide) ⟨⟨5, .phase⟩, by simp, rfl, rfl⟩ fun a u1 ha hG hV => ?_) ?_
        · skip
          have h19 : a.tmps.getD 19 undef = .int .u64 (p1 : Int) := hV.get 19 (by decide +kernel)
          have h21 : a.tmps.getD 21 undef = .int .i64 w1 := hV.get 21 (by decide +kernel)
          refine ⟨#[.int .u64 (p1 : Int), .int .i64 w1], wanted_free rfl, by simp [execOp, resolve, invoke, go_sem, h19, h21], ?_⟩
          refine (Hgo.out u1).mono ?_
          rintro r u2 ⟨qr, cr, rfl, hN, hb, -⟩; exact ⟨_, rfl, ⟨qr, cr, rfl, hN⟩, hb⟩
        refine OweAll3.cons (owes3_call rfl rfl 8 rfl (by decide) ⟨⟨6, .phase⟩, by simp, rfl, rfl⟩ fun a u1 ha hG hV => ?_) ?_
        · skip
          obtain ⟨q17, c17, h17, n17⟩ : NV y (a.tmps.getD 17 undef) u1 := hV.get 17 (by decide +kernel)
          obtain ⟨q22, c22, h22, n22⟩ : NV g (a.tmps.getD 22 undef) u1 := hV.get 22 (by decide +kernel)
          refine ⟨#[.agg #[.slice q17 (lb y).length c17], .agg #[.slice q22 (lb g).length c22]], wanted_free rfl, by simp [execOp, resolve, invoke, go_sem, h17, h22], ?_⟩
          refine (add_any q17 q22 c17 c22 y g u1 n17 n22 (by omega) (by omega)).mono ?_
          rintro r u2 ⟨qr, cr, rfl, hN, hb, -⟩; exact ⟨_, rfl, ⟨qr, cr, rfl, hN⟩, hb⟩
        refine OweAll3.cons (owes3_store rfl rfl rfl fun a u1 ha hG hV => ?_) ?_
        · skip
          have h5 := ha.outer 5 (by decide +kernel)
          simp only [Act.eval] at h5
          obtain ⟨q23, c23, h23, n23⟩ : NV (y + g) (a.tmps.getD 23 undef) u1 := hV.get 23 (by decide +kernel)
          have k5 := Boxed.below' kbW hG kbW.lt
          have c5 := k5.cell
          have f5 := k5.frozen
          exact ⟨_, by simp [execOp, go_sem, h5, h23, c5, f5], u1, q23, c23, hG, n23, rfl⟩
        exact OweAll3.nil) ?_
      rintro f w' ⟨u1, q2, c2, hb1, hN2, rfl⟩
      rename_i hK
      refine hK _ _ ?_
      clear hK
      have hR2 := Hnx.out u1 q2 c2 hb1 hN2
      clear hb1 hN2 Hnx kbW nqW hbW cS0 cS1 hSl
      simp only [dsts, puts, List.filterMap_cons, List.filterMap_nil, List.foldl_cons, List.foldl_nil, Act.put, List.setIfInBounds_toArray, List.set_cons_succ, List.set_cons_zero]
      go_wp2_with fail
      go_roundw
      case rel => exact ⟨i + 1, y + g, _, q2, c2, by omega, by go_num, hR2⟩
      case measure => simp [intOf]; omega
    · obtain rfl : i = n := by omega
      have hv := hR.val
      rw [List.take_of_length_le (by rw [Hn.out]; exact Nat.le_refl _)] at hv
      subst hv
      have hlen := Lib.hid hR.len
      have cB := hR.kb.cell
      have kr2 := hR.kr
      have crr := kr2.cell
      have frr := kr2.frozen
      have hap := Boxed.apart kr2 hR.s (by decide)
      have hN := hR.s
      have hm := hR.m
      clear hR
      go_wp2_with fail
      have c7 := (kr2.set (.slice q ny c)).cell
      refine bodyPost_ret (v := .agg #[.slice q ny c]) (by simp [results, Tryd.results5, go_sem, c7]) rfl ⟨q, c, by rw [hlen.out], ?_, ?_⟩
      · exact hN.other ⟨w.heap.size + 1, 0, none⟩ _ (fun a e => hap a e)
      · exact hm.setCell (p := ⟨w.heap.size + 1, 0, none⟩) (by show w.heap.size ≤ w.heap.size + 1; omega) _
end Go.Proofs.YtdahkemeoefndaaDoor.NN

namespace Go.Proofs.YtdahkemeoefndaaDoor.NN
open Go.RowKit

theorem gsum_ge (x : Nat) (L : List (Nat × Int)) : x ≤ gsum x L := by
  unfold gsum
  induction L generalizing x with
  | nil => exact Nat.le_refl _
  | cons s L ih => rw [List.foldl_cons]; exact Nat.le_trans (Nat.le_add_right _ _) (ih _)
theorem gw_small (p : Nat) (wins : Int) (hp : p < 18446744073709551616) (hw : wins ≤ 9223372036854775807) : gw p wins < 10 ^ 30 := by
  have h1 := lg_le p hp
  have h2 : lg p * wins.toNat ≤ 16384 * 9223372036854775807 := Nat.mul_le_mul h1 (by omega)
  have h3 : gw p wins ≤ 16384 + 16384 * 9223372036854775807 := by
    unfold gw
    have := Nat.div_le_self (lg p * wins.toNat) 10
    omega
  exact Nat.lt_of_le_of_lt h3 (by decide)
theorem gsum_le (x : Nat) (L : List (Nat × Int)) (h : StepsOk L) : gsum x L ≤ x + L.length * 10 ^ 30 := by
  unfold gsum
  induction L generalizing x with
  | nil => simp
  | cons s L ih =>
    have h1 := h s (by simp)
    have h2 := gw_small s.1 s.2 h1.1 h1.2.2
    have := ih (x + gw s.1 s.2) (fun t ht => h t (by simp [ht]))
    rw [List.foldl_cons, List.length_cons, Nat.add_mul]
    generalize 10 ^ 30 = P at *
    omega
theorem gsum_lt (x : Nat) (L : List (Nat × Int)) (h : StepsOk L) (hx : x < 18446744073709551616) (hl : L.length ≤ 12) : gsum x L < 10 ^ 40 := by
  have h1 := gsum_le x L h
  have h2 : L.length * 10 ^ 30 ≤ 12 * 10 ^ 30 := Nat.mul_le_mul_right _ hl
  have h3 : 18446744073709551616 + 12 * 10 ^ 30 < 10 ^ 40 := by decide
  omega
theorem StepsOk.take {L : List (Nat × Int)} (h : StepsOk L) (n : Nat) : StepsOk (L.take n) := fun s hs => h s (List.mem_of_mem_take hs)

end Go.Proofs.YtdahkemeoefndaaDoor.NN

namespace Go.Proofs.YtdahkemeoefndaaDoor
open Go.RowKit

/-- How an element lies in memory: k cells. -/
structure Enc (α : Type) where
  f : α → List Value
  k : Nat
  len : ∀ x, (f x).length = k
  one : ∀ x, ∀ v ∈ f x, v.oneCell' = true
  pos : 0 < k

section
variable {α : Type} (E : Enc α)
def Enc.all (L : List α) : List Value := L.flatMap E.f
theorem Enc.all_nil : E.all [] = [] := rfl
theorem Enc.all_app (A B : List α) : E.all (A ++ B) = E.all A ++ E.all B := by simp [Enc.all]
theorem Enc.all_len (L : List α) : (E.all L).length = L.length * E.k := by
  induction L with
  | nil => simp [Enc.all]
  | cons x l ih => rw [show x :: l = [x] ++ l from rfl, E.all_app, List.length_append, ih]; simp [Enc.all, E.len, Nat.add_mul]; omega
theorem Enc.all_one (L : List α) : ∀ v ∈ E.all L, v.oneCell' = true := by
  intro v hv
  obtain ⟨x, _, h⟩ := List.mem_flatMap.1 hv
  exact E.one x v h
theorem Enc.all_get (L : List α) (j i : Nat) (hj : j < L.length) (hi : i < E.k) : (E.all L)[j * E.k + i]? = (E.f L[j])[i]? := by
  induction L generalizing j with
  | nil => simp at hj
  | cons x l ih =>
    rw [show E.all (x :: l) = E.f x ++ E.all l by simp [Enc.all]]
    cases j with
    | zero => rw [Nat.zero_mul, Nat.zero_add, List.getElem?_append_left (by rw [E.len]; exact hi)]; rfl
    | succ j =>
      rw [List.getElem?_append_right (by rw [E.len, Nat.add_mul]; omega), E.len, show (j + 1) * E.k + i - E.k = j * E.k + i by rw [Nat.add_mul]; omega, ih j (by simpa using hj)]
      rfl

/-- The slice at p holds L from its block's head on; nil holds none. -/
def Rw (T : TypeId) (w : World) (p : Option Addr) (cap : Nat) (L : List α) : Prop := w.ownsRow 0 T E.k (.slice p L.length cap) L.length (E.all L)
/-- L is read at ao. -/
def Rd (w : World) (ao : Option Addr) (L : List α) : Prop :=
  ∀ j (h : j < L.length), ∃ bs off, ao = some ⟨bs, off, none⟩ ∧ bs < w.heap.size ∧ ∀ i u, (E.f L[j])[i]? = some u → w.cell? ⟨bs, off + j * E.k + i, none⟩ = some u

variable {E}
theorem Rd.old {w w' : World} {ao : Option Addr} {L : List α} (h : Rd E w ao L) (hb : Below w.heap.size w w') : Rd E w' ao L := by
  intro j hj
  obtain ⟨bs, off, e, hlt, hc⟩ := h j hj
  exact ⟨bs, off, e, Nat.lt_of_lt_of_le hlt hb.size, fun i u hu => (World.cell?_of_block (hb.block bs hlt)).trans (hc i u hu)⟩
theorem Rd.nil (w : World) (ao : Option Addr) : Rd E w ao [] := fun j hj => by simp at hj
theorem Rd.take {w : World} {ao : Option Addr} {L : List α} (h : Rd E w ao L) (n : Nat) : Rd E w ao (L.take n) := by
  intro j hj
  have hj2 : j < L.length := by rw [List.length_take] at hj; omega
  obtain ⟨bs, off, e, hlt, c1⟩ := h j hj2
  refine ⟨bs, off, e, hlt, ?_⟩
  rw [List.getElem_take]; exact c1
theorem Rw.shape {T : TypeId} {w : World} {p : Option Addr} {cap : Nat} {L : List α} (h : Rw E T w p cap L) :
    (p = none ∧ L = [] ∧ cap = 0) ∨ ∃ g, p = some ⟨g, 0, none⟩ ∧ g < w.heap.size ∧ L.length ≤ cap ∧ cap ≤ maxLen ∧ ∃ cur : Array Value, w.heap[g]? = some (.cells cur T (0, 0)) ∧ cur.size = cap * E.k ∧ cur.toList.take (L.length * E.k) = E.all L := by
  rcases h.2 with ⟨e, h0⟩ | ⟨g, cap', cur, e, _, hh, h1, h2, h3, h4⟩
  · simp only [Value.slice.injEq] at e
    exact .inl ⟨e.1, List.eq_nil_of_length_eq_zero h0, e.2.2⟩
  · simp only [Value.slice.injEq] at e
    obtain ⟨rfl, _, rfl⟩ := e
    exact .inr ⟨g, rfl, (Array.getElem?_eq_some_iff.1 hh).1, h1, h2, cur, hh, h3, h4⟩
theorem Rw.of_row {T : TypeId} {w : World} {g cap : Nat} {L : List α} {cur : Array Value} (hh : w.heap[g]? = some (.cells cur T (0, 0))) (h1 : L.length ≤ cap) (h2 : cap ≤ maxLen) (h3 : cur.size = cap * E.k) (h4 : cur.toList.take (L.length * E.k) = E.all L) :
    Rw E T w (some ⟨g, 0, none⟩) cap L := ⟨by rw [E.all_len], .inr ⟨g, cap, cur, rfl, Nat.zero_le _, hh, h1, h2, h3, h4⟩⟩
theorem Rw.empty (T : TypeId) (w : World) : Rw E T w none 0 ([] : List α) := World.ownsRow_nil _ _ _ _
theorem Rw.cap_le {T : TypeId} {w : World} {p : Option Addr} {cap : Nat} {L : List α} (h : Rw E T w p cap L) : L.length ≤ cap := by
  rcases h.shape with ⟨_, rfl, _⟩ | ⟨g, _, _, hc, _⟩
  · exact Nat.zero_le _
  · exact hc
theorem Rw.made (T : TypeId) (w : World) (L : List α) (hl : L.length ≤ maxLen) : Rw E T (w.alloc (.cells (E.all L).toArray T)) (some ⟨w.heap.size, 0, none⟩) L.length L :=
  Rw.of_row (heap_alloc_new _ _) (Nat.le_refl _) hl (by rw [List.size_toArray, E.all_len]) (by rw [List.take_of_length_le (by simp [E.all_len])])
theorem Rw.lt {T : TypeId} {w : World} {a : Addr} {cap : Nat} {L : List α} (h : Rw E T w (some a) cap L) : a.block < w.heap.size := by
  rcases h.shape with ⟨e, _⟩ | ⟨g, e, hl, _⟩
  · cases e
  · cases e; exact hl
theorem Rw.kept {T : TypeId} {w w' : World} {p : Option Addr} {cap : Nat} {L : List α} {S : Nat → Prop} (h : Rw E T w p cap L) (hm : Mod S w w') (hp : ∀ a, p = some a → ¬ S a.block) : Rw E T w' p cap L := by
  rcases h.shape with ⟨rfl, rfl, rfl⟩ | ⟨g, rfl, hl, h1, h2, cur, hh, h3, h4⟩
  · exact Rw.empty _ _
  · exact Rw.of_row ((hm.block g hl (hp _ rfl)).trans hh) h1 h2 h3 h4
theorem Rw.old {T : TypeId} {w w' : World} {p : Option Addr} {cap : Nat} {L : List α} (h : Rw E T w p cap L) (hb : Below w.heap.size w w') : Rw E T w' p cap L :=
  h.kept (Mod.of_below hb) (fun a e hs => by subst e; exact Nat.lt_irrefl _ (Nat.lt_of_lt_of_le h.lt hs))
theorem Rw.rd {T : TypeId} {w : World} {p : Option Addr} {cap : Nat} {L : List α} (h : Rw E T w p cap L) : Rd E w p L := by
  intro j hj
  rcases h.shape with ⟨rfl, rfl, rfl⟩ | ⟨g, rfl, hl, h1, h2, cur, hh, h3, h4⟩
  · simp at hj
  · refine ⟨g, 0, rfl, hl, fun i u hu => ?_⟩
    have hi : i < E.k := by have := (List.getElem?_eq_some_iff.1 hu).1; rwa [E.len] at this
    rw [← E.all_get L j i hj hi, ← h4] at hu
    have hlt : j * E.k + i < L.length * E.k := by
      have := Nat.mul_le_mul_right E.k (show j + 1 ≤ L.length by omega); rw [Nat.add_mul] at this; omega
    rw [List.getElem?_take_of_lt hlt] at hu
    rw [cell_of_row w g _ _ T (0, 0) hh, Nat.zero_add]
    simpa using hu
/-- Behind an append: the slice holds more, in its own block or in a new one. -/
def PushR (E : Enc α) (T : TypeId) (w : World) (p : Option Addr) (B : List α) (q : Option Addr) (cap : Nat) (w' : World) : Prop :=
  Rw E T w' q cap B ∧ Mod (fun i => ∃ a, p = some a ∧ i = a.block) w w' ∧ ∀ a, q = some a → p = some a ∨ w.heap.size ≤ a.block
theorem run_append_no {P : Program} {w : World} (t ty e : TypeId) (i : TypeInfo) (ht : P.underlying t = some (.slice e)) (hi : P.info? e = some i)
    (p : Option Addr) (n cap : Nat) (hle : n ≤ cap) (hn : p = none → n = 0 ∧ cap = 0) (q : Option Addr) (c : Nat) :
    (Builtin.append_ #[t, t] ty #[.slice p n cap, .slice q 0 c]).run P w = .ok (.slice p n cap) w := by
  cases p with
  | some a => cases q <;> simp [Builtin.append_, run_underlying ht, sizeOf, typeInfo, hi, Builtin.lenOf, Builtin.firstCells, hle, storeCells, loadCells, loadCellsFrom]
  | none =>
    obtain ⟨rfl, rfl⟩ := hn rfl
    cases q <;> simp [Builtin.append_, run_underlying ht, sizeOf, typeInfo, hi, Builtin.lenOf, Builtin.firstCells, loadCells, loadCellsFrom]
theorem wpList_pushR {P : Program} {ops : Array Oper} {rest : List Oper} {o : Oper} {a : Act} {Q : Exit → Act → World → Prop} {w : World} (E : Enc α) (hgd : o.guard = none) (s x : Operand) (Ts T : TypeId) (z : Value) (by_ : Nat)
    (ho : o.op = .call { callee := .builtin .append, args := #[s, x], argTypes := #[Ts, Ts] }) (hT : P.underlying Ts = some (.slice T)) (hi : (P.info? T).map (fun i => (i.zero, i.size, i.bytes)) = some (some z, E.k, by_)) (hzs : z.cells.size = E.k) (hby : by_ ≤ 1024)
    (p : Option Addr) (cap n : Nat) (L : List α) (hn : L.length = n) (hs : a.eval s = .slice p n cap) (hS : Rw E T w p cap L) (ao : Option Addr) (m cx : Nat) (Y : List α) (hm : Y.length = m) (hx : a.eval x = .slice ao m cx) (hY : Rd E w ao Y) (hl : n + m ≤ 100000000000)
    (h : ∀ q c w', PushR E T w p (L ++ Y) q c w' → wpList P ops Q rest (a.put o.dst (.slice q (n + m) c)) w') :
    wpList P ops Q (o :: rest) a w := by
  cases hq : P.info? T with
  | none => rw [hq] at hi; cases hi
  | some i =>
    rw [hq] at hi
    simp only [Option.map_some, Option.some.injEq, Prod.mk.injEq] at hi
    obtain ⟨hz, h1, h2⟩ := hi
    subst hn
    subst hm
    have hmul : (L.length + Y.length) * by_ ≤ 140737488355328 := Nat.le_trans (Nat.mul_le_mul hl hby) (by decide)
    by_cases h0 : 0 < Y.length
    · obtain ⟨bs, off, rfl, hbs, _⟩ := hY 0 h0
      refine wpList_append_lies _ hgd s x Ts ho 0 T i z E.k by_ hT hq hz h1 h2 hzs E.pos _ L.length (E.all L) hs hS ⟨bs, off, none⟩ Y.length cx (E.all Y) hx (E.all_len Y) ?_ (E.all_one _) h0 (by unfold maxLen; omega) hmul (Nat.zero_le _) _ rfl ?_
      · intro j u hj
        have hjl : j < Y.length * E.k := by
          have := (List.getElem?_eq_some_iff.1 hj).1
          rwa [E.all_len] at this
        have hd : j / E.k < Y.length := by rw [Nat.div_lt_iff_lt_mul E.pos]; exact hjl
        have hr : j % E.k < E.k := Nat.mod_lt _ E.pos
        have he : j / E.k * E.k + j % E.k = j := by rw [Nat.mul_comm]; exact Nat.div_add_mod j E.k
        obtain ⟨bs', off', e, _, c1⟩ := hY (j / E.k) hd
        cases e
        have hadd : (⟨bs, off, none⟩ : Addr).add j = ⟨bs, off + j, none⟩ := by unfold Addr.add; split <;> simp_all
        rw [← he, E.all_get Y _ _ hd hr] at hj
        have := c1 _ _ hj
        rw [Nat.add_assoc, he] at this
        rw [hadd, this]
      · intro g c w' hown hgrow hat _
        refine h (some ⟨g, 0, none⟩) c w' ⟨?_, ?_, ?_⟩
        · unfold Rw; rw [List.length_append, E.all_app]; exact hown
        · refine (Mod.refl _ w).grown hgrow ?_
          intro j hj _
          cases p with
          | none => simp [Value.ownBlock] at hj
          | some a => simp [Value.ownBlock] at hj; exact ⟨a, rfl, hj.symm⟩
        · rintro a' e; cases e
          rcases hat with hat | hat
          · left
            rcases hS.shape with ⟨rfl, _⟩ | ⟨g', rfl, _⟩
            · simp [Value.ownBlock] at hat
            · simp [Value.ownBlock] at hat; subst hat; rfl
          · right; rw [hat]; exact Nat.le_refl _
    · obtain rfl : Y = [] := List.eq_nil_of_length_eq_zero (by omega)
      refine wpList_plain hgd fun K hK => ?_
      have hfin := h p cap w ⟨by rw [List.append_nil]; exact hS, Mod.refl _ w, fun a e => .inl e⟩
      have hle : L.length ≤ cap := hS.cap_le
      have hno : p = none → L.length = 0 ∧ cap = 0 := by
        intro e
        rcases hS.shape with ⟨_, rfl, hc⟩ | ⟨g', e', _⟩
        · exact ⟨rfl, hc⟩
        · rw [e] at e'; cases e'
      have hrun := run_append_no (P := P) (w := w) Ts o.type T i hT hq p L.length cap hle hno ao cx
      unfold Oper.wp
      simp only [List.length_nil] at hx
      simp [execOp, ho, resolve, invoke, builtin, hs, hx, hrun, Result.andThen]
      simp at hfin
      exact hK _ _ hfin
/-- Elements are gathered in a row of its own. -/
structure AccR (E : Enc α) (T : TypeId) (w : World) (i : Nat) (D : List α) (q : Option Addr) (c : Nat) (wr : World) : Prop where
  s : Rw E T wr q c D
  len : D.length = i
  new : ∀ a, q = some a → w.heap.size ≤ a.block
  m : Below w.heap.size w wr
theorem AccR.zero (E : Enc α) (T : TypeId) (w : World) : AccR E T w 0 [] none 0 w := ⟨Rw.empty _ _, rfl, (fun a e => by cases e), Below.refl _ _⟩
theorem AccR.push {T : TypeId} {w : World} {i : Nat} {D : List α} {q : Option Addr} {c : Nat} {wr w' : World} (h : AccR E T w i D q c wr) {Y : List α} {q' : Option Addr} {c' : Nat} (hP : PushR E T wr q (D ++ Y) q' c' w') : AccR E T w (i + Y.length) (D ++ Y) q' c' w' := by
  obtain ⟨hS, hm, hor⟩ := hP
  refine ⟨hS, by rw [List.length_append, h.len], ?_, h.m.trans (hm.to_below h.m.size (by rintro j hj ⟨a, e, rfl⟩; have := h.new a e; omega))⟩
  intro a e
  rcases hor a e with h1 | h1
  · exact h.new _ h1
  · exact Nat.le_trans h.m.size h1
theorem AccR.below {T : TypeId} {w : World} {i : Nat} {D : List α} {q : Option Addr} {c : Nat} {wr w' : World} (h : AccR E T w i D q c wr) (hb : Below wr.heap.size wr w') : AccR E T w i D q c w' :=
  ⟨h.s.old hb, h.len, h.new, h.m.trans (hb.mono h.m.size)⟩
theorem AccR.take {T : TypeId} {w : World} {i : Nat} {D : List α} {q : Option Addr} {c : Nat} {wr : World} (h : AccR E T w i D q c wr) : Rd E wr q D := h.s.rd
end
/-- Elements that were just laid. -/
theorem Rd.made {α : Type} (E : Enc α) (w : World) (T : TypeId) (L : List α) (hl : L.length ≤ maxLen) : Rd E (w.alloc (.cells (E.all L).toArray T)) (some ⟨w.heap.size, 0, none⟩) L := (Rw.made (E := E) T w L hl).rd

/-- Texts. -/
def encS : Enc (List UInt8) := ⟨fun s => [.string ⟨s.toArray⟩], 1, fun _ => rfl, fun _ v hv => by rw [List.mem_singleton.1 hv]; rfl, Nat.one_pos⟩
/-- Ints. -/
def encI : Enc Int := ⟨fun x => [.int .i64 x], 1, fun _ => rfl, fun _ v hv => by rw [List.mem_singleton.1 hv]; rfl, Nat.one_pos⟩
theorem encS_all (ss : List (List UInt8)) : encS.all ss = ss.map fun s => Value.string ⟨s.toArray⟩ := by
  induction ss with
  | nil => rfl
  | cons a l ih => rw [show encS.all (a :: l) = encS.f a ++ encS.all l from rfl, ih]; rfl
theorem Rd.str {w : World} {ao : Option Addr} {L : List (List UInt8)} (h : Rd encS w ao L) (j : Nat) (hj : j < L.length) : ∃ bs off, ao = some ⟨bs, off, none⟩ ∧ bs < w.heap.size ∧ w.cell? ⟨bs, off + j, none⟩ = some (.string ⟨(L[j]).toArray⟩) := by
  obtain ⟨bs, off, e, hlt, hc⟩ := h j hj
  exact ⟨bs, off, e, hlt, by have := hc 0 _ rfl; simpa [encS] using this⟩
end Go.Proofs.YtdahkemeoefndaaDoor
