/- Texts 2: what the laws lean on. -/
import Derived.Test.YtiegakeacghnfaaDoorM1
import Derived.Stop.BytesEq
import Derived.Deep.AppendLies
import Derived.Orders
import Derived.Tactics
import Derived.Lib.Bytealg
import Derived.Deep.MidRow
namespace Go.Proofs.YtiegakeacghnfaaDoor
open Go.RowKit

def textS (s : List UInt8) (err most : Int) : List UInt8 × List UInt8 × Int :=
  rawS (numS s err (max most 0)).2.1 (numS s err (max most 0)).2.2 (numS s err (max most 0)).1

theorem failS_len (s : List UInt8) (err e : Int) : (failS s err e).1.length ≤ s.length := by unfold failS; split <;> simp
theorem numS_len (s : List UInt8) (err most : Int) : (numS s err most).2.1.length ≤ s.length := by
  unfold numS; split
  · exact failS_len _ _ _
  · split
    · exact failS_len _ _ _
    · simp

set_option maxHeartbeats 400000 in
theorem intext_any (b : Nat) (s : List UInt8) (err most : Int) (w : World) (h : InAt 73 w b s err) (hl : s.length ≤ 1099511627776) :
    Calls Tryd.prog 49 #[.pointer (some ⟨b, 0, none⟩), .int .i64 most] w (InPost 73 b (.string ⟨(textS s err most).1.toArray⟩) (textS s err most).2 w) := by
  have hlen := numS_len s err (max most 0)
  have Hn : Hid (∀ w, InAt 73 w b s err → Calls Tryd.prog 48 #[.pointer (some ⟨b, 0, none⟩), .int .i64 (max most 0)] w (InPost 73 b (.int .i64 (numS s err (max most 0)).1) (numS s err (max most 0)).2 w)) := Lib.hid (fun w h => innum_any b s err (max most 0) w h hl)
  unfold textS
  generalize numS s err (max most 0) = p at Hn hlen ⊢
  obtain ⟨x, s1, e1⟩ := p
  simp only at hlen
  go_enter Tryd.func49, Tryd.ntmps49
  go_wp2_with fail
  refine (Hn.out _ h).mono ?_
  rintro r w1 ⟨rfl, hI, hMd⟩
  go_wp2_with fail
  refine (inraw_any b s1 e1 x w1 hI (by omega)).mono ?_
  rintro r w2 ⟨rfl, hI2, hM2⟩
  go_wp2_with fail
  go_ret
  exact ⟨rfl, hI2, hMd.trans hM2 (fun _ _ h => h)⟩

set_option maxHeartbeats 400000 in
theorem end_any (b : Nat) (s : List UInt8) (e : Int) (w : World) (h : InAt 73 w b s e) :
    Calls Tryd.prog 32 #[.pointer (some ⟨b, 0, none⟩)] w fun r w' => r = .returned (.int .i64 (if s = [] then e else 3)) ∧ w = w' := by
  have h0 := h.c0
  have h1 := h.c1
  rcases s with _ | ⟨c, s⟩
  · go_enter Tryd.func32, Tryd.ntmps32
    go_wp2
    go_ret
    exact ⟨rfl, rfl⟩
  · go_enter Tryd.func32, Tryd.ntmps32
    go_wp2
    go_ret
    exact ⟨rfl, rfl⟩

set_option maxHeartbeats 400000 in
theorem refnum_any (x : Int) (w : World) (hlo : -9223372036854775808 ≤ x) (hhi : x ≤ 9223372036854775807) :
    Calls Tryd.prog 39 #[.int .i64 x] w fun r w' => r = .returned (.string ⟨(numL x).toArray⟩) ∧ Below w.heap.size w w' := by
  have hcv := convLit1 (P := Tryd.prog) 43 9 5 Tryd.underlying43 Tryd.underlying5 Tryd.underlying9
  unfold numL
  go_enter Tryd.func39, Tryd.ntmps39
  go_upto_region 1 with fail
  go_cut [0] (fun s0 wx => ∃ m : Nat, s0 = .int .i64 m ∧ x.toNat = m ∧ w = wx)
  case first =>
    by_cases hxx : 0 ≤ x
    · obtain ⟨m, rfl⟩ := Int.eq_ofNat_of_zero_le hxx
      go_wp2_with fail
      go_meet
      exact ⟨m, rfl, rfl, rfl⟩
    · go_wp2_with fail
      go_meet
      exact ⟨0, by go_num, by omega, rfl⟩
  case rest =>
  obtain ⟨n, rfl, hn, rfl⟩ := hcut
  have h0 : (0 : Int) ≤ n := by omega
  have hn' : (n : Int) ≤ 9223372036854775807 := by omega
  have hln := beBytes_len 8 n (by simp; omega)
  have Hn := Lib.hid hn
  clear hn hlo hhi
  go_wp2
  go_loopw [0, 3] (fun x s wr => ∃ (m : Nat) (l : List UInt8), m ≤ n ∧ x = .int .i64 m ∧ s = .string ⟨l.toArray⟩ ∧ beBytes m ++ l = beBytes n ∧ Below w.heap.size w wr)
    (fun x _ _ => (intOf x).toNat)
  case atStart => exact ⟨n, [], by omega, rfl, rfl, by simp, Below.refl _ _⟩
  case round =>
    obtain ⟨m, l, hm, rfl, rfl, hl, hb⟩ := hrel
    have hll : l.length ≤ 8 := by have := congrArg List.length hl; simp at this; omega
    have hbs := hb.size
    have Hl := Lib.hid hl
    clear hl
    by_cases hp : 0 < m
    · go_wp2
      go_roundw
      case rel => exact ⟨m / 256, UInt8.ofNat (m % 256) :: l, by omega, by go_num, val_str (by rw [← bapp1]; rfl), by rw [← Hl.out, beBytes_pos m hp]; simp, hb.alloc (by omega) _⟩
      case measure => simp [intOf]; omega
    · obtain rfl : m = 0 := by omega
      go_wp2
      go_ret
      have e := Hl.out
      rw [beBytes_zero] at e
      simp at e
      subst e
      exact ⟨by rw [Hn.out]; exact ret_str (bapp1 _ _), hb.alloc (by omega) _⟩

set_option maxHeartbeats 400000 in
theorem reftext_any (s : List UInt8) (w : World) (hl : s.length ≤ 1099511627776) :
    Calls Tryd.prog 40 #[.string ⟨s.toArray⟩] w fun r w' => r = .returned (.string ⟨(numL s.length ++ s).toArray⟩) ∧ Below w.heap.size w w' := by
  have hn := numL_len s.length (by omega)
  go_enter Tryd.func40, Tryd.ntmps40
  go_wp2_with fail
  refine (refnum_any s.length _ (by omega) (by omega)).mono ?_
  rintro r w1 ⟨rfl, hb⟩
  go_wp2_with fail
  rw [ByteArray.mk_append_mk]
  go_ret
  exact ⟨rfl, hb⟩

set_option maxHeartbeats 400000 in
theorem cut_any (s : List UInt8) (n : Nat) (w : World) (_hl : (s.length : Int) ≤ 9223372036854775807) (_hn : (n : Int) ≤ 9223372036854775807) :
    Calls Tryd.prog 25 #[.string ⟨s.toArray⟩, .int .i64 n] w fun r w' => r = .returned (.string ⟨(s.take n).toArray⟩) ∧ w = w' := by
  have h0 : (0 : Int) ≤ n := by omega
  by_cases h : n < s.length
  · go_enter Tryd.func25, Tryd.ntmps25
    go_wp2_with fail
    rw [extract_head]
    go_ret
    exact ⟨rfl, rfl⟩
  · have e : s.take n = s := List.take_of_length_le (by omega)
    rw [e]
    clear e
    go_enter Tryd.func25, Tryd.ntmps25
    go_wp2_with fail
    go_ret
    exact ⟨rfl, rfl⟩

end Go.Proofs.YtiegakeacghnfaaDoor

namespace Go.Proofs.YtiegakeacghnfaaDoor
open Go.RowKit

/-- The digest's bytes. -/
def shaB (s : List UInt8) : List UInt8 := (sha (nats s)).map UInt8.ofNat
theorem shaB_len (s : List UInt8) : (shaB s).length = 32 := by simp [shaB, sha_len]
theorem nums_vals (A : List Nat) (h : ∀ x ∈ A, x < 256) : nums .u8 A = vals (A.map UInt8.ofNat) := by
  simp only [nums, vals, List.map_map]
  refine List.map_congr_left fun x hx => ?_
  simp only [Function.comp_def]
  rw [UInt8.toNat_ofNat_of_lt' (h x hx)]
theorem vals_nums (s : List UInt8) : vals s = nums .u8 (nats s) := by simp [vals, nums, nats]
theorem nats_lt (s : List UInt8) : ∀ x ∈ nats s, x < 256 := by intro x hx; obtain ⟨c, _, rfl⟩ := List.mem_map.1 hx; exact c.toNat_lt
theorem nats_ofNat (s : List UInt8) : (nats s).map UInt8.ofNat = s := by simp [nats, Function.comp_def]
theorem sha_vals (s : List UInt8) : nums .u8 (sha (nats s)) = vals (shaB s) := nums_vals _ (sha_lt _)
theorem sha_bytes (s : List UInt8) : bytesOf (sha (nats s)) = ⟨(shaB s).toArray⟩ := rfl

theorem StrsAt.old {w w' : World} {v : Value} {ss : List (List UInt8)} (h : StrsAt w v ss) (hb : Below w.heap.size w w') : StrsAt w' v ss := by
  obtain ⟨ao, cap, e, hc⟩ := h
  refine ⟨ao, cap, e, fun j hj => ?_⟩
  obtain ⟨bs, off, e1, hlt, c⟩ := hc j hj
  exact ⟨bs, off, e1, Nat.lt_of_lt_of_le hlt hb.size, (World.cell?_of_block (hb.block bs hlt)).trans c⟩
/-- Texts that were just laid side by side. -/
theorem StrsAt.made (w : World) (T : TypeId) (ss : List (List UInt8)) : StrsAt (w.alloc (.cells (ss.map fun s => Value.string ⟨s.toArray⟩).toArray T)) (.slice (some ⟨w.heap.size, 0, none⟩) ss.length ss.length) ss := by
  refine ⟨_, _, rfl, fun j hj => ⟨w.heap.size, 0, rfl, by simp, ?_⟩⟩
  rw [cell_of_row _ w.heap.size _ _ T (0, 0) (heap_alloc_new _ _)]
  simp [hj]
theorem TabAt.old {w w' : World} (h : TabAt w) (hb : Below w.heap.size w w') : TabAt w' := h.kept (Mod.of_below hb) (by have := h.lt; omega)

/-- Block g is a name. -/
def IdAt (w : World) (g : Nat) (s : List UInt8) : Prop := s.length = 32 ∧ w.heap[g]? = some (.cells (vals s).toArray 39 (0, 0))
theorem IdAt.lt {w : World} {g : Nat} {s : List UInt8} (h : IdAt w g s) : g < w.heap.size := (Array.getElem?_eq_some_iff.1 h.2).1
theorem IdAt.old {w w' : World} {g : Nat} {s : List UInt8} (h : IdAt w g s) (hb : Below w.heap.size w w') : IdAt w' g s := ⟨h.1, (hb.block g h.lt).trans h.2⟩
theorem vals_one (s : List UInt8) : ∀ v ∈ vals s, v.oneCell' = true := by
  intro v hv; obtain ⟨x, _, rfl⟩ := List.mem_map.1 hv; rfl
theorem vals_get (s : List UInt8) (i : Nat) (h : i < s.length) : (vals s)[i]? = some (.int .u8 (s[i].toNat : Int)) := by simp [vals, h]
theorem IdAt.cell {w : World} {g : Nat} {s : List UInt8} (h : IdAt w g s) (i : Nat) (hi : i < s.length) : w.cell? ⟨g, i, none⟩ = some (.int .u8 (s[i].toNat : Int)) := by
  rw [cell_of_row w g i _ 39 (0, 0) h.2]; simpa using vals_get s i hi
/-- A name's bytes as a text. -/
theorem IdAt.text {w : World} {g : Nat} {s : List UInt8} (h : IdAt w g s) : (convert 43 9 (.slice (some ⟨g, 0, none⟩) 32 32)).run Tryd.prog w = .ok (.string ⟨s.toArray⟩) w := by
  have hl := h.1
  rw [run_convert_bytes_arg w 43 5 Tryd.underlying43 Tryd.underlying5 g 0 32 32 (s.map fun x => (x.toNat : Int)) (by simpa using hl) (fun i hi => by
    rw [Nat.zero_add, h.cell i (by omega)]
    simp [List.getD, hl, hi]) 9 Tryd.underlying9]
  simp [strOfNums, Function.comp_def]
/-- Nought's name. -/
def zid : List UInt8 := List.replicate 32 0
theorem zid_run (w : World) : (zeroValue 39).run Tryd.prog w = .ok (.agg (vals zid).toArray) w := by kernel_rfl
theorem zid_len : (vals zid).toArray.size = 32 := rfl
theorem id_size {s : List UInt8} (h : s.length = 32) : (vals s).toArray.size = 32 := by simp [vals_len, h]
theorem id_info {s : List UInt8} (h : s.length = 32) : (Tryd.prog.info? 39).map (·.size) = some (vals s).toArray.size := by rw [id_size h]; kernel_rfl
theorem id_one (s : List UInt8) : ∀ v ∈ (vals s).toArray.toList, v.oneCell' = true := by simpa using vals_one s
/-- A new variable that a name is stored into. -/
theorem IdAt.stored {w : World} {s : List UInt8} {A : Array Value} (h : s.length = 32) : IdAt ((w.alloc (.cells A 39 (0, 0))).setRow w.heap.size (vals s).toArray) w.heap.size s :=
  ⟨h, setRow_heap _ _ _ _ _ _ (heap_alloc_new _ _)⟩
theorem stored_below {w : World} {A C : Array Value} {T : TypeId} : Below w.heap.size w ((w.alloc (.cells A T (0, 0))).setRow w.heap.size C) :=
  ((((Mod.refl (fun _ => False) w).alloc (.cells A T (0, 0))).setRow (g := w.heap.size) C).drop_new (Nat.le_refl _)).to_below (Nat.le_refl _) (fun _ _ h => h)
/-- Two names are held against each other. -/
theorem id_eql (x y : List UInt8) (hx : x.length = 32) (hy : y.length = 32) (w : World) : (binOp .eql 39 (.agg (vals x).toArray) (.agg (vals y).toArray)).run Tryd.prog w = .ok (.bool (x == y)) w :=
  run_eql_bytes w 39 5 32 Tryd.underlying39 Tryd.underlying5 Tryd.sizeOf5 x y hx hy

theorem dofB (v : Value) (ss : List (List UInt8)) (w : World) (hv : StrsAt w v ss) (hl : ss.flatten.length ≤ 274877906944) (hn : (ss.length : Int) ≤ 1099511627776) (hT : TabAt w) :
    Calls Tryd.prog 38 #[v] w fun r w' => r = .returned (.agg (vals (shaB ss.flatten)).toArray) ∧ Below w.heap.size w w' :=
  (dof_any v ss w hv hl hn hT).mono fun _ _ ⟨h1, h2⟩ => ⟨by rw [h1, sha_vals], h2.to_below (Nat.le_refl _) (fun _ _ h => h)⟩

end Go.Proofs.YtiegakeacghnfaaDoor

namespace Go.Proofs.YtiegakeacghnfaaDoor
open Go.RowKit

/-- How an element lies in memory: k cells. -/
structure Enc (α : Type) where
  f : α → List Value
  k : Nat
  len : ∀ x, (f x).length = k
  one : ∀ x, ∀ v ∈ f x, v.oneCell' = true
  pos : 0 < k

section
variable {α : Type} (E : Enc α)
def Enc.all (L : List α) : List Value := L.flatMap E.f
theorem Enc.all_nil : E.all [] = [] := rfl
theorem Enc.all_app (A B : List α) : E.all (A ++ B) = E.all A ++ E.all B := by simp [Enc.all]
theorem Enc.all_len (L : List α) : (E.all L).length = L.length * E.k := by
  induction L with
  | nil => simp [Enc.all]
  | cons x l ih => rw [show x :: l = [x] ++ l from rfl, E.all_app, List.length_append, ih]; simp [Enc.all, E.len, Nat.add_mul]; omega
theorem Enc.all_one (L : List α) : ∀ v ∈ E.all L, v.oneCell' = true := by
  intro v hv
  obtain ⟨x, _, h⟩ := List.mem_flatMap.1 hv
  exact E.one x v h
theorem Enc.all_get (L : List α) (j i : Nat) (hj : j < L.length) (hi : i < E.k) : (E.all L)[j * E.k + i]? = (E.f L[j])[i]? := by
  induction L generalizing j with
  | nil => simp at hj
  | cons x l ih =>
    rw [show E.all (x :: l) = E.f x ++ E.all l by simp [Enc.all]]
    cases j with
    | zero => rw [Nat.zero_mul, Nat.zero_add, List.getElem?_append_left (by rw [E.len]; exact hi)]; rfl
    | succ j =>
      rw [List.getElem?_append_right (by rw [E.len, Nat.add_mul]; omega), E.len, show (j + 1) * E.k + i - E.k = j * E.k + i by rw [Nat.add_mul]; omega, ih j (by simpa using hj)]
      rfl

/-- The slice at p holds L from its block's head on; nil holds none. -/
def Rw (T : TypeId) (w : World) (p : Option Addr) (cap : Nat) (L : List α) : Prop := w.ownsRow 0 T E.k (.slice p L.length cap) L.length (E.all L)
/-- L is read at ao. -/
def Rd (w : World) (ao : Option Addr) (L : List α) : Prop :=
  ∀ j (h : j < L.length), ∃ bs off, ao = some ⟨bs, off, none⟩ ∧ bs < w.heap.size ∧ ∀ i u, (E.f L[j])[i]? = some u → w.cell? ⟨bs, off + j * E.k + i, none⟩ = some u

variable {E}
theorem Rd.old {w w' : World} {ao : Option Addr} {L : List α} (h : Rd E w ao L) (hb : Below w.heap.size w w') : Rd E w' ao L := by
  intro j hj
  obtain ⟨bs, off, e, hlt, hc⟩ := h j hj
  exact ⟨bs, off, e, Nat.lt_of_lt_of_le hlt hb.size, fun i u hu => (World.cell?_of_block (hb.block bs hlt)).trans (hc i u hu)⟩
theorem Rd.nil (w : World) (ao : Option Addr) : Rd E w ao [] := fun j hj => by simp at hj
theorem Rd.take {w : World} {ao : Option Addr} {L : List α} (h : Rd E w ao L) (n : Nat) : Rd E w ao (L.take n) := by
  intro j hj
  have hj2 : j < L.length := by rw [List.length_take] at hj; omega
  obtain ⟨bs, off, e, hlt, c1⟩ := h j hj2
  refine ⟨bs, off, e, hlt, ?_⟩
  rw [List.getElem_take]; exact c1
theorem Rw.shape {T : TypeId} {w : World} {p : Option Addr} {cap : Nat} {L : List α} (h : Rw E T w p cap L) :
    (p = none ∧ L = [] ∧ cap = 0) ∨ ∃ g, p = some ⟨g, 0, none⟩ ∧ g < w.heap.size ∧ L.length ≤ cap ∧ cap ≤ maxLen ∧ ∃ cur : Array Value, w.heap[g]? = some (.cells cur T (0, 0)) ∧ cur.size = cap * E.k ∧ cur.toList.take (L.length * E.k) = E.all L := by
  rcases h.2 with ⟨e, h0⟩ | ⟨g, cap', cur, e, _, hh, h1, h2, h3, h4⟩
  · simp only [Value.slice.injEq] at e
    exact .inl ⟨e.1, List.eq_nil_of_length_eq_zero h0, e.2.2⟩
  · simp only [Value.slice.injEq] at e
    obtain ⟨rfl, _, rfl⟩ := e
    exact .inr ⟨g, rfl, (Array.getElem?_eq_some_iff.1 hh).1, h1, h2, cur, hh, h3, h4⟩
theorem Rw.of_row {T : TypeId} {w : World} {g cap : Nat} {L : List α} {cur : Array Value} (hh : w.heap[g]? = some (.cells cur T (0, 0))) (h1 : L.length ≤ cap) (h2 : cap ≤ maxLen) (h3 : cur.size = cap * E.k) (h4 : cur.toList.take (L.length * E.k) = E.all L) :
    Rw E T w (some ⟨g, 0, none⟩) cap L := ⟨by rw [E.all_len], .inr ⟨g, cap, cur, rfl, Nat.zero_le _, hh, h1, h2, h3, h4⟩⟩
theorem Rw.empty (T : TypeId) (w : World) : Rw E T w none 0 ([] : List α) := World.ownsRow_nil _ _ _ _
theorem Rw.cap_le {T : TypeId} {w : World} {p : Option Addr} {cap : Nat} {L : List α} (h : Rw E T w p cap L) : L.length ≤ cap := by
  rcases h.shape with ⟨_, rfl, _⟩ | ⟨g, _, _, hc, _⟩
  · exact Nat.zero_le _
  · exact hc
theorem Rw.made (T : TypeId) (w : World) (L : List α) (hl : L.length ≤ maxLen) : Rw E T (w.alloc (.cells (E.all L).toArray T)) (some ⟨w.heap.size, 0, none⟩) L.length L :=
  Rw.of_row (heap_alloc_new _ _) (Nat.le_refl _) hl (by rw [List.size_toArray, E.all_len]) (by rw [List.take_of_length_le (by simp [E.all_len])])
theorem Rw.lt {T : TypeId} {w : World} {a : Addr} {cap : Nat} {L : List α} (h : Rw E T w (some a) cap L) : a.block < w.heap.size := by
  rcases h.shape with ⟨e, _⟩ | ⟨g, e, hl, _⟩
  · cases e
  · cases e; exact hl
theorem Rw.kept {T : TypeId} {w w' : World} {p : Option Addr} {cap : Nat} {L : List α} {S : Nat → Prop} (h : Rw E T w p cap L) (hm : Mod S w w') (hp : ∀ a, p = some a → ¬ S a.block) : Rw E T w' p cap L := by
  rcases h.shape with ⟨rfl, rfl, rfl⟩ | ⟨g, rfl, hl, h1, h2, cur, hh, h3, h4⟩
  · exact Rw.empty _ _
  · exact Rw.of_row ((hm.block g hl (hp _ rfl)).trans hh) h1 h2 h3 h4
theorem Rw.old {T : TypeId} {w w' : World} {p : Option Addr} {cap : Nat} {L : List α} (h : Rw E T w p cap L) (hb : Below w.heap.size w w') : Rw E T w' p cap L :=
  h.kept (Mod.of_below hb) (fun a e hs => by subst e; exact Nat.lt_irrefl _ (Nat.lt_of_lt_of_le h.lt hs))
theorem Rw.rd {T : TypeId} {w : World} {p : Option Addr} {cap : Nat} {L : List α} (h : Rw E T w p cap L) : Rd E w p L := by
  intro j hj
  rcases h.shape with ⟨rfl, rfl, rfl⟩ | ⟨g, rfl, hl, h1, h2, cur, hh, h3, h4⟩
  · simp at hj
  · refine ⟨g, 0, rfl, hl, fun i u hu => ?_⟩
    have hi : i < E.k := by have := (List.getElem?_eq_some_iff.1 hu).1; rwa [E.len] at this
    rw [← E.all_get L j i hj hi, ← h4] at hu
    have hlt : j * E.k + i < L.length * E.k := by
      have := Nat.mul_le_mul_right E.k (show j + 1 ≤ L.length by omega); rw [Nat.add_mul] at this; omega
    rw [List.getElem?_take_of_lt hlt] at hu
    rw [cell_of_row w g _ _ T (0, 0) hh, Nat.zero_add]
    simpa using hu
/-- Behind an append: the slice holds more, in its own block or in a new one. -/
def PushR (E : Enc α) (T : TypeId) (w : World) (p : Option Addr) (B : List α) (q : Option Addr) (cap : Nat) (w' : World) : Prop :=
  Rw E T w' q cap B ∧ Mod (fun i => ∃ a, p = some a ∧ i = a.block) w w' ∧ ∀ a, q = some a → p = some a ∨ w.heap.size ≤ a.block
theorem run_append_no {P : Program} {w : World} (t ty e : TypeId) (i : TypeInfo) (ht : P.underlying t = some (.slice e)) (hi : P.info? e = some i)
    (p : Option Addr) (n cap : Nat) (hle : n ≤ cap) (hn : p = none → n = 0 ∧ cap = 0) (q : Option Addr) (c : Nat) :
    (Builtin.append_ #[t, t] ty #[.slice p n cap, .slice q 0 c]).run P w = .ok (.slice p n cap) w := by
  cases p with
  | some a => cases q <;> simp [Builtin.append_, run_underlying ht, sizeOf, typeInfo, hi, Builtin.lenOf, Builtin.firstCells, hle, storeCells, loadCells, loadCellsFrom]
  | none =>
    obtain ⟨rfl, rfl⟩ := hn rfl
    cases q <;> simp [Builtin.append_, run_underlying ht, sizeOf, typeInfo, hi, Builtin.lenOf, Builtin.firstCells, loadCells, loadCellsFrom]
theorem wpList_pushR {P : Program} {ops : Array Oper} {rest : List Oper} {o : Oper} {a : Act} {Q : Exit → Act → World → Prop} {w : World} (E : Enc α) (hgd : o.guard = none) (s x : Operand) (Ts T : TypeId) (z : Value) (by_ : Nat)
    (ho : o.op = .call { callee := .builtin .append, args := #[s, x], argTypes := #[Ts, Ts] }) (hT : P.underlying Ts = some (.slice T)) (hi : (P.info? T).map (fun i => (i.zero, i.size, i.bytes)) = some (some z, E.k, by_)) (hzs : z.cells.size = E.k) (hby : by_ ≤ 1024)
    (p : Option Addr) (cap n : Nat) (L : List α) (hn : L.length = n) (hs : a.eval s = .slice p n cap) (hS : Rw E T w p cap L) (ao : Option Addr) (m cx : Nat) (Y : List α) (hm : Y.length = m) (hx : a.eval x = .slice ao m cx) (hY : Rd E w ao Y) (hl : n + m ≤ 100000000000)
    (h : ∀ q c w', PushR E T w p (L ++ Y) q c w' → wpList P ops Q rest (a.put o.dst (.slice q (n + m) c)) w') :
    wpList P ops Q (o :: rest) a w := by
  cases hq : P.info? T with
  | none => rw [hq] at hi; cases hi
  | some i =>
    rw [hq] at hi
    simp only [Option.map_some, Option.some.injEq, Prod.mk.injEq] at hi
    obtain ⟨hz, h1, h2⟩ := hi
    subst hn
    subst hm
    have hmul : (L.length + Y.length) * by_ ≤ 140737488355328 := Nat.le_trans (Nat.mul_le_mul hl hby) (by decide)
    by_cases h0 : 0 < Y.length
    · obtain ⟨bs, off, rfl, hbs, _⟩ := hY 0 h0
      refine wpList_append_lies _ hgd s x Ts ho 0 T i z E.k by_ hT hq hz h1 h2 hzs E.pos _ L.length (E.all L) hs hS ⟨bs, off, none⟩ Y.length cx (E.all Y) hx (E.all_len Y) ?_ (E.all_one _) h0 (by unfold maxLen; omega) hmul (Nat.zero_le _) _ rfl ?_
      · intro j u hj
        have hjl : j < Y.length * E.k := by
          have := (List.getElem?_eq_some_iff.1 hj).1
          rwa [E.all_len] at this
        have hd : j / E.k < Y.length := by rw [Nat.div_lt_iff_lt_mul E.pos]; exact hjl
        have hr : j % E.k < E.k := Nat.mod_lt _ E.pos
        have he : j / E.k * E.k + j % E.k = j := by rw [Nat.mul_comm]; exact Nat.div_add_mod j E.k
        obtain ⟨bs', off', e, _, c1⟩ := hY (j / E.k) hd
        cases e
        have hadd : (⟨bs, off, none⟩ : Addr).add j = ⟨bs, off + j, none⟩ := by unfold Addr.add; split <;> simp_all
        rw [← he, E.all_get Y _ _ hd hr] at hj
        have := c1 _ _ hj
        rw [Nat.add_assoc, he] at this
        rw [hadd, this]
      · intro g c w' hown hgrow hat _
        refine h (some ⟨g, 0, none⟩) c w' ⟨?_, ?_, ?_⟩
        · unfold Rw; rw [List.length_append, E.all_app]; exact hown
        · refine (Mod.refl _ w).grown hgrow ?_
          intro j hj _
          cases p with
          | none => simp [Value.ownBlock] at hj
          | some a => simp [Value.ownBlock] at hj; exact ⟨a, rfl, hj.symm⟩
        · rintro a' e; cases e
          rcases hat with hat | hat
          · left
            rcases hS.shape with ⟨rfl, _⟩ | ⟨g', rfl, _⟩
            · simp [Value.ownBlock] at hat
            · simp [Value.ownBlock] at hat; subst hat; rfl
          · right; rw [hat]; exact Nat.le_refl _
    · obtain rfl : Y = [] := List.eq_nil_of_length_eq_zero (by omega)
      refine wpList_plain hgd fun K hK => ?_
      have hfin := h p cap w ⟨by rw [List.append_nil]; exact hS, Mod.refl _ w, fun a e => .inl e⟩
      have hle : L.length ≤ cap := hS.cap_le
      have hno : p = none → L.length = 0 ∧ cap = 0 := by
        intro e
        rcases hS.shape with ⟨_, rfl, hc⟩ | ⟨g', e', _⟩
        · exact ⟨rfl, hc⟩
        · rw [e] at e'; cases e'
      have hrun := run_append_no (P := P) (w := w) Ts o.type T i hT hq p L.length cap hle hno ao cx
      unfold Oper.wp
      simp only [List.length_nil] at hx
      simp [execOp, ho, resolve, invoke, builtin, hs, hx, hrun, Result.andThen]
      simp at hfin
      exact hK _ _ hfin
/-- Elements are gathered in a row of its own. -/
structure AccR (E : Enc α) (T : TypeId) (w : World) (i : Nat) (D : List α) (q : Option Addr) (c : Nat) (wr : World) : Prop where
  s : Rw E T wr q c D
  len : D.length = i
  new : ∀ a, q = some a → w.heap.size ≤ a.block
  m : Below w.heap.size w wr
theorem AccR.zero (E : Enc α) (T : TypeId) (w : World) : AccR E T w 0 [] none 0 w := ⟨Rw.empty _ _, rfl, (fun a e => by cases e), Below.refl _ _⟩
theorem AccR.push {T : TypeId} {w : World} {i : Nat} {D : List α} {q : Option Addr} {c : Nat} {wr w' : World} (h : AccR E T w i D q c wr) {Y : List α} {q' : Option Addr} {c' : Nat} (hP : PushR E T wr q (D ++ Y) q' c' w') : AccR E T w (i + Y.length) (D ++ Y) q' c' w' := by
  obtain ⟨hS, hm, hor⟩ := hP
  refine ⟨hS, by rw [List.length_append, h.len], ?_, h.m.trans (hm.to_below h.m.size (by rintro j hj ⟨a, e, rfl⟩; have := h.new a e; omega))⟩
  intro a e
  rcases hor a e with h1 | h1
  · exact h.new _ h1
  · exact Nat.le_trans h.m.size h1
theorem AccR.below {T : TypeId} {w : World} {i : Nat} {D : List α} {q : Option Addr} {c : Nat} {wr w' : World} (h : AccR E T w i D q c wr) (hb : Below wr.heap.size wr w') : AccR E T w i D q c w' :=
  ⟨h.s.old hb, h.len, h.new, h.m.trans (hb.mono h.m.size)⟩
theorem AccR.take {T : TypeId} {w : World} {i : Nat} {D : List α} {q : Option Addr} {c : Nat} {wr : World} (h : AccR E T w i D q c wr) : Rd E wr q D := h.s.rd
end
/-- Elements that were just laid. -/
theorem Rd.made {α : Type} (E : Enc α) (w : World) (T : TypeId) (L : List α) (hl : L.length ≤ maxLen) : Rd E (w.alloc (.cells (E.all L).toArray T)) (some ⟨w.heap.size, 0, none⟩) L := (Rw.made (E := E) T w L hl).rd

/-- Texts. -/
def encS : Enc (List UInt8) := ⟨fun s => [.string ⟨s.toArray⟩], 1, fun _ => rfl, fun _ v hv => by rw [List.mem_singleton.1 hv]; rfl, Nat.one_pos⟩
/-- Ints. -/
def encI : Enc Int := ⟨fun x => [.int .i64 x], 1, fun _ => rfl, fun _ v hv => by rw [List.mem_singleton.1 hv]; rfl, Nat.one_pos⟩
theorem encS_all (ss : List (List UInt8)) : encS.all ss = ss.map fun s => Value.string ⟨s.toArray⟩ := by
  induction ss with
  | nil => rfl
  | cons a l ih => rw [show encS.all (a :: l) = encS.f a ++ encS.all l from rfl, ih]; rfl
theorem Rd.str {w : World} {ao : Option Addr} {L : List (List UInt8)} (h : Rd encS w ao L) (j : Nat) (hj : j < L.length) : ∃ bs off, ao = some ⟨bs, off, none⟩ ∧ bs < w.heap.size ∧ w.cell? ⟨bs, off + j, none⟩ = some (.string ⟨(L[j]).toArray⟩) := by
  obtain ⟨bs, off, e, hlt, hc⟩ := h j hj
  exact ⟨bs, off, e, hlt, by have := hc 0 _ rfl; simpa [encS] using this⟩
end Go.Proofs.YtiegakeacghnfaaDoor

namespace Go.Proofs.YtiegakeacghnfaaDoor
open Go.RowKit

/-- The name that begins with s. -/
def idL (s : List UInt8) : List UInt8 := (s ++ zid).take 32
theorem idL_len (s : List UInt8) : (idL s).length = 32 := by simp [idL, zid]
theorem idL_self (s : List UInt8) (h : s.length = 32) : idL s = s := by unfold idL; rw [← h, List.take_left]
theorem idL_cut (s : List UInt8) : s.take 32 ++ zid.drop (min s.length 32) = idL s := by
  unfold idL zid
  rw [List.take_append, List.take_replicate, List.drop_replicate]
  congr 1
  congr 1
  omega
theorem wpList_copyS {P : Program} {w : World} {ops : Array Oper} {rest : List Oper} {o : Oper} {a : Act} {Q : Exit → Act → World → Prop} (hgd : o.guard = none) (d s : Operand) (t t' : TypeId)
    (ho : o.op = .call { callee := .builtin .copy, args := #[d, s], argTypes := #[t, t'] }) (v u : Value) (hd : a.eval d = v) (hs : a.eval s = u) {v' : Value} {w' : World}
    (hr : (Builtin.copy_ #[t, t'] o.type #[v, u]).run P w = .ok v' w') (h : wpList P ops Q rest (a.put o.dst v') w') : wpList P ops Q (o :: rest) a w := by
  refine wpList_plain hgd fun K hK => ?_
  unfold Oper.wp
  simp [execOp, ho, resolve, invoke, builtin, hd, hs, hr, Result.andThen]
  exact hK _ _ h
set_option maxRecDepth 20000 in
/-- A text is copied into a name. -/
theorem run_copy_text (s : List UInt8) (g : Nat) (ty : TypeId) (w : World) (h : IdAt w g zid) :
    (Builtin.copy_ #[43, 9] ty #[.slice (some ⟨g, 0, none⟩) 32 32, .string ⟨s.toArray⟩]).run Tryd.prog w = .ok (goInt ((min s.length 32 : Nat) : Int)) (w.setRow g (vals (idL s)).toArray) := by
  have hst := run_storeCells_at Tryd.prog g 0 39 (vals (s.take 32)) 0 (vals zid).toArray w h.2 (by simp [vals_len, zid]; omega) (vals_one _)
  have hsz : (sizeOf 5).run Tryd.prog w = .ok 1 w := Tryd.sizeOf5 w
  have hl : (ByteArray.mk s.toArray).size = s.length := rfl
  have hf : (Builtin.firstCells 1 (min s.length 32) (.string ⟨s.toArray⟩)).run Tryd.prog w = .ok (vals (s.take 32)).toArray w := by
    unfold Builtin.firstCells
    rw [Sem.run_pure, ByteArray.extract_mk]
    congr 1
    apply Array.ext'
    simp [vals]
    omega
  have he : ((vals zid).toArray.toList.take (0 + 0) ++ vals (s.take 32) ++ (vals zid).toArray.toList.drop (0 + 0 + (vals (s.take 32)).length)).toArray = (vals (idL s)).toArray := by
    rw [← idL_cut s, vals_app]
    congr 1
    simp [vals, List.map_drop]
    omega
  rw [he] at hst
  unfold Builtin.copy_
  obtain ⟨n, hn⟩ : ∃ n, n = min s.length 32 := ⟨_, rfl⟩
  have hmin : Nat.min s.length 32 = n := hn.symm
  rw [← hn] at hf ⊢
  clear hn he
  simp [run_underlying Tryd.underlying43, Builtin.lenOf, hl, hsz, hmin, hf, hst]

set_option maxRecDepth 20000 in
set_option maxHeartbeats 1000000 in
theorem name_any (s : List UInt8) (w : World) :
    Calls Tryd.prog 46 #[.string ⟨s.toArray⟩] w fun r w' => r = .returned (.agg (vals (idL s)).toArray) ∧ Below w.heap.size w w' := by
  have hz := zid_run
  have hzs := zid_len
  have hidl := idL_len s
  have q2 : (vals zid).toArray.size = (vals (idL s)).toArray.size := hzs.trans (id_size hidl).symm
  have q3 := id_info hidl
  have q4 := id_one (idL s)
  have hA : IdAt ((w.alloc (.cells (vals zid).toArray 39)).alloc (.cells (vals zid).toArray 39)) (w.heap.size + 1) zid := ⟨rfl, by have := heap_alloc_new (w.alloc (.cells (vals zid).toArray 39)) (.cells (vals zid).toArray 39); simpa using this⟩
  have hcp := fun ty => run_copy_text s (w.heap.size + 1) ty _ hA
  obtain ⟨Y, hY⟩ : ∃ Y, Y = (vals (idL s)).toArray := ⟨_, rfl⟩
  rw [← hY] at q2 q3 q4 hcp ⊢
  have hYs : Y.size = 32 := by rw [hY]; exact id_size hidl
  clear hY hidl
  generalize (vals zid).toArray = Z at hz hzs q2 hA hcp
  have hb0 : Below w.heap.size w ((w.alloc (.cells Z 39)).alloc (.cells Z 39)) := ((Below.refl _ w).alloc (Nat.le_refl _) _).alloc (by simp) _
  have h0 : ((w.alloc (.cells Z 39)).alloc (.cells Z 39)).heap[w.heap.size]? = some (.cells Z 39 (0, 0)) := by
    rw [Below.heap_alloc _ _ _ (by simp)]; exact heap_alloc_new w _
  have h1 : ((w.alloc (.cells Z 39)).alloc (.cells Z 39)).heap[w.heap.size + 1]? = some (.cells Z 39 (0, 0)) := by
    have := heap_alloc_new (w.alloc (.cells Z 39)) (.cells Z 39); simpa using this
  obtain ⟨W, hW⟩ : ∃ W, W = (w.alloc (.cells Z 39)).alloc (.cells Z 39) := ⟨_, rfl⟩
  rw [← hW] at hb0 h0 h1 hcp
  have k0 : (W.setRow (w.heap.size + 1) Y).heap[w.heap.size]? = some (.cells Z 39 (0, 0)) := (setRow_other W _ _ Y (by omega)).trans h0
  have k1 : (W.setRow (w.heap.size + 1) Y).heap[w.heap.size + 1]? = some (.cells Y 39 (0, 0)) := setRow_heap W _ _ Y _ _ h1
  have kb : Below w.heap.size w (W.setRow (w.heap.size + 1) Y) := hb0.trans (((Mod.refl (fun _ => False) W).setRow Y).to_below (by have := hb0.size; exact this) (by rintro k hk (h | h) <;> first | exact h | omega))
  obtain ⟨W2, hW2⟩ : ∃ W2, W2 = W.setRow (w.heap.size + 1) Y := ⟨_, rfl⟩
  rw [← hW2] at k0 k1 kb hcp
  have l0 : (W2.setRow w.heap.size Y).heap[w.heap.size]? = some (.cells Y 39 (0, 0)) := setRow_heap W2 _ _ Y _ _ k0
  have lb : Below w.heap.size w (W2.setRow w.heap.size Y) := kb.trans (((Mod.refl (fun _ => False) W2).setRow Y).to_below (by have := kb.size; exact this) (by rintro k hk (h | h) <;> first | exact h | omega))
  have L0 := Lib.hid l0
  have LB := Lib.hid lb
  have HS := Lib.hid hYs
  clear hW2 l0 lb kb hb0 h0 h1 hA hzs hYs
  go_enter Tryd.func46, Tryd.ntmps46
  go_wp2_with (first | (refine wpList_copyS rfl (.tmp 4) (.tmp 5) 43 9 rfl _ _ rfl rfl (by rw [← hW]; exact hcp _) ?_; clear hcp hW) | (refine wpList_load_row rfl 39 (.tmp 3) rfl (w.heap.size + 1) rfl 39 Y (0, 0) _ k1 Tryd.underlying39 rfl q3 ?_) | (refine wpList_store_row rfl rfl 39 (.tmp 2) (.tmp 7) rfl w.heap.size rfl 39 Z Y rfl k0 q2 q3 q4 ?_))
  exact bodyPost_ret (v := .agg Y) (results_cell_row Tryd.results46 _ _ w.heap.size 39 Y (0, 0) _ rfl L0.out Tryd.underlying39 rfl q3) rfl ⟨rfl, LB.out⟩

set_option maxRecDepth 20000 in
set_option maxHeartbeats 1000000 in
theorem idof_any (s : List UInt8) (w : World) :
    Calls Tryd.prog 19 #[.string ⟨s.toArray⟩] w fun r w' => r = .returned (.agg (vals (idL s)).toArray) ∧ Below w.heap.size w w' := by
  have hz := zid_run
  have hzs := zid_len
  have hidl := idL_len s
  have q2 : (vals zid).toArray.size = (vals (idL s)).toArray.size := hzs.trans (id_size hidl).symm
  have q3 := id_info hidl
  have q4 := id_one (idL s)
  have hA : IdAt ((w.alloc (.cells (vals zid).toArray 39)).alloc (.cells (vals zid).toArray 39)) (w.heap.size + 1) zid := ⟨rfl, by have := heap_alloc_new (w.alloc (.cells (vals zid).toArray 39)) (.cells (vals zid).toArray 39); simpa using this⟩
  have hcp := fun ty => run_copy_text s (w.heap.size + 1) ty _ hA
  obtain ⟨Y, hY⟩ : ∃ Y, Y = (vals (idL s)).toArray := ⟨_, rfl⟩
  rw [← hY] at q2 q3 q4 hcp ⊢
  have hYs : Y.size = 32 := by rw [hY]; exact id_size hidl
  clear hY hidl
  generalize (vals zid).toArray = Z at hz hzs q2 hA hcp
  have hb0 : Below w.heap.size w ((w.alloc (.cells Z 39)).alloc (.cells Z 39)) := ((Below.refl _ w).alloc (Nat.le_refl _) _).alloc (by simp) _
  have h0 : ((w.alloc (.cells Z 39)).alloc (.cells Z 39)).heap[w.heap.size]? = some (.cells Z 39 (0, 0)) := by
    rw [Below.heap_alloc _ _ _ (by simp)]; exact heap_alloc_new w _
  have h1 : ((w.alloc (.cells Z 39)).alloc (.cells Z 39)).heap[w.heap.size + 1]? = some (.cells Z 39 (0, 0)) := by
    have := heap_alloc_new (w.alloc (.cells Z 39)) (.cells Z 39); simpa using this
  obtain ⟨W, hW⟩ : ∃ W, W = (w.alloc (.cells Z 39)).alloc (.cells Z 39) := ⟨_, rfl⟩
  rw [← hW] at hb0 h0 h1 hcp
  have k0 : (W.setRow (w.heap.size + 1) Y).heap[w.heap.size]? = some (.cells Z 39 (0, 0)) := (setRow_other W _ _ Y (by omega)).trans h0
  have k1 : (W.setRow (w.heap.size + 1) Y).heap[w.heap.size + 1]? = some (.cells Y 39 (0, 0)) := setRow_heap W _ _ Y _ _ h1
  have kb : Below w.heap.size w (W.setRow (w.heap.size + 1) Y) := hb0.trans (((Mod.refl (fun _ => False) W).setRow Y).to_below (by have := hb0.size; exact this) (by rintro k hk (h | h) <;> first | exact h | omega))
  obtain ⟨W2, hW2⟩ : ∃ W2, W2 = W.setRow (w.heap.size + 1) Y := ⟨_, rfl⟩
  rw [← hW2] at k0 k1 kb hcp
  have l0 : (W2.setRow w.heap.size Y).heap[w.heap.size]? = some (.cells Y 39 (0, 0)) := setRow_heap W2 _ _ Y _ _ k0
  have lb : Below w.heap.size w (W2.setRow w.heap.size Y) := kb.trans (((Mod.refl (fun _ => False) W2).setRow Y).to_below (by have := kb.size; exact this) (by rintro k hk (h | h) <;> first | exact h | omega))
  have L0 := Lib.hid l0
  have LB := Lib.hid lb
  have HS := Lib.hid hYs
  clear hW2 l0 lb kb hb0 h0 h1 hA hzs hYs
  go_enter Tryd.func19, Tryd.ntmps19
  go_wp2_with (first | (refine wpList_copyS rfl (.tmp 4) (.tmp 5) 43 9 rfl _ _ rfl rfl (by rw [← hW]; exact hcp _) ?_; clear hcp hW) | (refine wpList_load_row rfl 39 (.tmp 3) rfl (w.heap.size + 1) rfl 39 Y (0, 0) _ k1 Tryd.underlying39 rfl q3 ?_) | (refine wpList_store_row rfl rfl 39 (.tmp 2) (.tmp 7) rfl w.heap.size rfl 39 Z Y rfl k0 q2 q3 q4 ?_))
  exact bodyPost_ret (v := .agg Y) (results_cell_row Tryd.results19 _ _ w.heap.size 39 Y (0, 0) _ rfl L0.out Tryd.underlying39 rfl q3) rfl ⟨rfl, LB.out⟩
end Go.Proofs.YtiegakeacghnfaaDoor

namespace Go.Proofs.YtiegakeacghnfaaDoor
open Go

/-- How many of the first n are not listed yet. -/
def unl (L : Array Bool) : Nat → Nat
  | 0 => 0
  | n + 1 => unl L n + (if L.getD n true then 0 else 1)
theorem unl_le (L : Array Bool) : ∀ n, unl L n ≤ n
  | 0 => Nat.le_refl _
  | n + 1 => by have := unl_le L n; simp only [unl]; split <;> omega
theorem set_self (L : Array Bool) (i : Nat) : (L.setIfInBounds i true).getD i true = true := by
  by_cases h : i < L.size
  · simp [h]
  · simp [h]
theorem unl_set (L : Array Bool) (i : Nat) (hi : L.getD i true = false) : ∀ n, unl (L.setIfInBounds i true) n + (if i < n then 1 else 0) = unl L n
  | 0 => rfl
  | n + 1 => by
    have ih := unl_set L i hi n
    simp only [unl]
    by_cases h : n = i
    · subst h
      rw [set_self, hi]
      simp at ih ⊢
      exact ih
    · rw [getD_set_ne true (Ne.symm h)]
      generalize (if L.getD n true = true then 0 else 1) = z
      by_cases h2 : i < n
      · rw [if_pos h2] at ih; rw [if_pos (by omega)]; omega
      · rw [if_neg h2] at ih; rw [if_neg (by omega)]; omega
theorem unl_pos (L : Array Bool) : ∀ n i, i < n → L.getD i true = false → 0 < unl L n
  | n + 1, i, h, hi => by
    simp only [unl]
    by_cases e : i = n
    · subst e; rw [hi]; simp
    · have := unl_pos L n i (by omega) hi; omega

/-- What is in the slots that the operations know: those of the list. -/
def AllV (V : Tmp → Value → World → Prop) (a : Act) (w : World) : List Tmp → Prop
  | [] => True
  | t :: r => V t (a.eval (.tmp t)) w ∧ AllV V a w r
theorem AllV.of {V : Tmp → Value → World → Prop} {a : Act} {w : World} : ∀ {l : List Tmp}, (∀ t ∈ l, V t (a.eval (.tmp t)) w) → AllV V a w l
  | [], _ => trivial
  | t :: r, h => ⟨h t (by simp), AllV.of (fun u hu => h u (by simp [hu]))⟩

/-- The slots whose values an operation waits for. -/
def waits (md : Region.Mode) (ops : Array Oper) (o : Oper) : List Tmp :=
  (o.after.toList.filter (Region.binds md)).filterMap fun e => (ops[e.on]?).bind (·.dst)

structure Agree (ops : Array Oper) (a0 a : Act) : Prop where
  size : a.tmps.size = a0.tmps.size
  defers : a.defers = a0.defers
  same : ∀ t, (∀ (i : Nat) (o : Oper), ops[i]? = some o → o.dst ≠ some t) → a.eval (.tmp t) = a0.eval (.tmp t)

def drawOk (ops : Array Oper) (N : Nat) : Bool :=
  (List.range ops.size).all fun i => match ops[i]? with
    | none => true
    | some o => o.after.all (fun e => decide (e.on < i)) && (match o.dst with
      | none => true
      | some d => decide (d < N) && (List.range ops.size).all fun j => j == i || (match ops[j]? with | some p => p.dst != some d | none => true))

structure DrawOk (ops : Array Oper) (N : Nat) : Prop where
  before : ∀ (i : Nat) (o : Oper), ops[i]? = some o → ∀ e ∈ o.after, e.on < i
  room : ∀ (i : Nat) (o : Oper) (d : Tmp), ops[i]? = some o → o.dst = some d → d < N
  apart : ∀ (i j : Nat) (o p : Oper) (d : Tmp), ops[i]? = some o → ops[j]? = some p → j ≠ i → o.dst = some d → p.dst ≠ some d
theorem drawOk_spec {ops : Array Oper} {N : Nat} (h : drawOk ops N = true) : DrawOk ops N := by
  have key : ∀ (i : Nat) (o : Oper), ops[i]? = some o → o.after.all (fun e => decide (e.on < i)) = true ∧ (match o.dst with
      | none => true
      | some d => decide (d < N) && (List.range ops.size).all fun j => j == i || (match ops[j]? with | some p => p.dst != some d | none => true)) = true := by
    intro i o ho
    have hlt : i < ops.size := (Array.getElem?_eq_some_iff.1 ho).1
    have := List.all_eq_true.1 h i (List.mem_range.2 hlt)
    simp only [ho, Bool.and_eq_true] at this
    exact this
  refine ⟨fun i o ho e he => ?_, fun i o d ho hd => ?_, fun i j o p d ho hp hj hd hpd => ?_⟩
  · have := Array.all_eq_true_iff_forall_mem.1 (key i o ho).1 e he
    exact of_decide_eq_true this
  · have := (key i o ho).2
    rw [hd] at this
    simp only [Bool.and_eq_true] at this
    exact of_decide_eq_true this.1
  · have := (key i o ho).2
    rw [hd] at this
    simp only [Bool.and_eq_true] at this
    have h2 := List.all_eq_true.1 this.2 j (List.mem_range.2 (Array.getElem?_eq_some_iff.1 hp).1)
    simp only [hp, Bool.or_eq_true, beq_iff_eq, hj, false_or, bne_iff_ne, ne_eq] at h2
    exact h2 hpd

/-- What one operation owes. -/
def Owes (P : Program) (md : Region.Mode) (ops : Array Oper) (Q : Exit → Act → World → Prop) (V : Tmp → Value → World → Prop) (G : World → Prop) (a0 : Act) (i : Nat) (o : Oper) : Prop :=
  ∀ a w, Agree ops a0 a → G w → AllV V a w (waits md ops o) →
    wpOp P ops Q i (fun a' w' => ∃ v, a' = a.put o.dst v ∧ (∀ t, o.dst = some t → V t v w') ∧ G w' ∧ ∀ t x, V t x w → V t x w') a w

theorem eval_put_same {a : Act} {d : Tmp} (h : d < a.tmps.size) (v : Value) : (a.put (some d) v).eval (.tmp d) = v := by
  simp [Act.put, Act.eval, h]
theorem size_put (a : Act) (d : Option Tmp) (v : Value) : (a.put d v).tmps.size = a.tmps.size := by
  cases d <;> simp [Act.put]
theorem defers_put (a : Act) (d : Option Tmp) (v : Value) : (a.put d v).defers = a.defers := by
  cases d <;> rfl

section
variable {P : Program} {ops : Array Oper} {Q : Exit → Act → World → Prop} {md : Region.Mode} {V : Tmp → Value → World → Prop} {G : World → Prop} {a0 : Act}

theorem ready_some (hok : DrawOk ops a0.tmps.size) {L : Array Bool} (hL : L.size = ops.size) : ∀ i, i < ops.size → L.getD i true = false → ∃ j, j ∈ Region.ready md ops L := by
  intro i
  induction i using Nat.strongRecOn with
  | ind i ih =>
    intro hi hun
    have ho : ops[i]? = some ops[i] := Array.getElem?_eq_getElem hi
    by_cases h : ∀ e ∈ ops[i].after, Region.binds md e = true → L.getD e.on false = true
    · exact ⟨i, mem_ready.2 ⟨hun, _, ho, h⟩⟩
    · have ⟨e, he⟩ := Classical.not_forall.1 h
      have ⟨he1, he2⟩ := Classical.not_imp.1 he
      have ⟨hb, hf⟩ := Classical.not_imp.1 he2
      have hlt := hok.before i _ ho e he1
      have hel : e.on < L.size := by omega
      refine ih e.on hlt (by omega) ?_
      simp [hel] at hf ⊢
      exact hf

theorem wpAny_vals (hok : DrawOk ops a0.tmps.size) (step : ∀ (i : Nat) (o : Oper), ops[i]? = some o → Owes P md ops Q V G a0 i o)
    (fin : ∀ a w, Agree ops a0 a → G w → (∀ (i : Nat) (o : Oper) (t : Tmp), ops[i]? = some o → o.dst = some t → V t (a.eval (.tmp t)) w) → Q .normal a w) :
    ∀ (fuel : Nat) (L : Array Bool) (a : Act) (w : World), unl L ops.size ≤ fuel → L.size = ops.size → Agree ops a0 a → G w →
      (∀ (i : Nat) (o : Oper) (t : Tmp), ops[i]? = some o → L.getD i true = true → o.dst = some t → V t (a.eval (.tmp t)) w) → wpAny P md ops Q fuel L a w := by
  have allL : ∀ L : Array Bool, L.size = ops.size → Region.ready md ops L = [] → ∀ (i : Nat) (o : Oper), ops[i]? = some o → L.getD i true = true := by
    intro L hL hr i o ho
    cases hc : L.getD i true with
    | true => rfl
    | false =>
      obtain ⟨j, hj⟩ := ready_some (md := md) hok hL i (Array.getElem?_eq_some_iff.1 ho).1 hc
      rw [hr] at hj; cases hj
  intro fuel
  induction fuel with
  | zero =>
    intro L a w hu hL ha hG hv
    have hr : Region.ready md ops L = [] := by
      apply List.eq_nil_iff_forall_not_mem.2
      intro j hj
      obtain ⟨hun, o, ho, _⟩ := mem_ready.1 hj
      have := unl_pos L ops.size j (Array.getElem?_eq_some_iff.1 ho).1 hun
      omega
    exact ⟨hr, fin a w ha hG (fun i o t ho ht => hv i o t ho (allL L hL hr i o ho) ht)⟩
  | succ fuel ih =>
    intro L a w hu hL ha hG hv
    refine ⟨fun hr => fin a w ha hG (fun i o t ho ht => hv i o t ho (allL L hL hr i o ho) ht), fun i hi => ?_⟩
    obtain ⟨hun, o, ho, hall⟩ := mem_ready.1 hi
    have hil : i < ops.size := (Array.getElem?_eq_some_iff.1 ho).1
    have hw : AllV V a w (waits md ops o) := AllV.of (by
      intro t ht
      unfold waits at ht
      obtain ⟨e, he, hd⟩ := List.mem_filterMap.1 ht
      obtain ⟨he1, he2⟩ := List.mem_filter.1 he
      cases hj : ops[e.on]? with
      | none => rw [hj] at hd; cases hd
      | some p =>
        rw [hj] at hd
        have hl := hall e (by simpa using he1) he2
        have hel : e.on < L.size := by rw [hL]; exact (Array.getElem?_eq_some_iff.1 hj).1
        exact hv e.on p t hj (by simp [hel] at hl ⊢; exact hl) hd)
    refine wpOp_mono (fun a' w' h => ?_) (step i o ho a w ha hG hw)
    obtain ⟨v, rfl, hvi, hG', hst⟩ := h
    refine ih _ _ _ ?_ (by simpa using hL) ?_ hG' ?_
    · have := unl_set L i hun ops.size
      rw [if_pos hil] at this; omega
    · refine ⟨by rw [size_put]; exact ha.size, by rw [defers_put]; exact ha.defers, fun t ht => ?_⟩
      rw [Act.eval_put (fun d hd e => ht i o ho (by cases e; exact hd))]
      exact ha.same t ht
    · intro j p t hp hl ht
      by_cases e : j = i
      · subst e
        rw [ho] at hp; cases hp
        rw [ht, eval_put_same (by rw [ha.size]; exact hok.room j o t ho ht)]
        exact hvi t ht
      · rw [Act.eval_put (fun d hd e2 => by cases e2; exact hok.apart i j o p t ho hp e hd ht)]
        rw [getD_set_ne true (Ne.symm e)] at hl
        exact hst _ _ (hv j p t hp hl ht)

/-- The obligations one after the other. -/
def OweAll (P : Program) (md : Region.Mode) (ops : Array Oper) (Q : Exit → Act → World → Prop) (V : Tmp → Value → World → Prop) (G : World → Prop) (a0 : Act) : Nat → List Oper → Prop
  | _, [] => True
  | k, o :: r => Owes P md ops Q V G a0 k o ∧ OweAll P md ops Q V G a0 (k + 1) r
theorem OweAll.get : ∀ {l : List Oper} {k : Nat}, OweAll P md ops Q V G a0 k l → ∀ (i : Nat) (o : Oper), l[i]? = some o → Owes P md ops Q V G a0 (k + i) o
  | _ :: _, k, h, 0, o, hi => by cases hi; exact h.1
  | _ :: r, k, h, i + 1, o, hi => by
    have := OweAll.get h.2 i o (by simpa using hi)
    rwa [show k + 1 + i = k + (i + 1) by omega] at this
  | [], _, _, i, o, hi => by simp at hi
theorem OweAll.cons {k : Nat} {o : Oper} {r : List Oper} (h : Owes P md ops Q V G a0 k o) (h2 : OweAll P md ops Q V G a0 (k + 1) r) : OweAll P md ops Q V G a0 k (o :: r) := ⟨h, h2⟩
theorem OweAll.nil {k : Nat} : OweAll P md ops Q V G a0 k [] := trivial

/-- A region that draws its order. -/
theorem wp_region_vals {id : Nat} {w : World} (V : Tmp → Value → World → Prop) (G : World → Prop) (N : Nat) (hm : P.follows .mixedOrders = true) (hok : drawOk ops N = true) (hN : a0.tmps.size = N) (hG : G w.drew)
    (step : OweAll P .any ops Q V G a0 0 ops.toList)
    (fin : ∀ a w, Agree ops a0 a → G w → (∀ (i : Nat) (o : Oper) (t : Tmp), ops[i]? = some o → o.dst = some t → V t (a.eval (.tmp t)) w) → Q .normal a w) : (Code.region id ops true).wp P Q a0 w := by
  subst hN
  have hok := drawOk_spec hok
  refine wp_region_any hm (wpAny_vals hok (V := V) (G := G) (fun i o ho => ?_) fin ops.size _ a0 _ (unl_le _ _) (by simp) ⟨rfl, rfl, fun _ _ => rfl⟩ hG ?_)
  · have := step.get i o (by simpa using ho)
    rwa [Nat.zero_add] at this
  · intro i o t ho hl _
    have hlt := (Array.getElem?_eq_some_iff.1 ho).1
    simp [hlt] at hl

/-- The slots of the operations. -/
def dsts (ops : Array Oper) : List Tmp := ops.toList.filterMap (·.dst)
def puts (f : Tmp → Value) (l : List Tmp) (b : Act) : Act := l.foldl (fun b t => b.put (some t) (f t)) b
theorem puts_spec (f : Tmp → Value) : ∀ (l : List Tmp) (b : Act), (∀ t ∈ l, t < b.tmps.size) →
    (puts f l b).tmps.size = b.tmps.size ∧ (puts f l b).defers = b.defers ∧ ∀ t, (puts f l b).eval (.tmp t) = if t ∈ l then f t else b.eval (.tmp t)
  | [], b, _ => ⟨rfl, rfl, fun t => by simp [puts]⟩
  | u :: r, b, h => by
    have ih := puts_spec f r (b.put (some u) (f u)) (fun t ht => by rw [size_put]; exact h t (by simp [ht]))
    refine ⟨ih.1.trans (size_put _ _ _), ih.2.1.trans (defers_put _ _ _), fun t => ?_⟩
    have e : puts f (u :: r) b = puts f r (b.put (some u) (f u)) := rfl
    rw [e, ih.2.2 t]
    by_cases h1 : t ∈ r
    · rw [if_pos h1, if_pos (by simp [h1])]
    · rw [if_neg h1]
      by_cases h2 : t = u
      · subst h2; rw [eval_put_same (h t (by simp)), if_pos (by simp)]
      · rw [Act.eval_put (fun d hd e2 => by cases hd; cases e2; exact h2 rfl), if_neg (by simp [h1, h2])]
theorem act_ext {a b : Act} (hs : a.tmps.size = b.tmps.size) (hd : a.defers = b.defers) (h : ∀ t, a.eval (.tmp t) = b.eval (.tmp t)) : a = b := by
  obtain ⟨ta, da⟩ := a
  obtain ⟨tb, db⟩ := b
  have : ta = tb := by
    apply Array.ext hs
    intro i h1 h2
    have := h i
    simpa [Act.eval, h1, h2] using this
  subst this
  cases hd
  rfl
theorem Agree.puts {a : Act} (ha : Agree ops a0 a) (hok : DrawOk ops a0.tmps.size) : a = puts (fun t => a.eval (.tmp t)) (dsts ops) a0 := by
  have hm : ∀ t ∈ dsts ops, ∃ (i : Nat) (o : Oper), ops[i]? = some o ∧ o.dst = some t := by
    intro t ht
    obtain ⟨o, ho, hd⟩ := List.mem_filterMap.1 ht
    obtain ⟨i, hi, e⟩ := List.getElem_of_mem ho
    refine ⟨i, o, ?_, hd⟩
    rw [← e]
    simp at hi
    simp [hi]
  have hp := puts_spec (fun t => a.eval (.tmp t)) (dsts ops) a0 (fun t ht => by obtain ⟨i, o, hi, hd⟩ := hm t ht; exact hok.room i o t hi hd)
  refine act_ext (ha.size.trans hp.1.symm) (ha.defers.trans hp.2.1.symm) (fun t => ?_)
  rw [hp.2.2 t]
  by_cases h : t ∈ dsts ops
  · rw [if_pos h]
  · rw [if_neg h]
    refine ha.same t (fun i o hi hd => h ?_)
    exact List.mem_filterMap.2 ⟨o, by simpa using Array.mem_of_getElem? hi, hd⟩

/-- A region that draws its order, what follows it at a known frame. -/
theorem wp_region_puts {id : Nat} {w : World} (V : Tmp → Value → World → Prop) (G : World → Prop) (N : Nat) (hm : P.follows .mixedOrders = true) (hok : drawOk ops N = true) (hN : a0.tmps.size = N) (hG : G w.drew)
    (step : OweAll P .any ops Q V G a0 0 ops.toList)
    (fin : ∀ f w, G w → (∀ (i : Nat) (o : Oper) (t : Tmp), ops[i]? = some o → o.dst = some t → V t (f t) w) → Q .normal (puts f (dsts ops) a0) w) : (Code.region id ops true).wp P Q a0 w :=
  wp_region_vals V G N hm hok hN hG step (fun a w ha hG hv => by
    subst hN
    rw [ha.puts (drawOk_spec hok)]
    exact fin _ w hG hv)

theorem AllV.get {a : Act} {w : World} : ∀ {l : List Tmp}, AllV V a w l → ∀ t, l.contains t = true → V t (a.eval (.tmp t)) w
  | [], _, t, h => by simp at h
  | u :: r, hh, t, h => by
    by_cases e : t = u
    · subst e; exact hh.1
    · exact AllV.get hh.2 t (by simpa [e] using h)
theorem Agree.outer {a : Act} (h : Agree ops a0 a) (t : Tmp) (ht : ops.all (fun o => o.dst != some t) = true) : a.eval (.tmp t) = a0.eval (.tmp t) := by
  refine h.same t (fun i o ho e => ?_)
  have := Array.all_eq_true_iff_forall_mem.1 ht o (Array.mem_of_getElem? ho)
  rw [e] at this; simp at this
theorem getD_bool {a : Act} {t : Tmp} {b : Bool} (h : a.eval (.tmp t) = .bool b) : a.tmps[t]? = some (.bool b) := by
  unfold Act.eval at h
  cases hc : a.tmps[t]? with
  | none => simp [hc, undef] at h
  | some x => simp [hc] at h; rw [h]
theorem wanted_of {o : Oper} {a : Act} {g : Nat} {want : Bool} {t : Tmp} (hg : o.guard = some (g, want)) (hd : (ops[g]?).bind (·.dst) = some t) (h : a.eval (.tmp t) = .bool want) : Region.wanted o (yielded ops a.tmps) = true := by
  unfold Region.wanted yielded
  rw [hg]
  simp only [hd, Option.bind_some, getD_bool h]
  simp
theorem wanted_free {o : Oper} {a : Act} (hg : o.guard = none) : Region.wanted o (yielded ops a.tmps) = true := by
  unfold Region.wanted; rw [hg]

/-- An operation that yields a value and turns nothing. -/
theorem owes_val {i : Nat} {o : Oper} {t : Tmp} (hi : ops[i]? = some o) (ht : o.dst = some t) (h : ∀ a w, Agree ops a0 a → G w → AllV V a w (waits md ops o) →
    ∃ v, Region.wanted o (yielded ops a.tmps) = true ∧ (execOp a.eval o).run P w = .ok (.value v) w ∧ V t v w) : Owes P md ops Q V G a0 i o := by
  intro a w ha hG hV
  obtain ⟨v, hw, hr, hv⟩ := h a w ha hG hV
  unfold wpOp
  rw [hi]
  simp only [hw, if_true, Oper.wp, hr, Oper.upon]
  exact .inl ⟨v, rfl, fun u hu => by rw [ht] at hu; cases hu; exact hv, hG, fun _ _ h => h⟩
/-- A call. -/
theorem owes_call {i : Nat} {o : Oper} {t : Tmp} (hi : ops[i]? = some o) (ht : o.dst = some t) (f : FuncId) (h : ∀ a w, Agree ops a0 a → G w → AllV V a w (waits md ops o) →
    ∃ args, Region.wanted o (yielded ops a.tmps) = true ∧ (execOp a.eval o).run P w = .ok (.enter f args) w ∧
      Calls P f args w fun e w' => ∃ v, e = .returned v ∧ V t v w' ∧ G w' ∧ ∀ t x, V t x w → V t x w') : Owes P md ops Q V G a0 i o := by
  intro a w ha hG hV
  obtain ⟨args, hw, hr, hc⟩ := h a w ha hG hV
  unfold wpOp
  rw [hi]
  simp only [hw, if_true, Oper.wp, hr, Oper.upon]
  refine .inl (hc.mono ?_)
  rintro e w' ⟨v, rfl, h1, h2, h3⟩
  exact ⟨v, rfl, fun u hu => by rw [ht] at hu; cases hu; exact h1, h2, h3⟩
end
end Go.Proofs.YtiegakeacghnfaaDoor

namespace Go.Proofs.YtiegakeacghnfaaDoor
open Go.RowKit

/-- What stays where nothing below turns. -/
structure Stays where
  p : Value → World → Prop
  old : ∀ {v : Value} {w w' : World}, p v w → Below w.heap.size w w' → p v w'
inductive Kd where
  | any
  | eq (v : Value)
  | st (s : Stays)
def VK : Kd → Value → World → Prop
  | .any, _, _ => True
  | .eq x, v, _ => v = x
  | .st s, v, w => s.p v w
theorem VK.old {k : Kd} {v : Value} {w w' : World} (h : VK k v w) (hb : Below w.heap.size w w') : VK k v w' := by
  cases k with
  | any => trivial
  | eq x => exact h
  | st s => exact s.old h hb
theorem not_wanted {ops : Array Oper} {o : Oper} {a : Act} {g : Nat} {want : Bool} {t : Tmp} {v : Value} (hg : o.guard = some (g, want)) (hd : (ops[g]?).bind (·.dst) = some t) (h : a.eval (.tmp t) = v) (hv : v ≠ .bool want) : Region.wanted o (yielded ops a.tmps) = false := by
  unfold Region.wanted yielded
  rw [hg]
  simp only [hd, Option.bind_some]
  unfold Act.eval at h
  cases hc : a.tmps[t]? with
  | none => rfl
  | some x =>
    simp [hc] at h
    subst h
    cases x with
    | bool b =>
      simp only [beq_eq_false_iff_ne, ne_eq, Option.some.injEq]
      intro e; exact hv (by rw [e])
    | _ => rfl
section
variable {P : Program} {ops : Array Oper} {Q : Exit → Act → World → Prop} {md : Region.Mode} {K : Tmp → Kd} {W : World} {a0 : Act}
/-- An operation that is not wanted. -/
theorem owesK_not {i : Nat} {o : Oper} {t : Tmp} (hi : ops[i]? = some o) (ht : o.dst = some t)
    (h : ∀ a w, Agree ops a0 a → Below W.heap.size W w → AllV (fun t v w => VK (K t) v w) a w (waits md ops o) → Region.wanted o (yielded ops a.tmps) = false ∧ VK (K t) undef w) : Owes P md ops Q (fun t v w => VK (K t) v w) (fun w => Below W.heap.size W w) a0 i o := by
  intro a w ha hG hV
  obtain ⟨hw, hv⟩ := h a w ha hG hV
  unfold wpOp
  rw [hi]
  simp only [hw]
  exact ⟨undef, rfl, fun u hu => by rw [ht] at hu; cases hu; exact hv, hG, fun _ _ h => h⟩
/-- An operation that yields a value, and may make memory. -/
theorem owesK {i : Nat} {o : Oper} {t : Tmp} (hi : ops[i]? = some o) (ht : o.dst = some t) (h : ∀ a w, Agree ops a0 a → Below W.heap.size W w → AllV (fun t v w => VK (K t) v w) a w (waits md ops o) →
    ∃ v w', Region.wanted o (yielded ops a.tmps) = true ∧ (execOp a.eval o).run P w = .ok (.value v) w' ∧ Below w.heap.size w w' ∧ VK (K t) v w') : Owes P md ops Q (fun t v w => VK (K t) v w) (fun w => Below W.heap.size W w) a0 i o := by
  intro a w ha hG hV
  obtain ⟨v, w', hw, hr, hb, hv⟩ := h a w ha hG hV
  unfold wpOp
  rw [hi]
  simp only [hw, if_true, Oper.wp, hr, Oper.upon]
  exact .inl ⟨v, rfl, fun u hu => by rw [ht] at hu; cases hu; exact hv, hG.trans (hb.mono hG.size), fun _ _ h => VK.old h hb⟩
/-- A call. -/
theorem owesK_call {i : Nat} {o : Oper} {t : Tmp} (hi : ops[i]? = some o) (ht : o.dst = some t) (f : FuncId) (h : ∀ a w, Agree ops a0 a → Below W.heap.size W w → AllV (fun t v w => VK (K t) v w) a w (waits md ops o) →
    ∃ args, Region.wanted o (yielded ops a.tmps) = true ∧ (execOp a.eval o).run P w = .ok (.enter f args) w ∧
      Calls P f args w fun e w' => ∃ v, e = .returned v ∧ VK (K t) v w' ∧ Below w.heap.size w w') : Owes P md ops Q (fun t v w => VK (K t) v w) (fun w => Below W.heap.size W w) a0 i o := by
  intro a w ha hG hV
  obtain ⟨args, hw, hr, hc⟩ := h a w ha hG hV
  unfold wpOp
  rw [hi]
  simp only [hw, if_true, Oper.wp, hr, Oper.upon]
  refine .inl (hc.mono ?_)
  rintro e w' ⟨v, rfl, h1, hb⟩
  exact ⟨v, rfl, fun u hu => by rw [ht] at hu; cases hu; exact h1, hG.trans (hb.mono hG.size), fun _ _ h => VK.old h hb⟩
end
end Go.Proofs.YtiegakeacghnfaaDoor

namespace Go.Proofs.YtiegakeacghnfaaDoor
open Go.RowKit

theorem run_loadBytes (w : World) (g : Nat) : ∀ (s : List UInt8) (off : Nat) (acc : ByteArray), (∀ i (hi : i < s.length), w.cell? ⟨g, off + i, none⟩ = some (.int .u8 (s[i].toNat : Int))) →
    (Extern.Bytes.loadBytes ⟨g, off, none⟩ s.length acc).run Tryd.prog w = .ok (acc ++ ⟨s.toArray⟩) w
  | [], off, acc, _ => by
    simp only [List.length_nil, Extern.Bytes.loadBytes, Sem.run_pure]
    congr 1
    apply ByteArray.ext; simp
  | b :: s, off, acc, h => by
    have h0 := h 0 (by simp)
    simp only [Nat.add_zero, List.getElem_cons_zero] at h0
    have hl : (load ⟨g, off, none⟩).run Tryd.prog w = .ok (.int .u8 (b.toNat : Int)) w := by simp [go_sem, h0]
    have hadd : (⟨g, off, none⟩ : Addr).add 1 = ⟨g, off + 1, none⟩ := rfl
    have ih := run_loadBytes w g s (off + 1) (acc.push b) (fun i hi => by
      have := h (i + 1) (by simpa using hi)
      rw [show off + 1 + i = off + (i + 1) by omega]
      simpa using this)
    simp only [List.length_cons, Extern.Bytes.loadBytes, Sem.run_bind, hl, Result.andThen_ok, hadd]
    have hb : (b.toNat : Int).toNat.toUInt8 = b := by simp
    rw [hb, ih]
    congr 1
    apply ByteArray.ext; simp
theorem IdAt.compare {w : World} {g h : Nat} {s t : List UInt8} (hs : IdAt w g s) (ht : IdAt w h t) :
    (Extern.BytealgCompare.compare #[.slice (some ⟨g, 0, none⟩) 32 32, .slice (some ⟨h, 0, none⟩) 32 32]).run Tryd.prog w = .ok (.int .i64 (Lib.compareBytes s t)) w := by
  have h1 := run_loadBytes w g s 0 .empty (fun i hi => by rw [Nat.zero_add]; exact hs.cell i hi)
  have h2 := run_loadBytes w h t 0 .empty (fun i hi => by rw [Nat.zero_add]; exact ht.cell i hi)
  rw [hs.1] at h1
  rw [ht.1] at h2
  have e : Extern.BytealgCompare.compare #[.slice (some ⟨g, 0, none⟩) 32 32, .slice (some ⟨h, 0, none⟩) 32 32] = (do pure (goInt (Extern.BytealgCompare.cmp (← Extern.Bytes.loadBytes ⟨g, 0, none⟩ 32 .empty) (← Extern.Bytes.loadBytes ⟨h, 0, none⟩ 32 .empty)))) := rfl
  rw [e]
  simp only [Sem.run_bind, h1, h2, Result.andThen_ok, Sem.run_pure, Lib.cmp_eq, goInt]
  simp
set_option maxHeartbeats 1000000 in
set_option maxRecDepth 20000 in
theorem bcompare_any (g h : Nat) (s t : List UInt8) (w : World) (hs : IdAt w g s) (ht : IdAt w h t) :
    Calls Tryd.prog 59 #[.slice (some ⟨g, 0, none⟩) 32 32, .slice (some ⟨h, 0, none⟩) 32 32] w fun r w' => r = .returned (.int .i64 (Lib.compareBytes s t)) ∧ w = w' := by
  have hc := hs.compare ht
  obtain ⟨x, hx⟩ : ∃ x, x = Lib.compareBytes s t := ⟨_, rfl⟩
  rw [← hx] at hc ⊢
  clear hx hs ht
  go_enter Tryd.func59, Tryd.ntmps59
  go_wp2
  rw [run_callFunc_extern Tryd.func74 (by kernel_rfl) (by kernel_rfl) (by kernel_rfl) (e := Extern.BytealgCompare.compare) (by kernel_rfl), hc]
  simp only [Result.andThen]
  rw [Oper.upon_value]
  go_wp2
  go_ret
  exact ⟨rfl, rfl⟩

set_option maxHeartbeats 1000000 in
set_option maxRecDepth 20000 in
theorem hcompare_any (n1 n2 : List UInt8) (w : World) (hs : n1.length = 32) (ht : n2.length = 32) :
    Calls Tryd.prog 44 #[.agg (vals n1).toArray, .agg (vals n2).toArray] w fun r w' => r = .returned (.int .i64 (Lib.compareBytes n1 n2)) ∧ Below w.heap.size w w' := by
  have hA : IdAt ((w.alloc (.cells (vals n1).toArray 39)).alloc (.cells (vals n2).toArray 39)) w.heap.size n1 := ⟨hs, by rw [Below.heap_alloc _ _ _ (by simp)]; exact heap_alloc_new w _⟩
  have hB : IdAt ((w.alloc (.cells (vals n1).toArray 39)).alloc (.cells (vals n2).toArray 39)) (w.heap.size + 1) n2 := ⟨ht, by have := heap_alloc_new (w.alloc (.cells (vals n1).toArray 39)) (.cells (vals n2).toArray 39); simpa using this⟩
  have hb : Below w.heap.size w ((w.alloc (.cells (vals n1).toArray 39)).alloc (.cells (vals n2).toArray 39)) := ((Below.refl _ w).alloc (Nat.le_refl _) _).alloc (by simp) _
  have s1 := id_size hs
  have s2 := id_size ht
  have HA := Lib.hid hA
  have HB := Lib.hid hB
  have Hb := Lib.hid hb
  clear hA hB hb
  generalize (vals n1).toArray = S at s1 HA HB Hb ⊢
  generalize (vals n2).toArray = T at s2 HA HB Hb ⊢
  go_enter Tryd.func44, Tryd.ntmps44
  go_wp2_with fail
  generalize (w.alloc (.cells S 39)).alloc (.cells T 39) = W at HA HB Hb ⊢
  generalize w.heap.size = n0 at HA HB ⊢
  refine wp_region_puts (fun t v w => VK (match t with
    | 5 => .eq (.slice (some ⟨n0, 0, none⟩) 32 32)
    | 6 => .eq (.slice (some ⟨n0 + 1, 0, none⟩) 32 32)
    | 7 => .eq (.int .i64 (Lib.compareBytes n1 n2))
    | 4 => .eq (.int .i64 (Lib.compareBytes n1 n2))
    | _ => .any) v w) (fun w' => Below W.heap.size W w') 8 (by kernel_rfl) (by decide +kernel) rfl (Below.refl _ _).drew (by
    refine OweAll.cons (owesK rfl rfl fun a w1 ha hG hV => ?_) ?_
    · skip
      have h2 := ha.outer 2 (by decide +kernel)
      simp only [Act.eval] at h2
      exact ⟨.slice (some ⟨n0, 0, none⟩) 32 32, w1, wanted_free rfl, by simp [execOp, go_sem, h2], Below.refl _ _, rfl⟩
    refine OweAll.cons (owesK rfl rfl fun a w1 ha hG hV => ?_) ?_
    · skip
      have h3 := ha.outer 3 (by decide +kernel)
      simp only [Act.eval] at h3
      exact ⟨.slice (some ⟨n0 + 1, 0, none⟩) 32 32, w1, wanted_free rfl, by simp [execOp, go_sem, h3], Below.refl _ _, rfl⟩
    refine OweAll.cons (owesK_call rfl rfl 59 fun a w1 ha hG hV => ?_) ?_
    · skip
      have h5 : a.tmps.getD 5 undef = .slice (some ⟨n0, 0, none⟩) 32 32 := hV.get 5 (by decide +kernel)
      have h6 : a.tmps.getD 6 undef = .slice (some ⟨n0 + 1, 0, none⟩) 32 32 := hV.get 6 (by decide +kernel)
      refine ⟨#[.slice (some ⟨n0, 0, none⟩) 32 32, .slice (some ⟨n0 + 1, 0, none⟩) 32 32], wanted_free rfl, by simp [go_sem, h5, h6], ?_⟩
      refine (bcompare_any _ _ n1 n2 w1 (HA.out.old hG) (HB.out.old hG)).mono ?_
      rintro r u2 ⟨rfl, rfl⟩; exact ⟨_, rfl, rfl, Below.refl _ _⟩
    refine OweAll.cons (owesK rfl rfl fun a w1 ha hG hV => ?_) ?_
    · skip
      have h7 : a.tmps.getD 7 undef = .int .i64 (Lib.compareBytes n1 n2) := hV.get 7 (by decide +kernel)
      exact ⟨.int .i64 (Lib.compareBytes n1 n2), w1, wanted_free rfl, by simp [execOp, go_sem, h7], Below.refl _ _, rfl⟩
    exact OweAll.nil
    ) ?_
  intro f wz hG hv
  have e4 : f 4 = .int .i64 (Lib.compareBytes n1 n2) := hv 3 _ 4 rfl rfl
  rename_i hK
  refine hK _ _ ?_
  clear hK hv
  simp only [dsts, puts, List.filterMap_cons, List.filterMap_nil, List.foldl_cons, List.foldl_nil, Act.put, List.setIfInBounds_toArray, List.set_cons_succ, List.set_cons_zero, e4]
  clear e4
  have HG := Lib.hid (Hb.out.trans (hG.mono Hb.out.size))
  clear hG
  go_wp2_with fail
  go_ret
  exact ⟨rfl, HG.out⟩
end Go.Proofs.YtiegakeacghnfaaDoor

namespace Go.Proofs.YtiegakeacghnfaaDoor
open Go.RowKit

/-- Names. -/
abbrev Nm := { s : List UInt8 // s.length = 32 }
def encN : Enc Nm := ⟨fun s => vals s.1, 32, fun s => by rw [vals_len]; exact s.2, fun s => vals_one s.1, by decide⟩
theorem exec_load_mid {o : Oper} {a : Act} {w : World} (x : Operand) (ho : o.op = .load 39 x) (b off : Nat) (hx : a.eval x = .pointer (some ⟨b, off, none⟩)) (s : Nm)
    (hc : ∀ i u, (encN.f s)[i]? = some u → w.cell? ⟨b, off + i, none⟩ = some u) : (execOp a.eval o).run Tryd.prog w = .ok (.value (.agg (vals s.1).toArray)) w := by
  have hl := run_loadVar_mid (P := Tryd.prog) w b off 39 (vals s.1) _ (fun j v hv => hc j v hv) Tryd.underlying39 rfl (by rw [vals_len, s.2]; kernel_rfl)
  unfold execOp
  simp only [ho, hx, Instr.loadAt, Instr.sureAddr, Sem.run_bind, Sem.run_pure, Result.andThen_ok, hl]
/-- The first k + 1 rise. -/
def rs (L : List (List UInt8)) (k : Nat) : Bool := (List.range k).all fun i => decide (Lib.compareBytes (L.getD i []) (L.getD (i + 1) []) < 0)
theorem rs_succ (L : List (List UInt8)) (k : Nat) : rs L (k + 1) = (rs L k && decide (Lib.compareBytes (L.getD k []) (L.getD (k + 1) []) < 0)) := by
  unfold rs; rw [List.range_succ, List.all_append]; simp
theorem rs_stop {L : List (List UInt8)} {k n : Nat} (h : rs L (k + 1) = false) (hn : k < n) : rs L n = false := by
  obtain ⟨m, rfl⟩ : ∃ m, n = k + 1 + m := ⟨n - (k + 1), by omega⟩
  induction m with
  | zero => exact h
  | succ m ih => rw [← Nat.add_assoc, rs_succ, ih (by omega)]; rfl

set_option maxRecDepth 20000 in
set_option maxHeartbeats 4000000 in
theorem rising_any (ao : Option Addr) (cap : Nat) (L : List Nm) (w : World) (hL : Rd encN w ao L) (hn : L.length ≤ 1000000) :
    Calls Tryd.prog 28 #[.slice ao L.length cap] w fun r w' => r = .returned (.bool (rs (L.map (·.1)) (L.length - 1))) ∧ Below w.heap.size w w' := by
  obtain ⟨n, hnL⟩ : ∃ n, n = L.length := ⟨_, rfl⟩
  rw [← hnL] at hn ⊢
  obtain ⟨R, hR⟩ : ∃ R, R = rs (L.map (·.1)) (n - 1) := ⟨_, rfl⟩
  rw [← hR]
  have HR := Lib.hid hR
  clear hR
  have Hn := Lib.hid hnL
  have HL := Lib.hid hL
  have hB0 := Below.refl w.heap.size w
  clear hnL hL
  go_enter Tryd.func28, Tryd.ntmps28
  go_wp2_with fail
  go_loopw [3] (fun s3 wr => ∃ k : Nat, k ≤ n ∧ s3 = .int .i64 ((k : Int) + 1) ∧ Hid (rs (L.map (·.1)) k = true) ∧ Hid (k ≤ n - 1) ∧ Below w.heap.size w wr) (fun i _ => n + 1 - (intOf i).toNat)
  case atStart => exact ⟨0, by omega, by go_num, Lib.hid rfl, Lib.hid (Nat.zero_le _), hB0⟩
  case round =>
    clear hB0
    obtain ⟨i, hi, rfl, hrs, hin, hB⟩ := hrel
    by_cases hlt : i + 1 < n
    · have h1 : i < L.length := by rw [← Hn.out]; omega
      have h2 : i + 1 < L.length := by rw [← Hn.out]; omega
      obtain ⟨bs, off, rfl, hbs, c1⟩ := (HL.out.old hB) i h1
      obtain ⟨bs', off', e, _, c2⟩ := (HL.out.old hB) (i + 1) h2
      cases e
      have C1 : Hid (∀ w', Below wr.heap.size wr w' → ∀ k u, (encN.f L[i])[k]? = some u → w'.cell? ⟨bs, off + i * 32 + k, none⟩ = some u) := Lib.hid (fun w' hb k u hu => (World.cell?_of_block (hb.block bs hbs)).trans (c1 k u hu))
      have C2 : Hid (∀ w', Below wr.heap.size wr w' → ∀ k u, (encN.f L[i + 1])[k]? = some u → w'.cell? ⟨bs, off + (i + 1) * 32 + k, none⟩ = some u) := Lib.hid (fun w' hb k u hu => (World.cell?_of_block (hb.block bs hbs)).trans (c2 k u hu))
      obtain ⟨x, hx⟩ : ∃ x, x = L[i] := ⟨_, rfl⟩
      obtain ⟨y, hy⟩ : ∃ y, y = L[i + 1] := ⟨_, rfl⟩
      have hgx : (L.map (·.1)).getD i [] = x.1 := by simp [List.getD, h1, hx]
      have hgy : (L.map (·.1)).getD (i + 1) [] = y.1 := by simp [List.getD, h2, hy]
      have hsu := rs_succ (L.map (·.1)) i
      rw [hgx, hgy, hrs.out, Bool.true_and] at hsu
      rw [← hx] at C1
      rw [← hy] at C2
      obtain ⟨c, hc⟩ : ∃ c, c = Lib.compareBytes x.1 y.1 := ⟨_, rfl⟩
      have hcmp : Hid (∀ w, Calls Tryd.prog 44 #[.agg (vals x.1).toArray, .agg (vals y.1).toArray] w fun r w' => r = .returned (.int .i64 c) ∧ Below w.heap.size w w') := Lib.hid (fun w => by rw [hc]; exact hcompare_any x.1 y.1 w x.2 y.2)
      rw [← hc] at hsu
      have Hsu := Lib.hid hsu
      have i0 : (0 : Int) ≤ i := by omega
      have i1 : (i : Int) < n := by omega
      have i2 : (i : Int) + 1 < n := by omega
      have e1 : IntKind.i64.wrap ((i : Int) + 1 - 1) = (i : Int) := by rw [IntWalk.i64_in _ (by omega)]; omega
      have e0 : IntKind.i64.wrap (i : Int) = (i : Int) := IntWalk.i64_in _ (by omega)
      have e2 : ((i : Int) + 1).toNat = i + 1 := by omega
      have e3 : (0 : Int) ≤ (i : Int) + 1 := by omega
      have HB := Lib.hid hB
      clear hx hy hgx hgy hsu hc c1 c2 hB hrs
      go_wp2_with fail
      refine wp_region_puts (fun t v w => VK (match t with
        | 10 => .eq (.slice (some ⟨bs, off, none⟩) n cap)
        | 11 => .eq (.int .i64 ((i : Int) + 1))
        | 12 => .eq (.int .i64 (i : Int))
        | 13 => .eq (.pointer (some ⟨bs, off + i * 32, none⟩))
        | 14 => .eq (.agg (vals x.1).toArray)
        | 15 => .eq (.slice (some ⟨bs, off, none⟩) n cap)
        | 16 => .eq (.int .i64 ((i : Int) + 1))
        | 17 => .eq (.pointer (some ⟨bs, off + (i + 1) * 32, none⟩))
        | 18 => .eq (.agg (vals y.1).toArray)
        | 19 => .eq (.int .i64 c)
        | 20 => .eq (.bool (decide (0 ≤ c)))
        | _ => .any) v w) (fun w' => Below wr.heap.size wr w') 21 (by kernel_rfl) (by decide +kernel) rfl (Below.refl _ _).drew (by
        refine OweAll.cons (owesK rfl rfl fun a w1 ha hG hV => ?_) ?_
        · skip
          have h0 := ha.outer 0 (by decide +kernel)
          simp only [Act.eval] at h0
          exact ⟨.slice (some ⟨bs, off, none⟩) n cap, w1, wanted_free rfl, by simp [execOp, go_sem, h0], Below.refl _ _, rfl⟩
        refine OweAll.cons (owesK rfl rfl fun a w1 ha hG hV => ?_) ?_
        · skip
          have h3 := ha.outer 3 (by decide +kernel)
          simp only [Act.eval] at h3
          exact ⟨.int .i64 ((i : Int) + 1), w1, wanted_free rfl, by simp [execOp, go_sem, h3], Below.refl _ _, rfl⟩
        refine OweAll.cons (owesK rfl rfl fun a w1 ha hG hV => ?_) ?_
        · skip
          have h11 : a.tmps.getD 11 undef = .int .i64 ((i : Int) + 1) := hV.get 11 (by decide +kernel)
          exact ⟨.int .i64 (i : Int), w1, wanted_free rfl, by simp [execOp, go_sem, h11, e0], Below.refl _ _, rfl⟩
        refine OweAll.cons (owesK rfl rfl fun a w1 ha hG hV => ?_) ?_
        · skip
          have h10 : a.tmps.getD 10 undef = .slice (some ⟨bs, off, none⟩) n cap := hV.get 10 (by decide +kernel)
          have h12 : a.tmps.getD 12 undef = .int .i64 (i : Int) := hV.get 12 (by decide +kernel)
          exact ⟨.pointer (some ⟨bs, off + i * 32, none⟩), w1, wanted_free rfl, by simp [execOp, go_sem, h10, h12, i0, i1], Below.refl _ _, rfl⟩
        refine OweAll.cons (owesK rfl rfl fun a w1 ha hG hV => ?_) ?_
        · skip
          have h13 : a.tmps.getD 13 undef = .pointer (some ⟨bs, off + i * 32, none⟩) := hV.get 13 (by decide +kernel)
          exact ⟨.agg (vals x.1).toArray, w1, wanted_free rfl, exec_load_mid (.tmp 13) rfl bs (off + i * 32) h13 x (C1.out w1 hG), Below.refl _ _, rfl⟩
        refine OweAll.cons (owesK rfl rfl fun a w1 ha hG hV => ?_) ?_
        · skip
          have h0 := ha.outer 0 (by decide +kernel)
          simp only [Act.eval] at h0
          exact ⟨.slice (some ⟨bs, off, none⟩) n cap, w1, wanted_free rfl, by simp [execOp, go_sem, h0], Below.refl _ _, rfl⟩
        refine OweAll.cons (owesK rfl rfl fun a w1 ha hG hV => ?_) ?_
        · skip
          have h3 := ha.outer 3 (by decide +kernel)
          simp only [Act.eval] at h3
          exact ⟨.int .i64 ((i : Int) + 1), w1, wanted_free rfl, by simp [execOp, go_sem, h3], Below.refl _ _, rfl⟩
        refine OweAll.cons (owesK rfl rfl fun a w1 ha hG hV => ?_) ?_
        · skip
          have h15 : a.tmps.getD 15 undef = .slice (some ⟨bs, off, none⟩) n cap := hV.get 15 (by decide +kernel)
          have h16 : a.tmps.getD 16 undef = .int .i64 ((i : Int) + 1) := hV.get 16 (by decide +kernel)
          exact ⟨.pointer (some ⟨bs, off + (i + 1) * 32, none⟩), w1, wanted_free rfl, by simp [execOp, go_sem, h15, h16, e2, e3, i2], Below.refl _ _, rfl⟩
        refine OweAll.cons (owesK rfl rfl fun a w1 ha hG hV => ?_) ?_
        · skip
          have h17 : a.tmps.getD 17 undef = .pointer (some ⟨bs, off + (i + 1) * 32, none⟩) := hV.get 17 (by decide +kernel)
          exact ⟨.agg (vals y.1).toArray, w1, wanted_free rfl, exec_load_mid (.tmp 17) rfl bs (off + (i + 1) * 32) h17 y (C2.out w1 hG), Below.refl _ _, rfl⟩
        refine OweAll.cons (owesK_call rfl rfl 44 fun a w1 ha hG hV => ?_) ?_
        · skip
          have h14 : a.tmps.getD 14 undef = .agg (vals x.1).toArray := hV.get 14 (by decide +kernel)
          have h18 : a.tmps.getD 18 undef = .agg (vals y.1).toArray := hV.get 18 (by decide +kernel)
          refine ⟨#[.agg (vals x.1).toArray, .agg (vals y.1).toArray], wanted_free rfl, by simp [go_sem, h14, h18], ?_⟩
          refine (hcmp.out w1).mono ?_
          rintro r u2 ⟨rfl, hb⟩; exact ⟨_, rfl, rfl, hb⟩
        refine OweAll.cons (owesK rfl rfl fun a w1 ha hG hV => ?_) ?_
        · skip
          have h19 : a.tmps.getD 19 undef = .int .i64 c := hV.get 19 (by decide +kernel)
          exact ⟨.bool (decide (0 ≤ c)), w1, wanted_free rfl, by simp [execOp, go_sem, h19], Below.refl _ _, rfl⟩
        exact OweAll.nil
        ) ?_
      intro f wz hG hv
      have e20 : f 20 = .bool (decide (0 ≤ c)) := hv 10 _ 20 rfl rfl
      rename_i hK
      refine hK _ _ ?_
      clear hK hv
      simp only [dsts, puts, List.filterMap_cons, List.filterMap_nil, List.foldl_cons, List.foldl_nil, Act.put, List.setIfInBounds_toArray, List.set_cons_succ, List.set_cons_zero, e20]
      clear e20
      have HG := Lib.hid (HB.out.trans (hG.mono HB.out.size))
      clear hG
      by_cases hc : 0 ≤ c
      · have t1 : decide (0 ≤ c) = true := decide_eq_true hc
        have hfin : R = false := HR.out.trans <| rs_stop (k := i) (by rw [Hsu.out, decide_eq_false_iff_not]; omega) (by omega)
        have Hfin := Lib.hid hfin
        clear hfin
        go_wp2_with fail
        go_ret
        exact ⟨by rw [Hfin.out]; rfl, HG.out⟩
      · have t1 : decide (0 ≤ c) = false := decide_eq_false hc
        have hnx : Hid (rs (L.map (·.1)) (i + 1) = true) := Lib.hid (by rw [Hsu.out, decide_eq_true_eq]; omega)
        go_wp2_with fail
        go_roundw
        case rel => exact ⟨i + 1, by omega, by go_num, hnx, Lib.hid (by omega), HG.out⟩
        case measure => simp [intOf]; omega
    · have hfin : R = true := by rw [HR.out]; have h := hin.out; have e : i = n - 1 := (by omega); rw [← e]; exact hrs.out
      have Hfin := Lib.hid hfin
      clear hfin
      have i2 : ¬ (i : Int) + 1 < n := by omega
      go_wp2_with fail
      go_ret
      exact ⟨by rw [Hfin.out]; rfl, hB⟩
end Go.Proofs.YtiegakeacghnfaaDoor

namespace Go.Proofs.YtiegakeacghnfaaDoor
open Go.RowKit

/-- A header's fields; its parents of whatever kind. -/
structure Hd (α : Type) where
  ht : Int
  mi : Int
  tk : List UInt8
  wi : Int
  pw : Nat
  ps : List α
  sa : Int
def hcells {α : Type} (h : Hd α) (ao : Option Addr) (cap : Nat) : Array Value := #[.int .i64 h.ht, .int .i64 h.mi, .string ⟨h.tk.toArray⟩, .int .i64 h.wi, .int .u64 (h.pw : Int), .slice ao h.ps.length cap, .int .i64 h.sa]
/-- Which headers may be, but for their parents' order. -/
def chk {α : Type} (h : Hd α) (R : Bool) : Int :=
  if 5 < h.ps.length then 4
  else if (h.ht < 1 ∨ 1073741824 < h.ht) ∨ (h.mi < 0 ∨ 64 ≤ h.mi) ∨ (h.tk.length < 1 ∨ 8 < h.tk.length) ∨ (h.wi < 1 ∨ 15 < h.wi) ∨ (h.pw < 2 ∨ 4611686018427387904 < h.pw) ∨ (h.ps.length < 1 ∨ R = false) ∨ (h.sa < 0 ∨ 1073741824 < h.sa) then 1 else 0
theorem bcellH {W W' : World} (hb : Below W.heap.size W W') : (∀ b o, b < W.heap.size → W'.cell? ⟨b, o, none⟩ = W.cell? ⟨b, o, none⟩) ∧ (∀ b o, b < W.heap.size → W'.frozen? ⟨b, o, none⟩ = W.frozen? ⟨b, o, none⟩) :=
  ⟨fun b o h => hb.cell (p := ⟨b, o, none⟩) h, fun b o h => hb.frozen (p := ⟨b, o, none⟩) h⟩
set_option maxRecDepth 20000 in
set_option maxHeartbeats 2000000 in
theorem hchk_big (h : Hd Nm) (ao : Option Addr) (cap : Nat) (w : World) (hL : Rd encN w ao h.ps) (l n : Nat) (hl : l = h.tk.length) (hn : n = h.ps.length) (R : Bool) (hR : R = rs (h.ps.map (·.1)) (n - 1)) (g0 : 5 < n) :
    Calls Tryd.prog 9 #[.agg (hcells h ao cap)] w fun r w' => r = .returned (.int .i64 4) ∧ Below w.heap.size w w' := by
  obtain ⟨ht, mi, tk, wi, pw, ps, sa⟩ := h
  simp only at *
  unfold hcells
  simp only
  rw [← hn]
  have hsz : (ByteArray.mk tk.toArray).size = l := hl.symm
  have Hris : Hid (∀ w', Below w.heap.size w w' → n ≤ 1000000 → Calls Tryd.prog 28 #[.slice ao n cap] w' fun r w'' => r = .returned (.bool R) ∧ Below w'.heap.size w' w'') := Lib.hid (fun w' hb h6 => by
    have := rising_any ao cap ps w' (hL.old hb) (by omega)
    rw [← hn, ← hR] at this; exact this)
  clear hl hL hn hR
  have f5 : 5 < (n : Int) := by omega
  have hb0 : Below w.heap.size w (w.alloc (.cells #[.int .i64 ht, .int .i64 mi, .string ⟨tk.toArray⟩, .int .i64 wi, .int .u64 (pw : Int), .slice ao n cap, .int .i64 sa] 30)) := (Below.refl _ w).alloc (Nat.le_refl _) _
  clear g0
  go_enter Tryd.func9, Tryd.ntmps9
  go_wp2_with fail
  go_ret
  exact ⟨rfl, hb0⟩
set_option maxRecDepth 20000 in
set_option maxHeartbeats 2000000 in
theorem hchk_ht1 (h : Hd Nm) (ao : Option Addr) (cap : Nat) (w : World) (hL : Rd encN w ao h.ps) (l n : Nat) (hl : l = h.tk.length) (hn : n = h.ps.length) (R : Bool) (hR : R = rs (h.ps.map (·.1)) (n - 1)) (g0 : ¬ 5 < n) (g1 : h.ht < 1) :
    Calls Tryd.prog 9 #[.agg (hcells h ao cap)] w fun r w' => r = .returned (.int .i64 1) ∧ Below w.heap.size w w' := by
  obtain ⟨ht, mi, tk, wi, pw, ps, sa⟩ := h
  simp only at *
  unfold hcells
  simp only
  rw [← hn]
  have hsz : (ByteArray.mk tk.toArray).size = l := hl.symm
  have Hris : Hid (∀ w', Below w.heap.size w w' → n ≤ 1000000 → Calls Tryd.prog 28 #[.slice ao n cap] w' fun r w'' => r = .returned (.bool R) ∧ Below w'.heap.size w' w'') := Lib.hid (fun w' hb h6 => by
    have := rising_any ao cap ps w' (hL.old hb) (by omega)
    rw [← hn, ← hR] at this; exact this)
  clear hl hL hn hR
  have f5 : (n : Int) ≤ 5 := by omega
  have f5' : n ≤ 5 := by omega
  have e1 : ht < 1 := by omega
  have hb0 : Below w.heap.size w (w.alloc (.cells #[.int .i64 ht, .int .i64 mi, .string ⟨tk.toArray⟩, .int .i64 wi, .int .u64 (pw : Int), .slice ao n cap, .int .i64 sa] 30)) := (Below.refl _ w).alloc (Nat.le_refl _) _
  clear g0 g1
  go_enter Tryd.func9, Tryd.ntmps9
  go_wp2_with fail
  go_ret
  exact ⟨rfl, hb0⟩
set_option maxRecDepth 20000 in
set_option maxHeartbeats 2000000 in
theorem hchk_ht2 (h : Hd Nm) (ao : Option Addr) (cap : Nat) (w : World) (hL : Rd encN w ao h.ps) (l n : Nat) (hl : l = h.tk.length) (hn : n = h.ps.length) (R : Bool) (hR : R = rs (h.ps.map (·.1)) (n - 1)) (g0 : ¬ 5 < n) (g1 : ¬ h.ht < 1) (g2 : 1073741824 < h.ht) :
    Calls Tryd.prog 9 #[.agg (hcells h ao cap)] w fun r w' => r = .returned (.int .i64 1) ∧ Below w.heap.size w w' := by
  obtain ⟨ht, mi, tk, wi, pw, ps, sa⟩ := h
  simp only at *
  unfold hcells
  simp only
  rw [← hn]
  have hsz : (ByteArray.mk tk.toArray).size = l := hl.symm
  have Hris : Hid (∀ w', Below w.heap.size w w' → n ≤ 1000000 → Calls Tryd.prog 28 #[.slice ao n cap] w' fun r w'' => r = .returned (.bool R) ∧ Below w'.heap.size w' w'') := Lib.hid (fun w' hb h6 => by
    have := rising_any ao cap ps w' (hL.old hb) (by omega)
    rw [← hn, ← hR] at this; exact this)
  clear hl hL hn hR
  have f5 : (n : Int) ≤ 5 := by omega
  have f5' : n ≤ 5 := by omega
  have fht1 : 1 ≤ ht := by omega
  have e1 : 1073741824 < ht := by omega
  have hb0 : Below w.heap.size w (w.alloc (.cells #[.int .i64 ht, .int .i64 mi, .string ⟨tk.toArray⟩, .int .i64 wi, .int .u64 (pw : Int), .slice ao n cap, .int .i64 sa] 30)) := (Below.refl _ w).alloc (Nat.le_refl _) _
  clear g0 g1 g2
  go_enter Tryd.func9, Tryd.ntmps9
  go_wp2_with fail
  go_ret
  exact ⟨rfl, hb0⟩
set_option maxRecDepth 20000 in
set_option maxHeartbeats 2000000 in
theorem hchk_mi1 (h : Hd Nm) (ao : Option Addr) (cap : Nat) (w : World) (hL : Rd encN w ao h.ps) (l n : Nat) (hl : l = h.tk.length) (hn : n = h.ps.length) (R : Bool) (hR : R = rs (h.ps.map (·.1)) (n - 1)) (g0 : ¬ 5 < n) (g1 : ¬ h.ht < 1) (g2 : ¬ 1073741824 < h.ht) (g3 : h.mi < 0) :
    Calls Tryd.prog 9 #[.agg (hcells h ao cap)] w fun r w' => r = .returned (.int .i64 1) ∧ Below w.heap.size w w' := by
  obtain ⟨ht, mi, tk, wi, pw, ps, sa⟩ := h
  simp only at *
  unfold hcells
  simp only
  rw [← hn]
  have hsz : (ByteArray.mk tk.toArray).size = l := hl.symm
  have Hris : Hid (∀ w', Below w.heap.size w w' → n ≤ 1000000 → Calls Tryd.prog 28 #[.slice ao n cap] w' fun r w'' => r = .returned (.bool R) ∧ Below w'.heap.size w' w'') := Lib.hid (fun w' hb h6 => by
    have := rising_any ao cap ps w' (hL.old hb) (by omega)
    rw [← hn, ← hR] at this; exact this)
  clear hl hL hn hR
  have f5 : (n : Int) ≤ 5 := by omega
  have f5' : n ≤ 5 := by omega
  have fht1 : 1 ≤ ht := by omega
  have fht2 : ht ≤ 1073741824 := by omega
  have e1 : mi < 0 := by omega
  have hb0 : Below w.heap.size w (w.alloc (.cells #[.int .i64 ht, .int .i64 mi, .string ⟨tk.toArray⟩, .int .i64 wi, .int .u64 (pw : Int), .slice ao n cap, .int .i64 sa] 30)) := (Below.refl _ w).alloc (Nat.le_refl _) _
  clear g0 g1 g2 g3
  go_enter Tryd.func9, Tryd.ntmps9
  go_wp2_with fail
  go_ret
  exact ⟨rfl, hb0⟩
set_option maxRecDepth 20000 in
set_option maxHeartbeats 2000000 in
theorem hchk_mi2 (h : Hd Nm) (ao : Option Addr) (cap : Nat) (w : World) (hL : Rd encN w ao h.ps) (l n : Nat) (hl : l = h.tk.length) (hn : n = h.ps.length) (R : Bool) (hR : R = rs (h.ps.map (·.1)) (n - 1)) (g0 : ¬ 5 < n) (g1 : ¬ h.ht < 1) (g2 : ¬ 1073741824 < h.ht) (g3 : ¬ h.mi < 0) (g4 : 64 ≤ h.mi) :
    Calls Tryd.prog 9 #[.agg (hcells h ao cap)] w fun r w' => r = .returned (.int .i64 1) ∧ Below w.heap.size w w' := by
  obtain ⟨ht, mi, tk, wi, pw, ps, sa⟩ := h
  simp only at *
  unfold hcells
  simp only
  rw [← hn]
  have hsz : (ByteArray.mk tk.toArray).size = l := hl.symm
  have Hris : Hid (∀ w', Below w.heap.size w w' → n ≤ 1000000 → Calls Tryd.prog 28 #[.slice ao n cap] w' fun r w'' => r = .returned (.bool R) ∧ Below w'.heap.size w' w'') := Lib.hid (fun w' hb h6 => by
    have := rising_any ao cap ps w' (hL.old hb) (by omega)
    rw [← hn, ← hR] at this; exact this)
  clear hl hL hn hR
  have f5 : (n : Int) ≤ 5 := by omega
  have f5' : n ≤ 5 := by omega
  have fht1 : 1 ≤ ht := by omega
  have fht2 : ht ≤ 1073741824 := by omega
  have fmi1 : 0 ≤ mi := by omega
  have e1 : 64 ≤ mi := by omega
  have hb0 : Below w.heap.size w (w.alloc (.cells #[.int .i64 ht, .int .i64 mi, .string ⟨tk.toArray⟩, .int .i64 wi, .int .u64 (pw : Int), .slice ao n cap, .int .i64 sa] 30)) := (Below.refl _ w).alloc (Nat.le_refl _) _
  clear g0 g1 g2 g3 g4
  go_enter Tryd.func9, Tryd.ntmps9
  go_wp2_with fail
  go_ret
  exact ⟨rfl, hb0⟩
set_option maxRecDepth 20000 in
set_option maxHeartbeats 2000000 in
theorem hchk_tk1 (h : Hd Nm) (ao : Option Addr) (cap : Nat) (w : World) (hL : Rd encN w ao h.ps) (l n : Nat) (hl : l = h.tk.length) (hn : n = h.ps.length) (R : Bool) (hR : R = rs (h.ps.map (·.1)) (n - 1)) (g0 : ¬ 5 < n) (g1 : ¬ h.ht < 1) (g2 : ¬ 1073741824 < h.ht) (g3 : ¬ h.mi < 0) (g4 : ¬ 64 ≤ h.mi) (g5 : l < 1) :
    Calls Tryd.prog 9 #[.agg (hcells h ao cap)] w fun r w' => r = .returned (.int .i64 1) ∧ Below w.heap.size w w' := by
  obtain ⟨ht, mi, tk, wi, pw, ps, sa⟩ := h
  simp only at *
  unfold hcells
  simp only
  rw [← hn]
  have hsz : (ByteArray.mk tk.toArray).size = l := hl.symm
  have Hris : Hid (∀ w', Below w.heap.size w w' → n ≤ 1000000 → Calls Tryd.prog 28 #[.slice ao n cap] w' fun r w'' => r = .returned (.bool R) ∧ Below w'.heap.size w' w'') := Lib.hid (fun w' hb h6 => by
    have := rising_any ao cap ps w' (hL.old hb) (by omega)
    rw [← hn, ← hR] at this; exact this)
  clear hl hL hn hR
  have f5 : (n : Int) ≤ 5 := by omega
  have f5' : n ≤ 5 := by omega
  have fht1 : 1 ≤ ht := by omega
  have fht2 : ht ≤ 1073741824 := by omega
  have fmi1 : 0 ≤ mi := by omega
  have fmi2 : mi ≤ 63 := by omega
  have e1 : (l : Int) < 1 := by omega
  have e2 : l = 0 := by omega
  have hb0 : Below w.heap.size w (w.alloc (.cells #[.int .i64 ht, .int .i64 mi, .string ⟨tk.toArray⟩, .int .i64 wi, .int .u64 (pw : Int), .slice ao n cap, .int .i64 sa] 30)) := (Below.refl _ w).alloc (Nat.le_refl _) _
  clear g0 g1 g2 g3 g4 g5
  go_enter Tryd.func9, Tryd.ntmps9
  go_wp2_with fail
  go_ret
  exact ⟨rfl, hb0⟩
set_option maxRecDepth 20000 in
set_option maxHeartbeats 2000000 in
theorem hchk_tk2 (h : Hd Nm) (ao : Option Addr) (cap : Nat) (w : World) (hL : Rd encN w ao h.ps) (l n : Nat) (hl : l = h.tk.length) (hn : n = h.ps.length) (R : Bool) (hR : R = rs (h.ps.map (·.1)) (n - 1)) (g0 : ¬ 5 < n) (g1 : ¬ h.ht < 1) (g2 : ¬ 1073741824 < h.ht) (g3 : ¬ h.mi < 0) (g4 : ¬ 64 ≤ h.mi) (_g5 : ¬ l < 1) (g6 : 8 < l) :
    Calls Tryd.prog 9 #[.agg (hcells h ao cap)] w fun r w' => r = .returned (.int .i64 1) ∧ Below w.heap.size w w' := by
  obtain ⟨ht, mi, tk, wi, pw, ps, sa⟩ := h
  simp only at *
  unfold hcells
  simp only
  rw [← hn]
  have hsz : (ByteArray.mk tk.toArray).size = l := hl.symm
  have Hris : Hid (∀ w', Below w.heap.size w w' → n ≤ 1000000 → Calls Tryd.prog 28 #[.slice ao n cap] w' fun r w'' => r = .returned (.bool R) ∧ Below w'.heap.size w' w'') := Lib.hid (fun w' hb h6 => by
    have := rising_any ao cap ps w' (hL.old hb) (by omega)
    rw [← hn, ← hR] at this; exact this)
  clear hl hL hn hR
  have f5 : (n : Int) ≤ 5 := by omega
  have f5' : n ≤ 5 := by omega
  have fht1 : 1 ≤ ht := by omega
  have fht2 : ht ≤ 1073741824 := by omega
  have fmi1 : 0 ≤ mi := by omega
  have fmi2 : mi ≤ 63 := by omega
  have ftk1 : 1 ≤ (l : Int) := by omega
  have ftk3 : 0 < l := by omega
  have ftk4 : l ≠ 0 := by omega
  have e1 : 8 < (l : Int) := by omega
  have e2 : 8 < l := by omega
  have hb0 : Below w.heap.size w (w.alloc (.cells #[.int .i64 ht, .int .i64 mi, .string ⟨tk.toArray⟩, .int .i64 wi, .int .u64 (pw : Int), .slice ao n cap, .int .i64 sa] 30)) := (Below.refl _ w).alloc (Nat.le_refl _) _
  clear g0 g1 g2 g3 g4 _g5 g6
  go_enter Tryd.func9, Tryd.ntmps9
  go_wp2_with fail
  go_ret
  exact ⟨rfl, hb0⟩
set_option maxRecDepth 20000 in
set_option maxHeartbeats 2000000 in
theorem hchk_wi1 (h : Hd Nm) (ao : Option Addr) (cap : Nat) (w : World) (hL : Rd encN w ao h.ps) (l n : Nat) (hl : l = h.tk.length) (hn : n = h.ps.length) (R : Bool) (hR : R = rs (h.ps.map (·.1)) (n - 1)) (g0 : ¬ 5 < n) (g1 : ¬ h.ht < 1) (g2 : ¬ 1073741824 < h.ht) (g3 : ¬ h.mi < 0) (g4 : ¬ 64 ≤ h.mi) (g5 : ¬ l < 1) (g6 : ¬ 8 < l) (g7 : h.wi < 1) :
    Calls Tryd.prog 9 #[.agg (hcells h ao cap)] w fun r w' => r = .returned (.int .i64 1) ∧ Below w.heap.size w w' := by
  obtain ⟨ht, mi, tk, wi, pw, ps, sa⟩ := h
  simp only at *
  unfold hcells
  simp only
  rw [← hn]
  have hsz : (ByteArray.mk tk.toArray).size = l := hl.symm
  have Hris : Hid (∀ w', Below w.heap.size w w' → n ≤ 1000000 → Calls Tryd.prog 28 #[.slice ao n cap] w' fun r w'' => r = .returned (.bool R) ∧ Below w'.heap.size w' w'') := Lib.hid (fun w' hb h6 => by
    have := rising_any ao cap ps w' (hL.old hb) (by omega)
    rw [← hn, ← hR] at this; exact this)
  clear hl hL hn hR
  have f5 : (n : Int) ≤ 5 := by omega
  have f5' : n ≤ 5 := by omega
  have fht1 : 1 ≤ ht := by omega
  have fht2 : ht ≤ 1073741824 := by omega
  have fmi1 : 0 ≤ mi := by omega
  have fmi2 : mi ≤ 63 := by omega
  have ftk1 : 1 ≤ (l : Int) := by omega
  have ftk2 : (l : Int) ≤ 8 := by omega
  have ftk3 : 0 < l := by omega
  have ftk4 : l ≠ 0 := by omega
  have ftk5 : l ≤ 8 := by omega
  have e1 : wi < 1 := by omega
  have hb0 : Below w.heap.size w (w.alloc (.cells #[.int .i64 ht, .int .i64 mi, .string ⟨tk.toArray⟩, .int .i64 wi, .int .u64 (pw : Int), .slice ao n cap, .int .i64 sa] 30)) := (Below.refl _ w).alloc (Nat.le_refl _) _
  clear g0 g1 g2 g3 g4 g5 g6 g7
  go_enter Tryd.func9, Tryd.ntmps9
  go_wp2_with fail
  go_ret
  exact ⟨rfl, hb0⟩
set_option maxRecDepth 20000 in
set_option maxHeartbeats 2000000 in
theorem hchk_wi2 (h : Hd Nm) (ao : Option Addr) (cap : Nat) (w : World) (hL : Rd encN w ao h.ps) (l n : Nat) (hl : l = h.tk.length) (hn : n = h.ps.length) (R : Bool) (hR : R = rs (h.ps.map (·.1)) (n - 1)) (g0 : ¬ 5 < n) (g1 : ¬ h.ht < 1) (g2 : ¬ 1073741824 < h.ht) (g3 : ¬ h.mi < 0) (g4 : ¬ 64 ≤ h.mi) (g5 : ¬ l < 1) (g6 : ¬ 8 < l) (g7 : ¬ h.wi < 1) (g8 : 15 < h.wi) :
    Calls Tryd.prog 9 #[.agg (hcells h ao cap)] w fun r w' => r = .returned (.int .i64 1) ∧ Below w.heap.size w w' := by
  obtain ⟨ht, mi, tk, wi, pw, ps, sa⟩ := h
  simp only at *
  unfold hcells
  simp only
  rw [← hn]
  have hsz : (ByteArray.mk tk.toArray).size = l := hl.symm
  have Hris : Hid (∀ w', Below w.heap.size w w' → n ≤ 1000000 → Calls Tryd.prog 28 #[.slice ao n cap] w' fun r w'' => r = .returned (.bool R) ∧ Below w'.heap.size w' w'') := Lib.hid (fun w' hb h6 => by
    have := rising_any ao cap ps w' (hL.old hb) (by omega)
    rw [← hn, ← hR] at this; exact this)
  clear hl hL hn hR
  have f5 : (n : Int) ≤ 5 := by omega
  have f5' : n ≤ 5 := by omega
  have fht1 : 1 ≤ ht := by omega
  have fht2 : ht ≤ 1073741824 := by omega
  have fmi1 : 0 ≤ mi := by omega
  have fmi2 : mi ≤ 63 := by omega
  have ftk1 : 1 ≤ (l : Int) := by omega
  have ftk2 : (l : Int) ≤ 8 := by omega
  have ftk3 : 0 < l := by omega
  have ftk4 : l ≠ 0 := by omega
  have ftk5 : l ≤ 8 := by omega
  have fwi1 : 1 ≤ wi := by omega
  have e1 : 15 < wi := by omega
  have hb0 : Below w.heap.size w (w.alloc (.cells #[.int .i64 ht, .int .i64 mi, .string ⟨tk.toArray⟩, .int .i64 wi, .int .u64 (pw : Int), .slice ao n cap, .int .i64 sa] 30)) := (Below.refl _ w).alloc (Nat.le_refl _) _
  clear g0 g1 g2 g3 g4 g5 g6 g7 g8
  go_enter Tryd.func9, Tryd.ntmps9
  go_wp2_with fail
  go_ret
  exact ⟨rfl, hb0⟩
set_option maxRecDepth 20000 in
set_option maxHeartbeats 2000000 in
theorem hchk_pw1 (h : Hd Nm) (ao : Option Addr) (cap : Nat) (w : World) (hL : Rd encN w ao h.ps) (l n : Nat) (hl : l = h.tk.length) (hn : n = h.ps.length) (R : Bool) (hR : R = rs (h.ps.map (·.1)) (n - 1)) (g0 : ¬ 5 < n) (g1 : ¬ h.ht < 1) (g2 : ¬ 1073741824 < h.ht) (g3 : ¬ h.mi < 0) (g4 : ¬ 64 ≤ h.mi) (g5 : ¬ l < 1) (g6 : ¬ 8 < l) (g7 : ¬ h.wi < 1) (g8 : ¬ 15 < h.wi) (g9 : h.pw < 2) :
    Calls Tryd.prog 9 #[.agg (hcells h ao cap)] w fun r w' => r = .returned (.int .i64 1) ∧ Below w.heap.size w w' := by
  obtain ⟨ht, mi, tk, wi, pw, ps, sa⟩ := h
  simp only at *
  unfold hcells
  simp only
  rw [← hn]
  have hsz : (ByteArray.mk tk.toArray).size = l := hl.symm
  have Hris : Hid (∀ w', Below w.heap.size w w' → n ≤ 1000000 → Calls Tryd.prog 28 #[.slice ao n cap] w' fun r w'' => r = .returned (.bool R) ∧ Below w'.heap.size w' w'') := Lib.hid (fun w' hb h6 => by
    have := rising_any ao cap ps w' (hL.old hb) (by omega)
    rw [← hn, ← hR] at this; exact this)
  clear hl hL hn hR
  have f5 : (n : Int) ≤ 5 := by omega
  have f5' : n ≤ 5 := by omega
  have fht1 : 1 ≤ ht := by omega
  have fht2 : ht ≤ 1073741824 := by omega
  have fmi1 : 0 ≤ mi := by omega
  have fmi2 : mi ≤ 63 := by omega
  have ftk1 : 1 ≤ (l : Int) := by omega
  have ftk2 : (l : Int) ≤ 8 := by omega
  have ftk3 : 0 < l := by omega
  have ftk4 : l ≠ 0 := by omega
  have ftk5 : l ≤ 8 := by omega
  have fwi1 : 1 ≤ wi := by omega
  have fwi2 : wi ≤ 15 := by omega
  have e1 : (pw : Int) < 2 := by omega
  have hb0 : Below w.heap.size w (w.alloc (.cells #[.int .i64 ht, .int .i64 mi, .string ⟨tk.toArray⟩, .int .i64 wi, .int .u64 (pw : Int), .slice ao n cap, .int .i64 sa] 30)) := (Below.refl _ w).alloc (Nat.le_refl _) _
  clear g0 g1 g2 g3 g4 g5 g6 g7 g8 g9
  go_enter Tryd.func9, Tryd.ntmps9
  go_wp2_with fail
  go_ret
  exact ⟨rfl, hb0⟩
set_option maxRecDepth 20000 in
set_option maxHeartbeats 2000000 in
theorem hchk_pw2 (h : Hd Nm) (ao : Option Addr) (cap : Nat) (w : World) (hL : Rd encN w ao h.ps) (l n : Nat) (hl : l = h.tk.length) (hn : n = h.ps.length) (R : Bool) (hR : R = rs (h.ps.map (·.1)) (n - 1)) (g0 : ¬ 5 < n) (g1 : ¬ h.ht < 1) (g2 : ¬ 1073741824 < h.ht) (g3 : ¬ h.mi < 0) (g4 : ¬ 64 ≤ h.mi) (g5 : ¬ l < 1) (g6 : ¬ 8 < l) (g7 : ¬ h.wi < 1) (g8 : ¬ 15 < h.wi) (g9 : ¬ h.pw < 2) (g10 : 4611686018427387904 < h.pw) :
    Calls Tryd.prog 9 #[.agg (hcells h ao cap)] w fun r w' => r = .returned (.int .i64 1) ∧ Below w.heap.size w w' := by
  obtain ⟨ht, mi, tk, wi, pw, ps, sa⟩ := h
  simp only at *
  unfold hcells
  simp only
  rw [← hn]
  have hsz : (ByteArray.mk tk.toArray).size = l := hl.symm
  have Hris : Hid (∀ w', Below w.heap.size w w' → n ≤ 1000000 → Calls Tryd.prog 28 #[.slice ao n cap] w' fun r w'' => r = .returned (.bool R) ∧ Below w'.heap.size w' w'') := Lib.hid (fun w' hb h6 => by
    have := rising_any ao cap ps w' (hL.old hb) (by omega)
    rw [← hn, ← hR] at this; exact this)
  clear hl hL hn hR
  have f5 : (n : Int) ≤ 5 := by omega
  have f5' : n ≤ 5 := by omega
  have fht1 : 1 ≤ ht := by omega
  have fht2 : ht ≤ 1073741824 := by omega
  have fmi1 : 0 ≤ mi := by omega
  have fmi2 : mi ≤ 63 := by omega
  have ftk1 : 1 ≤ (l : Int) := by omega
  have ftk2 : (l : Int) ≤ 8 := by omega
  have ftk3 : 0 < l := by omega
  have ftk4 : l ≠ 0 := by omega
  have ftk5 : l ≤ 8 := by omega
  have fwi1 : 1 ≤ wi := by omega
  have fwi2 : wi ≤ 15 := by omega
  have fpw1 : 2 ≤ (pw : Int) := by omega
  have e1 : 4611686018427387904 < (pw : Int) := by omega
  have hb0 : Below w.heap.size w (w.alloc (.cells #[.int .i64 ht, .int .i64 mi, .string ⟨tk.toArray⟩, .int .i64 wi, .int .u64 (pw : Int), .slice ao n cap, .int .i64 sa] 30)) := (Below.refl _ w).alloc (Nat.le_refl _) _
  clear g0 g1 g2 g3 g4 g5 g6 g7 g8 g9 g10
  go_enter Tryd.func9, Tryd.ntmps9
  go_wp2_with fail
  go_ret
  exact ⟨rfl, hb0⟩
set_option maxRecDepth 20000 in
set_option maxHeartbeats 2000000 in
theorem hchk_ps1 (h : Hd Nm) (ao : Option Addr) (cap : Nat) (w : World) (hL : Rd encN w ao h.ps) (l n : Nat) (hl : l = h.tk.length) (hn : n = h.ps.length) (R : Bool) (hR : R = rs (h.ps.map (·.1)) (n - 1)) (g0 : ¬ 5 < n) (g1 : ¬ h.ht < 1) (g2 : ¬ 1073741824 < h.ht) (g3 : ¬ h.mi < 0) (g4 : ¬ 64 ≤ h.mi) (g5 : ¬ l < 1) (g6 : ¬ 8 < l) (g7 : ¬ h.wi < 1) (g8 : ¬ 15 < h.wi) (g9 : ¬ h.pw < 2) (g10 : ¬ 4611686018427387904 < h.pw) (g11 : n < 1) :
    Calls Tryd.prog 9 #[.agg (hcells h ao cap)] w fun r w' => r = .returned (.int .i64 1) ∧ Below w.heap.size w w' := by
  obtain ⟨ht, mi, tk, wi, pw, ps, sa⟩ := h
  simp only at *
  unfold hcells
  simp only
  rw [← hn]
  have hsz : (ByteArray.mk tk.toArray).size = l := hl.symm
  have Hris : Hid (∀ w', Below w.heap.size w w' → n ≤ 1000000 → Calls Tryd.prog 28 #[.slice ao n cap] w' fun r w'' => r = .returned (.bool R) ∧ Below w'.heap.size w' w'') := Lib.hid (fun w' hb h6 => by
    have := rising_any ao cap ps w' (hL.old hb) (by omega)
    rw [← hn, ← hR] at this; exact this)
  clear hl hL hn hR
  have f5 : (n : Int) ≤ 5 := by omega
  have f5' : n ≤ 5 := by omega
  have fht1 : 1 ≤ ht := by omega
  have fht2 : ht ≤ 1073741824 := by omega
  have fmi1 : 0 ≤ mi := by omega
  have fmi2 : mi ≤ 63 := by omega
  have ftk1 : 1 ≤ (l : Int) := by omega
  have ftk2 : (l : Int) ≤ 8 := by omega
  have ftk3 : 0 < l := by omega
  have ftk4 : l ≠ 0 := by omega
  have ftk5 : l ≤ 8 := by omega
  have fwi1 : 1 ≤ wi := by omega
  have fwi2 : wi ≤ 15 := by omega
  have fpw1 : 2 ≤ (pw : Int) := by omega
  have fpw2 : (pw : Int) ≤ 4611686018427387904 := by omega
  have e1 : (n : Int) < 1 := by omega
  have e2 : n < 1 := by omega
  have hb0 : Below w.heap.size w (w.alloc (.cells #[.int .i64 ht, .int .i64 mi, .string ⟨tk.toArray⟩, .int .i64 wi, .int .u64 (pw : Int), .slice ao n cap, .int .i64 sa] 30)) := (Below.refl _ w).alloc (Nat.le_refl _) _
  clear g0 g1 g2 g3 g4 g5 g6 g7 g8 g9 g10 g11
  go_enter Tryd.func9, Tryd.ntmps9
  go_wp2_with fail
  go_ret
  exact ⟨rfl, hb0⟩
set_option maxRecDepth 20000 in
set_option maxHeartbeats 2000000 in
theorem hchk_ps2 (h : Hd Nm) (ao : Option Addr) (cap : Nat) (w : World) (hL : Rd encN w ao h.ps) (l n : Nat) (hl : l = h.tk.length) (hn : n = h.ps.length) (R : Bool) (hR : R = rs (h.ps.map (·.1)) (n - 1)) (g0 : ¬ 5 < n) (g1 : ¬ h.ht < 1) (g2 : ¬ 1073741824 < h.ht) (g3 : ¬ h.mi < 0) (g4 : ¬ 64 ≤ h.mi) (g5 : ¬ l < 1) (g6 : ¬ 8 < l) (g7 : ¬ h.wi < 1) (g8 : ¬ 15 < h.wi) (g9 : ¬ h.pw < 2) (g10 : ¬ 4611686018427387904 < h.pw) (g11 : ¬ n < 1) (g12 : R = false) :
    Calls Tryd.prog 9 #[.agg (hcells h ao cap)] w fun r w' => r = .returned (.int .i64 1) ∧ Below w.heap.size w w' := by
  obtain ⟨ht, mi, tk, wi, pw, ps, sa⟩ := h
  simp only at *
  unfold hcells
  simp only
  rw [← hn]
  have hsz : (ByteArray.mk tk.toArray).size = l := hl.symm
  have Hris : Hid (∀ w', Below w.heap.size w w' → n ≤ 1000000 → Calls Tryd.prog 28 #[.slice ao n cap] w' fun r w'' => r = .returned (.bool R) ∧ Below w'.heap.size w' w'') := Lib.hid (fun w' hb h6 => by
    have := rising_any ao cap ps w' (hL.old hb) (by omega)
    rw [← hn, ← hR] at this; exact this)
  clear hl hL hn hR
  have f5 : (n : Int) ≤ 5 := by omega
  have f5' : n ≤ 5 := by omega
  have fht1 : 1 ≤ ht := by omega
  have fht2 : ht ≤ 1073741824 := by omega
  have fmi1 : 0 ≤ mi := by omega
  have fmi2 : mi ≤ 63 := by omega
  have ftk1 : 1 ≤ (l : Int) := by omega
  have ftk2 : (l : Int) ≤ 8 := by omega
  have ftk3 : 0 < l := by omega
  have ftk4 : l ≠ 0 := by omega
  have ftk5 : l ≤ 8 := by omega
  have fwi1 : 1 ≤ wi := by omega
  have fwi2 : wi ≤ 15 := by omega
  have fpw1 : 2 ≤ (pw : Int) := by omega
  have fpw2 : (pw : Int) ≤ 4611686018427387904 := by omega
  have fps1 : 1 ≤ (n : Int) := by omega
  have fps2 : 0 < n := by omega
  have fps3 : n ≠ 0 := by omega
  subst g12
  have hb0 : Below w.heap.size w (w.alloc (.cells #[.int .i64 ht, .int .i64 mi, .string ⟨tk.toArray⟩, .int .i64 wi, .int .u64 (pw : Int), .slice ao n cap, .int .i64 sa] 30)) := (Below.refl _ w).alloc (Nat.le_refl _) _
  clear g0 g1 g2 g3 g4 g5 g6 g7 g8 g9 g10 g11
  have Hr := Hris.out _ hb0 (by omega)
  have HB0 := Lib.hid hb0
  clear hb0
  go_enter Tryd.func9, Tryd.ntmps9
  go_wp2_with fail
  refine Hr.mono ?_
  rintro r w1 ⟨rfl, hb1⟩
  have hB1 := Lib.hid (HB0.out.trans (hb1.mono HB0.out.size))
  clear hb1 Hr
  go_wp2_with fail
  go_ret
  exact ⟨rfl, hB1.out⟩
set_option maxRecDepth 20000 in
set_option maxHeartbeats 2000000 in
theorem hchk_sa1 (h : Hd Nm) (ao : Option Addr) (cap : Nat) (w : World) (hL : Rd encN w ao h.ps) (l n : Nat) (hl : l = h.tk.length) (hn : n = h.ps.length) (R : Bool) (hR : R = rs (h.ps.map (·.1)) (n - 1)) (g0 : ¬ 5 < n) (g1 : ¬ h.ht < 1) (g2 : ¬ 1073741824 < h.ht) (g3 : ¬ h.mi < 0) (g4 : ¬ 64 ≤ h.mi) (g5 : ¬ l < 1) (g6 : ¬ 8 < l) (g7 : ¬ h.wi < 1) (g8 : ¬ 15 < h.wi) (g9 : ¬ h.pw < 2) (g10 : ¬ 4611686018427387904 < h.pw) (g11 : ¬ n < 1) (g12 : R = true) (g13 : h.sa < 0) :
    Calls Tryd.prog 9 #[.agg (hcells h ao cap)] w fun r w' => r = .returned (.int .i64 1) ∧ Below w.heap.size w w' := by
  obtain ⟨ht, mi, tk, wi, pw, ps, sa⟩ := h
  simp only at *
  unfold hcells
  simp only
  rw [← hn]
  have hsz : (ByteArray.mk tk.toArray).size = l := hl.symm
  have Hris : Hid (∀ w', Below w.heap.size w w' → n ≤ 1000000 → Calls Tryd.prog 28 #[.slice ao n cap] w' fun r w'' => r = .returned (.bool R) ∧ Below w'.heap.size w' w'') := Lib.hid (fun w' hb h6 => by
    have := rising_any ao cap ps w' (hL.old hb) (by omega)
    rw [← hn, ← hR] at this; exact this)
  clear hl hL hn hR
  have f5 : (n : Int) ≤ 5 := by omega
  have f5' : n ≤ 5 := by omega
  have fht1 : 1 ≤ ht := by omega
  have fht2 : ht ≤ 1073741824 := by omega
  have fmi1 : 0 ≤ mi := by omega
  have fmi2 : mi ≤ 63 := by omega
  have ftk1 : 1 ≤ (l : Int) := by omega
  have ftk2 : (l : Int) ≤ 8 := by omega
  have ftk3 : 0 < l := by omega
  have ftk4 : l ≠ 0 := by omega
  have ftk5 : l ≤ 8 := by omega
  have fwi1 : 1 ≤ wi := by omega
  have fwi2 : wi ≤ 15 := by omega
  have fpw1 : 2 ≤ (pw : Int) := by omega
  have fpw2 : (pw : Int) ≤ 4611686018427387904 := by omega
  have fps1 : 1 ≤ (n : Int) := by omega
  have fps2 : 0 < n := by omega
  have fps3 : n ≠ 0 := by omega
  subst g12
  have e1 : sa < 0 := by omega
  have hb0 : Below w.heap.size w (w.alloc (.cells #[.int .i64 ht, .int .i64 mi, .string ⟨tk.toArray⟩, .int .i64 wi, .int .u64 (pw : Int), .slice ao n cap, .int .i64 sa] 30)) := (Below.refl _ w).alloc (Nat.le_refl _) _
  clear g0 g1 g2 g3 g4 g5 g6 g7 g8 g9 g10 g11 g13
  have Hr := Hris.out _ hb0 (by omega)
  have HB0 := Lib.hid hb0
  clear hb0
  go_enter Tryd.func9, Tryd.ntmps9
  go_wp2_with fail
  refine Hr.mono ?_
  rintro r w1 ⟨rfl, hb1⟩
  obtain ⟨hcl, hfz⟩ := bcellH hb1
  have hB1 := Lib.hid (HB0.out.trans (hb1.mono HB0.out.size))
  clear hb1 Hr
  go_wp2_with fail
  go_ret
  exact ⟨rfl, hB1.out⟩
set_option maxRecDepth 20000 in
set_option maxHeartbeats 2000000 in
theorem hchk_sa2 (h : Hd Nm) (ao : Option Addr) (cap : Nat) (w : World) (hL : Rd encN w ao h.ps) (l n : Nat) (hl : l = h.tk.length) (hn : n = h.ps.length) (R : Bool) (hR : R = rs (h.ps.map (·.1)) (n - 1)) (g0 : ¬ 5 < n) (g1 : ¬ h.ht < 1) (g2 : ¬ 1073741824 < h.ht) (g3 : ¬ h.mi < 0) (g4 : ¬ 64 ≤ h.mi) (g5 : ¬ l < 1) (g6 : ¬ 8 < l) (g7 : ¬ h.wi < 1) (g8 : ¬ 15 < h.wi) (g9 : ¬ h.pw < 2) (g10 : ¬ 4611686018427387904 < h.pw) (g11 : ¬ n < 1) (g12 : R = true) (g13 : ¬ h.sa < 0) (g14 : 1073741824 < h.sa) :
    Calls Tryd.prog 9 #[.agg (hcells h ao cap)] w fun r w' => r = .returned (.int .i64 1) ∧ Below w.heap.size w w' := by
  obtain ⟨ht, mi, tk, wi, pw, ps, sa⟩ := h
  simp only at *
  unfold hcells
  simp only
  rw [← hn]
  have hsz : (ByteArray.mk tk.toArray).size = l := hl.symm
  have Hris : Hid (∀ w', Below w.heap.size w w' → n ≤ 1000000 → Calls Tryd.prog 28 #[.slice ao n cap] w' fun r w'' => r = .returned (.bool R) ∧ Below w'.heap.size w' w'') := Lib.hid (fun w' hb h6 => by
    have := rising_any ao cap ps w' (hL.old hb) (by omega)
    rw [← hn, ← hR] at this; exact this)
  clear hl hL hn hR
  have f5 : (n : Int) ≤ 5 := by omega
  have f5' : n ≤ 5 := by omega
  have fht1 : 1 ≤ ht := by omega
  have fht2 : ht ≤ 1073741824 := by omega
  have fmi1 : 0 ≤ mi := by omega
  have fmi2 : mi ≤ 63 := by omega
  have ftk1 : 1 ≤ (l : Int) := by omega
  have ftk2 : (l : Int) ≤ 8 := by omega
  have ftk3 : 0 < l := by omega
  have ftk4 : l ≠ 0 := by omega
  have ftk5 : l ≤ 8 := by omega
  have fwi1 : 1 ≤ wi := by omega
  have fwi2 : wi ≤ 15 := by omega
  have fpw1 : 2 ≤ (pw : Int) := by omega
  have fpw2 : (pw : Int) ≤ 4611686018427387904 := by omega
  have fps1 : 1 ≤ (n : Int) := by omega
  have fps2 : 0 < n := by omega
  have fps3 : n ≠ 0 := by omega
  subst g12
  have fsa1 : 0 ≤ sa := by omega
  have e1 : 1073741824 < sa := by omega
  have hb0 : Below w.heap.size w (w.alloc (.cells #[.int .i64 ht, .int .i64 mi, .string ⟨tk.toArray⟩, .int .i64 wi, .int .u64 (pw : Int), .slice ao n cap, .int .i64 sa] 30)) := (Below.refl _ w).alloc (Nat.le_refl _) _
  clear g0 g1 g2 g3 g4 g5 g6 g7 g8 g9 g10 g11 g13 g14
  have Hr := Hris.out _ hb0 (by omega)
  have HB0 := Lib.hid hb0
  clear hb0
  go_enter Tryd.func9, Tryd.ntmps9
  go_wp2_with fail
  refine Hr.mono ?_
  rintro r w1 ⟨rfl, hb1⟩
  obtain ⟨hcl, hfz⟩ := bcellH hb1
  have hB1 := Lib.hid (HB0.out.trans (hb1.mono HB0.out.size))
  clear hb1 Hr
  go_wp2_with fail
  go_ret
  exact ⟨rfl, hB1.out⟩
set_option maxRecDepth 20000 in
set_option maxHeartbeats 2000000 in
theorem hchk_ok (h : Hd Nm) (ao : Option Addr) (cap : Nat) (w : World) (hL : Rd encN w ao h.ps) (l n : Nat) (hl : l = h.tk.length) (hn : n = h.ps.length) (R : Bool) (hR : R = rs (h.ps.map (·.1)) (n - 1)) (g0 : ¬ 5 < n) (g1 : ¬ h.ht < 1) (g2 : ¬ 1073741824 < h.ht) (g3 : ¬ h.mi < 0) (g4 : ¬ 64 ≤ h.mi) (g5 : ¬ l < 1) (g6 : ¬ 8 < l) (g7 : ¬ h.wi < 1) (g8 : ¬ 15 < h.wi) (g9 : ¬ h.pw < 2) (g10 : ¬ 4611686018427387904 < h.pw) (g11 : ¬ n < 1) (g12 : R = true) (g13 : ¬ h.sa < 0) (g14 : ¬ 1073741824 < h.sa) :
    Calls Tryd.prog 9 #[.agg (hcells h ao cap)] w fun r w' => r = .returned (.int .i64 0) ∧ Below w.heap.size w w' := by
  obtain ⟨ht, mi, tk, wi, pw, ps, sa⟩ := h
  simp only at *
  unfold hcells
  simp only
  rw [← hn]
  have hsz : (ByteArray.mk tk.toArray).size = l := hl.symm
  have Hris : Hid (∀ w', Below w.heap.size w w' → n ≤ 1000000 → Calls Tryd.prog 28 #[.slice ao n cap] w' fun r w'' => r = .returned (.bool R) ∧ Below w'.heap.size w' w'') := Lib.hid (fun w' hb h6 => by
    have := rising_any ao cap ps w' (hL.old hb) (by omega)
    rw [← hn, ← hR] at this; exact this)
  clear hl hL hn hR
  have f5 : (n : Int) ≤ 5 := by omega
  have f5' : n ≤ 5 := by omega
  have fht1 : 1 ≤ ht := by omega
  have fht2 : ht ≤ 1073741824 := by omega
  have fmi1 : 0 ≤ mi := by omega
  have fmi2 : mi ≤ 63 := by omega
  have ftk1 : 1 ≤ (l : Int) := by omega
  have ftk2 : (l : Int) ≤ 8 := by omega
  have ftk3 : 0 < l := by omega
  have ftk4 : l ≠ 0 := by omega
  have ftk5 : l ≤ 8 := by omega
  have fwi1 : 1 ≤ wi := by omega
  have fwi2 : wi ≤ 15 := by omega
  have fpw1 : 2 ≤ (pw : Int) := by omega
  have fpw2 : (pw : Int) ≤ 4611686018427387904 := by omega
  have fps1 : 1 ≤ (n : Int) := by omega
  have fps2 : 0 < n := by omega
  have fps3 : n ≠ 0 := by omega
  subst g12
  have fsa1 : 0 ≤ sa := by omega
  have fsa2 : sa ≤ 1073741824 := by omega
  have hb0 : Below w.heap.size w (w.alloc (.cells #[.int .i64 ht, .int .i64 mi, .string ⟨tk.toArray⟩, .int .i64 wi, .int .u64 (pw : Int), .slice ao n cap, .int .i64 sa] 30)) := (Below.refl _ w).alloc (Nat.le_refl _) _
  clear g0 g1 g2 g3 g4 g5 g6 g7 g8 g9 g10 g11 g13 g14
  have Hr := Hris.out _ hb0 (by omega)
  have HB0 := Lib.hid hb0
  clear hb0
  go_enter Tryd.func9, Tryd.ntmps9
  go_wp2_with fail
  refine Hr.mono ?_
  rintro r w1 ⟨rfl, hb1⟩
  obtain ⟨hcl, hfz⟩ := bcellH hb1
  have hB1 := Lib.hid (HB0.out.trans (hb1.mono HB0.out.size))
  clear hb1 Hr
  go_wp2_with fail
  go_ret
  exact ⟨rfl, hB1.out⟩
theorem hcheck_any (h : Hd Nm) (ao : Option Addr) (cap : Nat) (w : World) (hL : Rd encN w ao h.ps) :
    Calls Tryd.prog 9 #[.agg (hcells h ao cap)] w fun r w' => r = .returned (.int .i64 (chk h (rs (h.ps.map (·.1)) (h.ps.length - 1)))) ∧ Below w.heap.size w w' := by
  obtain ⟨l, hl⟩ : ∃ l, l = h.tk.length := ⟨_, rfl⟩
  obtain ⟨n, hn⟩ : ∃ n, n = h.ps.length := ⟨_, rfl⟩
  obtain ⟨R, hR⟩ : ∃ R, R = rs (h.ps.map (·.1)) (n - 1) := ⟨_, rfl⟩
  rw [← hn, ← hR]
  unfold chk
  rw [← hl, ← hn]
  by_cases g0 : 5 < n
  · rw [if_pos g0]; exact hchk_big h ao cap w hL l n hl hn R hR g0
  rw [if_neg g0]
  by_cases g1 : h.ht < 1
  · rw [if_pos (.inl (.inl g1))]; exact hchk_ht1 h ao cap w hL l n hl hn R hR g0 g1
  by_cases g2 : 1073741824 < h.ht
  · rw [if_pos (.inl (.inr g2))]; exact hchk_ht2 h ao cap w hL l n hl hn R hR g0 g1 g2
  by_cases g3 : h.mi < 0
  · rw [if_pos (.inr (.inl (.inl g3)))]; exact hchk_mi1 h ao cap w hL l n hl hn R hR g0 g1 g2 g3
  by_cases g4 : 64 ≤ h.mi
  · rw [if_pos (.inr (.inl (.inr g4)))]; exact hchk_mi2 h ao cap w hL l n hl hn R hR g0 g1 g2 g3 g4
  by_cases g5 : l < 1
  · rw [if_pos (.inr (.inr (.inl (.inl g5))))]; exact hchk_tk1 h ao cap w hL l n hl hn R hR g0 g1 g2 g3 g4 g5
  by_cases g6 : 8 < l
  · rw [if_pos (.inr (.inr (.inl (.inr g6))))]; exact hchk_tk2 h ao cap w hL l n hl hn R hR g0 g1 g2 g3 g4 g5 g6
  by_cases g7 : h.wi < 1
  · rw [if_pos (.inr (.inr (.inr (.inl (.inl g7)))))]; exact hchk_wi1 h ao cap w hL l n hl hn R hR g0 g1 g2 g3 g4 g5 g6 g7
  by_cases g8 : 15 < h.wi
  · rw [if_pos (.inr (.inr (.inr (.inl (.inr g8)))))]; exact hchk_wi2 h ao cap w hL l n hl hn R hR g0 g1 g2 g3 g4 g5 g6 g7 g8
  by_cases g9 : h.pw < 2
  · rw [if_pos (.inr (.inr (.inr (.inr (.inl (.inl g9))))))]; exact hchk_pw1 h ao cap w hL l n hl hn R hR g0 g1 g2 g3 g4 g5 g6 g7 g8 g9
  by_cases g10 : 4611686018427387904 < h.pw
  · rw [if_pos (.inr (.inr (.inr (.inr (.inl (.inr g10))))))]; exact hchk_pw2 h ao cap w hL l n hl hn R hR g0 g1 g2 g3 g4 g5 g6 g7 g8 g9 g10
  by_cases g11 : n < 1
  · rw [if_pos (.inr (.inr (.inr (.inr (.inr (.inl (.inl g11)))))))]; exact hchk_ps1 h ao cap w hL l n hl hn R hR g0 g1 g2 g3 g4 g5 g6 g7 g8 g9 g10 g11
  by_cases g12 : R = false
  · rw [if_pos (.inr (.inr (.inr (.inr (.inr (.inl (.inr g12)))))))]; exact hchk_ps2 h ao cap w hL l n hl hn R hR g0 g1 g2 g3 g4 g5 g6 g7 g8 g9 g10 g11 g12
  rw [Bool.not_eq_false] at g12
  by_cases g13 : h.sa < 0
  · rw [if_pos (.inr (.inr (.inr (.inr (.inr (.inr (.inl g13)))))))]; exact hchk_sa1 h ao cap w hL l n hl hn R hR g0 g1 g2 g3 g4 g5 g6 g7 g8 g9 g10 g11 g12 g13
  by_cases g14 : 1073741824 < h.sa
  · rw [if_pos (.inr (.inr (.inr (.inr (.inr (.inr (.inr g14)))))))]; exact hchk_sa2 h ao cap w hL l n hl hn R hR g0 g1 g2 g3 g4 g5 g6 g7 g8 g9 g10 g11 g12 g13 g14
  rw [if_neg (by rintro (x | x | x | x | x | x | x) <;> rcases x with x | x <;> first | exact absurd x (by assumption) | (have g := g12; rw [x] at g; cases g))]
  exact hchk_ok h ao cap w hL l n hl hn R hR g0 g1 g2 g3 g4 g5 g6 g7 g8 g9 g10 g11 g12 g13 g14
end Go.Proofs.YtiegakeacghnfaaDoor

namespace Go.Proofs.YtiegakeacghnfaaDoor
open Go.RowKit

/-- Out at b, made at world W0's end, holds bs; nothing below it has turned since. -/
def OutSt (W0 : World) (b : Nat) (bs : List UInt8) (w : World) : Prop :=
  ∃ v, OutAt 61 5 w b v bs ∧ (∀ j, v.ownBlock = some j → b < j) ∧ Below b W0 w
theorem OutSt.made (W0 : World) : OutSt W0 W0.heap.size [] (W0.alloc (.cells #[.slice none 0 0] 61)) :=
  ⟨.slice none 0 0, OutAt.fresh W0, (fun j h => by simp [Value.ownBlock] at h), (Below.refl _ _).alloc (Nat.le_refl _) _⟩
theorem OutSt.lt {W0 w : World} {b : Nat} {bs : List UInt8} (h : OutSt W0 b bs w) : b < w.heap.size := by obtain ⟨v, h1, _, _⟩ := h; exact h1.lt
theorem OutSt.below {W0 w : World} {b : Nat} {bs : List UInt8} (h : OutSt W0 b bs w) : Below b W0 w := by obtain ⟨v, _, _, h3⟩ := h; exact h3
theorem OutAt.ownlt {T E : TypeId} {w : World} {b : Nat} {v : Value} {bs : List UInt8} (h : OutAt T E w b v bs) (k : Nat) (hk : v.ownBlock = some k) : k < w.heap.size := by
  rcases h.own.2 with ⟨rfl, _⟩ | ⟨g, cap, cur, rfl, _, hh, _⟩
  · simp [Value.ownBlock] at hk
  · simp [Value.ownBlock] at hk; subst hk; exact (Array.getElem?_eq_some_iff.1 hh).1
theorem OutSt.old {W0 w w' : World} {b : Nat} {bs : List UInt8} (h : OutSt W0 b bs w) (hb : Below w.heap.size w w') : OutSt W0 b bs w' := by
  obtain ⟨v, h1, h2, h3⟩ := h
  exact ⟨v, h1.kept (Mod.of_below hb) (by have := h1.lt; omega) (fun k hk => by have := h1.ownlt k hk; omega), h2, h3.trans (hb.mono (Nat.le_of_lt h1.lt))⟩
theorem OutSt.of_post {W0 w w' : World} {b : Nat} {v : Value} {bs bs' : List UInt8} {r : Ending} (hO : OutAt 61 5 w b v bs) (hv : ∀ j, v.ownBlock = some j → b < j) (hB : Below b W0 w) (h : NumPost b v bs' w r w') :
    r = .returned (.pointer (some ⟨b, 0, none⟩)) ∧ OutSt W0 b bs' w' := by
  obtain ⟨hr, v', hO', hM, hown⟩ := h
  refine ⟨hr, v', hO', ?_, hB.trans (hM.to_below (Nat.le_of_lt hO.lt) ?_)⟩
  · intro j hj
    rcases hown with h | h
    · exact hv j (h ▸ hj)
    · exact Nat.lt_of_lt_of_le hO.lt (h j hj)
  · rintro k hk (h | h)
    · omega
    · have := hv k h; omega
theorem out_num (W0 : World) (b : Nat) (bs : List UInt8) (x : Int) (w : World) (h : OutSt W0 b bs w) (hl : bs.length ≤ 1099511627776) (h0 : -9223372036854775808 ≤ x) (h1 : x ≤ 9223372036854775807) :
    Calls Tryd.prog 33 #[.pointer (some ⟨b, 0, none⟩), .int .i64 x] w fun r w' => r = .returned (.pointer (some ⟨b, 0, none⟩)) ∧ OutSt W0 b (bs ++ numL x) w' := by
  obtain ⟨v, hO, hv, hB⟩ := h
  exact (num_any x b v bs w h0 h1 hO hl).mono fun _ _ hp => OutSt.of_post hO hv hB hp
theorem out_raw (W0 : World) (b : Nat) (bs s : List UInt8) (w : World) (h : OutSt W0 b bs w) (hl : bs.length + s.length ≤ 1099511627776) :
    Calls Tryd.prog 36 #[.pointer (some ⟨b, 0, none⟩), .string ⟨s.toArray⟩] w fun r w' => r = .returned (.pointer (some ⟨b, 0, none⟩)) ∧ OutSt W0 b (bs ++ s) w' := by
  obtain ⟨v, hO, hv, hB⟩ := h
  exact (raw_any b v bs s w hO (by omega)).mono fun _ _ hp => OutSt.of_post hO hv hB hp
theorem out_text (W0 : World) (b : Nat) (bs s : List UInt8) (w : World) (h : OutSt W0 b bs w) (hl : bs.length ≤ 549755813888) (hs : s.length ≤ 549755813888) :
    Calls Tryd.prog 34 #[.pointer (some ⟨b, 0, none⟩), .string ⟨s.toArray⟩] w fun r w' => r = .returned (.pointer (some ⟨b, 0, none⟩)) ∧ OutSt W0 b (bs ++ (numL s.length ++ s)) w' := by
  obtain ⟨v, hO, hv, hB⟩ := h
  exact (text_any b v bs s w hO (by omega) hs).mono fun _ _ hp => OutSt.of_post hO hv hB hp
theorem out_bytes (W0 : World) (b : Nat) (bs : List UInt8) (w : World) (h : OutSt W0 b bs w) :
    Calls Tryd.prog 37 #[.pointer (some ⟨b, 0, none⟩)] w fun r w' => r = .returned (.string ⟨bs.toArray⟩) ∧ w = w' := by
  obtain ⟨v, hO, hv, hB⟩ := h
  exact bytes_any b v bs w hO
/-- In at b; nothing below n has turned since world W0. -/
def InSt (W0 : World) (n b : Nat) (s : List UInt8) (e : Int) (w : World) : Prop := n ≤ b ∧ InAt 73 w b s e ∧ Below n W0 w
theorem InSt.size {W0 w : World} {n b : Nat} {s : List UInt8} {e : Int} (h : InSt W0 n b s e w) (hn : n ≤ W0.heap.size) : n ≤ w.heap.size := Nat.le_trans hn h.2.2.size
end Go.Proofs.YtiegakeacghnfaaDoor

namespace Go.Proofs.YtiegakeacghnfaaDoor
open Go

/-- Each of the chain waits for the one ahead of it. -/
def chainOk (md : Region.Mode) (ops : Array Oper) (C : List Nat) : Bool :=
  (List.range C.length).all fun m => match C[m]?, C[m + 1]? with
    | some i, some j => (match ops[j]? with | some p => p.after.any (fun e => Region.binds md e && e.on == i) | none => false)
    | _, _ => true
/-- Operation j waits for i, by n edges at most. -/
def reach (md : Region.Mode) (ops : Array Oper) : Nat → Nat → Nat → Bool
  | 0, _, _ => false
  | n + 1, j, i => match ops[j]? with
    | some p => p.after.any (fun e => Region.binds md e && (e.on == i || reach md ops n e.on i))
    | none => false
/-- The chain's place b waits for operation i (or there is no such place). -/
def aheadOf (md : Region.Mode) (ops : Array Oper) (C : List Nat) (i b : Nat) : Bool :=
  b == C.length || (match C[b]? with
    | some j => reach md ops 16 j i
    | none => false)

/-- Only slots of the operations turn; that of a chain's operation that isn't done yet hasn't. -/
structure AgreeC (ops : Array Oper) (C : List Nat) (k : Nat) (a0 a : Act) : Prop extends Agree ops a0 a where
  kp : ∀ (m i : Nat) (o : Oper) (t : Tmp), k ≤ m → C[m]? = some i → ops[i]? = some o → o.dst = some t → a.eval (.tmp t) = a0.eval (.tmp t)

section
variable {P : Program} {ops : Array Oper} {Q : Exit → Act → World → Prop} {md : Region.Mode} {V : Tmp → Value → Prop} {G : Nat → Value → World → Prop} {C : List Nat} {a0 : Act}

/-- What one operation owes while k of the chain are done, k' behind it. -/
def OwesAt (P : Program) (md : Region.Mode) (ops : Array Oper) (Q : Exit → Act → World → Prop) (V : Tmp → Value → Prop) (G : Nat → Value → World → Prop) (C : List Nat) (a0 : Act) (i : Nat) (o : Oper) (k : Nat) : Prop :=
  ∀ a w x, AgreeC ops C k a0 a → G k x w → AllV (fun t v _ => V t v) a w (waits md ops o) →
    wpOp P ops Q i (fun a' w' => ∃ v, a' = a.put o.dst v ∧ (∀ t, o.dst = some t → V t v) ∧ G k x w') a w
/-- The slot of the chain's last one that is done holds x. -/
def Holds' (ops : Array Oper) (C : List Nat) (a : Act) (k : Nat) (x : Value) : Prop := ∀ (m i : Nat) (o : Oper) (t : Tmp), k = m + 1 → C[m]? = some i → ops[i]? = some o → o.dst = some t → a.eval (.tmp t) = x
/-- What the chain's operation m owes. -/
def OwesIn (P : Program) (md : Region.Mode) (ops : Array Oper) (Q : Exit → Act → World → Prop) (V : Tmp → Value → Prop) (G : Nat → Value → World → Prop) (C : List Nat) (a0 : Act) (i : Nat) (o : Oper) (m : Nat) : Prop :=
  ∀ a w x, AgreeC ops C m a0 a → G m x w → Holds' ops C a m x → AllV (fun t v _ => V t v) a w (waits md ops o) →
    wpOp P ops Q i (fun a' w' => ∃ v, a' = a.put o.dst v ∧ (∀ t, o.dst = some t → V t v) ∧ G (m + 1) v w') a w
def OwesC (P : Program) (md : Region.Mode) (ops : Array Oper) (Q : Exit → Act → World → Prop) (V : Tmp → Value → Prop) (G : Nat → Value → World → Prop) (C : List Nat) (a0 : Act) (i : Nat) (o : Oper) : Prop :=
  (∃ m, C[m]? = some i ∧ OwesIn P md ops Q V G C a0 i o m) ∨ (C.contains i = false ∧ ∃ b, aheadOf md ops C i b = true ∧ ∀ k, k ≤ b → OwesAt P md ops Q V G C a0 i o k)

theorem any_edge {md : Region.Mode} {p : Oper} {i : Nat} (h : p.after.any (fun e => Region.binds md e && e.on == i) = true) : ∃ e ∈ p.after, Region.binds md e = true ∧ e.on = i := by
  obtain ⟨j, hj, h1⟩ := Array.any_iff_exists.1 h
  obtain ⟨_, _, h2⟩ := h1
  rw [Bool.and_eq_true, beq_iff_eq] at h2
  exact ⟨_, Array.getElem_mem _, h2.1, h2.2⟩
theorem chain_edge {m i j : Nat} {p : Oper} (h : chainOk md ops C = true) (hi : C[m]? = some i) (hj : C[m + 1]? = some j) (hp : ops[j]? = some p) : ∃ e ∈ p.after, Region.binds md e = true ∧ e.on = i := by
  have := List.all_eq_true.1 h m (List.mem_range.2 (List.getElem?_eq_some_iff.1 hi).1)
  simp only [hi, hj, hp] at this
  exact any_edge this

theorem reach_done {L : Array Bool} (cl : ∀ (i : Nat) (o : Oper), ops[i]? = some o → L.getD i true = true → ∀ e ∈ o.after, Region.binds md e = true → L.getD e.on false = true) :
    ∀ (n j i : Nat), reach md ops n j i = true → L.getD j true = true → L.getD i false = true
  | 0, _, _, h, _ => by cases h
  | n + 1, j, i, h, hl => by
    unfold reach at h
    cases hp : ops[j]? with
    | none => rw [hp] at h; cases h
    | some p =>
      rw [hp] at h
      obtain ⟨q, _, h1⟩ := Array.any_iff_exists.1 h
      obtain ⟨_, _, h2⟩ := h1
      rw [Bool.and_eq_true, Bool.or_eq_true, beq_iff_eq] at h2
      have h3 := cl j p hp hl _ (Array.getElem_mem _) h2.1
      rcases h2.2 with e | hr
      · rw [← e]; exact h3
      · refine reach_done cl n _ i hr ?_
        have : p.after[q].on < L.size := by
          apply Nat.lt_of_not_le; intro hle
          simp [Array.getElem?_eq_none hle] at h3
        simp [this] at h3 ⊢
        exact h3
theorem getD_tf {L : Array Bool} {n i : Nat} (hL : L.size = n) (hi : i < n) : L.getD i true = L.getD i false := by
  simp [show i < L.size by omega]
theorem getD_set_at {L : Array Bool} {i : Nat} (hi : i < L.size) (d : Bool) : (L.setIfInBounds i true).getD i d = true := by simp [hi]
theorem getD_set_ne' {L : Array Bool} {i j : Nat} (h : j ≠ i) (d : Bool) : (L.setIfInBounds i true).getD j d = L.getD j d := by
  have := Ne.symm h
  simp [Array.getD_eq_getD_getElem?, this]

/-- What is known while the region goes. -/
structure ChainAt (md : Region.Mode) (ops : Array Oper) (V : Tmp → Value → Prop) (G : Nat → Value → World → Prop) (C : List Nat) (a0 : Act) (L : Array Bool) (a : Act) (w : World) (k : Nat) (x : Value) : Prop where
  g : G k x w
  ho : Holds' ops C a k x
  le : k ≤ C.length
  ch : ∀ (m i : Nat), C[m]? = some i → (L.getD i true = true ↔ m < k)
  cl : ∀ (i : Nat) (o : Oper), ops[i]? = some o → L.getD i true = true → ∀ e ∈ o.after, Region.binds md e = true → L.getD e.on false = true
  ag : Agree ops a0 a
  kp : ∀ (i : Nat) (o : Oper) (t : Tmp), ops[i]? = some o → L.getD i true = false → o.dst = some t → a.eval (.tmp t) = a0.eval (.tmp t)
  v : ∀ (i : Nat) (o : Oper) (t : Tmp), ops[i]? = some o → L.getD i true = true → o.dst = some t → V t (a.eval (.tmp t))

theorem ChainAt.agc {L : Array Bool} {a : Act} {w : World} {k : Nat} {x : Value} (h : ChainAt md ops V G C a0 L a w k x) : AgreeC ops C k a0 a :=
  ⟨h.ag, fun m i o t hm hi ho ht => h.kp i o t ho (by
    cases hl : L.getD i true with
    | false => rfl
    | true => exact absurd ((h.ch m i hi).1 hl) (by omega)) ht⟩
theorem wpAny_chain (hok : DrawOk ops a0.tmps.size) (hch : chainOk md ops C = true) (hnd : C.Nodup) (hCl : ∀ i ∈ C, i < ops.size) (step : ∀ (i : Nat) (o : Oper), ops[i]? = some o → OwesC P md ops Q V G C a0 i o)
    (fin : ∀ a w x, Agree ops a0 a → G C.length x w → Holds' ops C a C.length x → (∀ (i : Nat) (o : Oper) (t : Tmp), ops[i]? = some o → o.dst = some t → V t (a.eval (.tmp t))) → Q .normal a w) :
    ∀ (fuel : Nat) (L : Array Bool) (a : Act) (w : World) (k : Nat) (x : Value), unl L ops.size ≤ fuel → L.size = ops.size → ChainAt md ops V G C a0 L a w k x → wpAny P md ops Q fuel L a w := by
  have allL : ∀ L : Array Bool, L.size = ops.size → Region.ready md ops L = [] → ∀ (i : Nat) (o : Oper), ops[i]? = some o → L.getD i true = true := by
    intro L hL hr i o ho
    cases hc : L.getD i true with
    | true => rfl
    | false =>
      obtain ⟨j, hj⟩ := ready_some (md := md) hok hL i (Array.getElem?_eq_some_iff.1 ho).1 hc
      rw [hr] at hj; cases hj
  have done : ∀ (L : Array Bool) (a : Act) (w : World) (k : Nat) (x : Value), L.size = ops.size → ChainAt md ops V G C a0 L a w k x → Region.ready md ops L = [] → Q .normal a w := by
    intro L a w k x hL h hr
    have hk : k = C.length := by
      refine Nat.le_antisymm h.le (Nat.le_of_not_lt fun hlt => ?_)
      have hm : C[k]? = some C[k] := List.getElem?_eq_getElem hlt
      have hi := hCl _ (List.getElem_mem hlt)
      exact Nat.lt_irrefl _ ((h.ch k _ hm).1 (allL L hL hr _ _ (Array.getElem?_eq_getElem hi)))
    subst hk
    exact fin a w x h.ag h.g h.ho (fun i o t ho ht => h.v i o t ho (allL L hL hr i o ho) ht)
  intro fuel
  induction fuel with
  | zero =>
    intro L a w k x hu hL h
    have hr : Region.ready md ops L = [] := by
      apply List.eq_nil_iff_forall_not_mem.2
      intro j hj
      obtain ⟨hun, o, ho, _⟩ := mem_ready.1 hj
      have := unl_pos L ops.size j (Array.getElem?_eq_some_iff.1 ho).1 hun
      omega
    exact ⟨hr, done L a w k x hL h hr⟩
  | succ fuel ih =>
    intro L a w k x hu hL h
    refine ⟨fun hr => done L a w k x hL h hr, fun i hi => ?_⟩
    obtain ⟨hun, o, ho, hall⟩ := mem_ready.1 hi
    have hil : i < ops.size := (Array.getElem?_eq_some_iff.1 ho).1
    have hw : AllV (fun t v _ => V t v) a w (waits md ops o) := AllV.of (by
      intro t ht
      unfold waits at ht
      obtain ⟨e, he, hd⟩ := List.mem_filterMap.1 ht
      obtain ⟨he1, he2⟩ := List.mem_filter.1 he
      cases hj : ops[e.on]? with
      | none => rw [hj] at hd; cases hd
      | some p =>
        rw [hj] at hd
        have hl := hall e (by simpa using he1) he2
        exact h.v e.on p t hj (by rw [getD_tf hL (Array.getElem?_eq_some_iff.1 hj).1]; exact hl) hd)
    -- what follows, with k' of the chain done
    have next : ∀ (k' : Nat) (y : Value → Value), k' ≤ C.length → (∀ v, Holds' ops C (a.put o.dst v) k' (y v)) → (∀ (m j : Nat), C[m]? = some j → ((L.setIfInBounds i true).getD j true = true ↔ m < k')) →
        wpOp P ops Q i (fun a' w' => ∃ v, a' = a.put o.dst v ∧ (∀ t, o.dst = some t → V t v) ∧ G k' (y v) w') a w → wpOp P ops Q i (fun a' w' => wpAny P md ops Q fuel (L.setIfInBounds i true) a' w') a w := by
      intro k' y hk' hho hch' hop
      refine wpOp_mono (fun a' w' hh => ?_) hop
      obtain ⟨v, rfl, hvi, hG'⟩ := hh
      refine ih _ _ _ k' (y v) ?_ (by simpa using hL) ⟨hG', hho v, hk', hch', ?_, ?_, ?_, ?_⟩
      · have := unl_set L i hun ops.size
        rw [if_pos hil] at this; omega
      · intro j p hp hl e he hb
        by_cases hji : j = i
        · subst hji
          rw [ho] at hp; cases hp
          have := hall e he hb
          by_cases hei : e.on = j
          · rw [hei, getD_set_at (by omega)]
          · rw [getD_set_ne' hei]; exact this
        · rw [getD_set_ne' hji] at hl
          have := h.cl j p hp hl e he hb
          by_cases hei : e.on = i
          · rw [hei, getD_set_at (by omega)]
          · rw [getD_set_ne' hei]; exact this
      · refine ⟨by rw [size_put]; exact h.ag.size, by rw [defers_put]; exact h.ag.defers, fun t ht => ?_⟩
        rw [Act.eval_put (fun d hd e => ht i o ho (by cases e; exact hd))]
        exact h.ag.same t ht
      · intro j p t hp hl ht
        have e : j ≠ i := by
          rintro rfl
          rw [getD_set_at (by omega)] at hl; cases hl
        rw [Act.eval_put (fun d hd e2 => by cases e2; exact hok.apart i j o p t ho hp e hd ht)]
        rw [getD_set_ne' e] at hl
        exact h.kp j p t hp hl ht
      · intro j p t hp hl ht
        by_cases e : j = i
        · subst e
          rw [ho] at hp; cases hp
          rw [ht, eval_put_same (by rw [h.ag.size]; exact hok.room j o t ho ht)]
          exact hvi t ht
        · rw [Act.eval_put (fun d hd e2 => by cases e2; exact hok.apart i j o p t ho hp e hd ht)]
          rw [getD_set_ne' e] at hl
          exact h.v j p t hp hl ht
    rcases step i o ho with ⟨m, hm, hop⟩ | ⟨hni, b, hb, hop⟩
    · have hmk : m = k := by
        have h1 : ¬ m < k := fun hlt => by rw [(h.ch m i hm).2 hlt] at hun; cases hun
        have h2 : m ≤ k := by
          cases m with
          | zero => exact Nat.zero_le _
          | succ m =>
            have hlt : m < C.length := by have := (List.getElem?_eq_some_iff.1 hm).1; omega
            have hj : C[m]? = some C[m] := List.getElem?_eq_getElem hlt
            obtain ⟨e, he, hbd, hon⟩ := chain_edge hch hj hm ho
            have := hall e he hbd
            rw [hon] at this
            exact (h.ch m _ hj).1 (by rw [getD_tf hL (hCl _ (List.getElem_mem hlt))]; exact this)
        omega
      subst hmk
      have hmlt : m < C.length := (List.getElem?_eq_some_iff.1 hm).1
      refine next (m + 1) (fun v => v) hmlt ?_ ?_ (hop a w x h.agc h.g h.ho hw)
      · intro v m2 j p t hm2 hj hp ht
        obtain rfl : m2 = m := by omega
        rw [hm] at hj; cases hj
        rw [ho] at hp; cases hp
        rw [ht, eval_put_same (by rw [h.ag.size]; exact hok.room i o t ho ht)]
      intro m2 j hj
      by_cases hji : j = i
      · subst hji
        have : m2 = m := by
          obtain ⟨l2, e2⟩ := List.getElem?_eq_some_iff.1 hj
          obtain ⟨l1, e1⟩ := List.getElem?_eq_some_iff.1 hm
          exact (List.getElem_inj hnd).1 (e2.trans e1.symm)
        subst this
        rw [getD_set_at (by omega)]
        exact ⟨fun _ => Nat.lt_succ_self _, fun _ => rfl⟩
      · rw [getD_set_ne' hji, h.ch m2 j hj]
        have : m2 ≠ m := by
          rintro rfl
          rw [hm] at hj; cases hj; exact hji rfl
        omega
    · have hkb : k ≤ b := by
        unfold aheadOf at hb
        rw [Bool.or_eq_true, beq_iff_eq] at hb
        rcases hb with rfl | hb
        · exact h.le
        · cases hj : C[b]? with
          | none => rw [hj] at hb; cases hb
          | some j =>
            rw [hj] at hb
            simp only at hb
            refine Nat.le_of_not_lt fun hlt => ?_
            have := reach_done h.cl 16 j i hb ((h.ch b j hj).2 hlt)
            rw [← getD_tf hL hil, hun] at this
            cases this
      refine next k (fun _ => x) h.le ?_ ?_ (hop k hkb a w x h.agc h.g hw)
      · intro v m2 j p t hm2 hj hp ht
        have hji : j ≠ i := by
          rintro rfl
          have := List.mem_of_getElem? hj
          rw [List.contains_eq_mem, decide_eq_false_iff_not] at hni
          exact hni this
        rw [Act.eval_put (fun d hd e2 => by cases e2; exact hok.apart i j o p t ho hp hji hd ht)]
        exact h.ho m2 j p t hm2 hj hp ht
      intro m2 j hj
      have hji : j ≠ i := by
        rintro rfl
        have := List.mem_of_getElem? hj
        rw [List.contains_eq_mem, decide_eq_false_iff_not] at hni
        exact hni this
      rw [getD_set_ne' hji, h.ch m2 j hj]

/-- The obligations one after the other. -/
def OweAllC (P : Program) (md : Region.Mode) (ops : Array Oper) (Q : Exit → Act → World → Prop) (V : Tmp → Value → Prop) (G : Nat → Value → World → Prop) (C : List Nat) (a0 : Act) : Nat → List Oper → Prop
  | _, [] => True
  | k, o :: r => OwesC P md ops Q V G C a0 k o ∧ OweAllC P md ops Q V G C a0 (k + 1) r
theorem OweAllC.get : ∀ {l : List Oper} {k : Nat}, OweAllC P md ops Q V G C a0 k l → ∀ (i : Nat) (o : Oper), l[i]? = some o → OwesC P md ops Q V G C a0 (k + i) o
  | _ :: _, k, h, 0, o, hi => by cases hi; exact h.1
  | _ :: r, k, h, i + 1, o, hi => by
    have := OweAllC.get h.2 i o (by simpa using hi)
    rwa [show k + 1 + i = k + (i + 1) by omega] at this
  | [], _, _, i, o, hi => by simp at hi
theorem OweAllC.cons {k : Nat} {o : Oper} {r : List Oper} (h : OwesC P md ops Q V G C a0 k o) (h2 : OweAllC P md ops Q V G C a0 (k + 1) r) : OweAllC P md ops Q V G C a0 k (o :: r) := ⟨h, h2⟩
theorem OweAllC.nil {k : Nat} : OweAllC P md ops Q V G C a0 k [] := trivial

theorem wp_region_chain {id : Nat} {w : World} (V : Tmp → Value → Prop) (G : Nat → Value → World → Prop) (C : List Nat) (N : Nat) (hm : P.follows .mixedOrders = true) (hok : drawOk ops N = true) (hN : a0.tmps.size = N)
    (hch : chainOk .any ops C = true) (hnd : decide C.Nodup = true) (hCl : C.all (· < ops.size) = true) (hG : G 0 undef w.drew)
    (step : OweAllC P .any ops Q V G C a0 0 ops.toList)
    (fin : ∀ f w x, G C.length x w → (∀ (m i : Nat) (o : Oper) (t : Tmp), C.length = m + 1 → C[m]? = some i → ops[i]? = some o → o.dst = some t → f t = x) → (∀ (i : Nat) (o : Oper) (t : Tmp), ops[i]? = some o → o.dst = some t → V t (f t)) → Q .normal (puts f (dsts ops) a0) w) : (Code.region id ops true).wp P Q a0 w := by
  subst hN
  have hok := drawOk_spec hok
  have hCl' : ∀ i ∈ C, i < ops.size := fun i hi => by simpa using List.all_eq_true.1 hCl i hi
  have hL0 : ∀ i, i < ops.size → (Array.replicate ops.size false).getD i true = false := fun i hi => by simp [hi]
  refine wp_region_any hm (wpAny_chain (V := V) (G := G) (C := C) hok hch (of_decide_eq_true hnd) hCl' (fun i o ho => ?_) (fun a w x ha hg hh hv => ?_) ops.size _ a0 _ 0 undef (unl_le _ _) (by simp) ⟨hG, (fun m i o t h => by omega), Nat.zero_le _, ?_, ?_, ⟨rfl, rfl, fun _ _ => rfl⟩, (fun _ _ _ _ _ _ => rfl), ?_⟩)
  · have := step.get i o (by simpa using ho)
    rwa [Nat.zero_add] at this
  · rw [ha.puts hok]
    exact fin _ w x hg hh hv
  · intro m i hi
    have := hCl' i (List.mem_of_getElem? hi)
    rw [hL0 i this]
    simp
  · intro i o ho hl
    rw [hL0 i (Array.getElem?_eq_some_iff.1 ho).1] at hl; cases hl
  · intro i o t ho hl _
    rw [hL0 i (Array.getElem?_eq_some_iff.1 ho).1] at hl; cases hl

/-- An operation beside the chain that yields a value and turns nothing. -/
theorem owesC_val {i : Nat} {o : Oper} {t : Tmp} (b : Nat) (hb : aheadOf md ops C i b = true) (hni : C.contains i = false) (hi : ops[i]? = some o) (ht : o.dst = some t)
    (h : ∀ k a w x, k ≤ b → AgreeC ops C k a0 a → G k x w → AllV (fun t v _ => V t v) a w (waits md ops o) → ∃ v, Region.wanted o (yielded ops a.tmps) = true ∧ (execOp a.eval o).run P w = .ok (.value v) w ∧ V t v) : OwesC P md ops Q V G C a0 i o := by
  refine .inr ⟨hni, b, hb, fun k hk a w x ha hG hV => ?_⟩
  obtain ⟨v, hw, hr, hv⟩ := h k a w x hk ha hG hV
  unfold wpOp
  rw [hi]
  simp only [hw, if_true, Oper.wp, hr, Oper.upon]
  exact .inl ⟨v, rfl, fun u hu => by rw [ht] at hu; cases hu; exact hv, hG⟩
/-- A call beside the chain. -/
theorem owesC_side {i : Nat} {o : Oper} {t : Tmp} (b : Nat) (hb : aheadOf md ops C i b = true) (hni : C.contains i = false) (hi : ops[i]? = some o) (ht : o.dst = some t) (f : FuncId)
    (h : ∀ k a w x, k ≤ b → AgreeC ops C k a0 a → G k x w → AllV (fun t v _ => V t v) a w (waits md ops o) → ∃ args, Region.wanted o (yielded ops a.tmps) = true ∧ (execOp a.eval o).run P w = .ok (.enter f args) w ∧
      Calls P f args w fun e w' => ∃ v, e = .returned v ∧ V t v ∧ G k x w') : OwesC P md ops Q V G C a0 i o := by
  refine .inr ⟨hni, b, hb, fun k hk a w x ha hG hV => ?_⟩
  obtain ⟨args, hw, hr, hc⟩ := h k a w x hk ha hG hV
  unfold wpOp
  rw [hi]
  simp only [hw, if_true, Oper.wp, hr, Oper.upon]
  refine .inl (hc.mono ?_)
  rintro e w' ⟨v, rfl, h1, h2⟩
  exact ⟨v, rfl, fun u hu => by rw [ht] at hu; cases hu; exact h1, h2⟩
/-- A call of the chain. -/
theorem owesC_call {i : Nat} {o : Oper} {t : Tmp} (m : Nat) (hm : C[m]? = some i) (hi : ops[i]? = some o) (ht : o.dst = some t) (f : FuncId)
    (h : ∀ a w x, AgreeC ops C m a0 a → G m x w → Holds' ops C a m x → AllV (fun t v _ => V t v) a w (waits md ops o) → ∃ args, Region.wanted o (yielded ops a.tmps) = true ∧ (execOp a.eval o).run P w = .ok (.enter f args) w ∧
      Calls P f args w fun e w' => ∃ v, e = .returned v ∧ V t v ∧ G (m + 1) v w') : OwesC P md ops Q V G C a0 i o := by
  refine .inl ⟨m, hm, fun a w x ha hG hh hV => ?_⟩
  obtain ⟨args, hw, hr, hc⟩ := h a w x ha hG hh hV
  unfold wpOp
  rw [hi]
  simp only [hw, if_true, Oper.wp, hr, Oper.upon]
  refine .inl (hc.mono ?_)
  rintro e w' ⟨v, rfl, h1, h2⟩
  exact ⟨v, rfl, fun u hu => by rw [ht] at hu; cases hu; exact h1, h2⟩
/-- An operation of the chain that yields a value and turns memory. -/
theorem owesC_mem {i : Nat} {o : Oper} {t : Tmp} (m : Nat) (hm : C[m]? = some i) (hi : ops[i]? = some o) (ht : o.dst = some t)
    (h : ∀ a w x, AgreeC ops C m a0 a → G m x w → Holds' ops C a m x → AllV (fun t v _ => V t v) a w (waits md ops o) → ∃ v w', Region.wanted o (yielded ops a.tmps) = true ∧ (execOp a.eval o).run P w = .ok (.value v) w' ∧ V t v ∧ G (m + 1) v w') : OwesC P md ops Q V G C a0 i o := by
  refine .inl ⟨m, hm, fun a w x ha hG hh hV => ?_⟩
  obtain ⟨v, w', hw, hr, h1, h2⟩ := h a w x ha hG hh hV
  unfold wpOp
  rw [hi]
  simp only [hw, if_true, Oper.wp, hr, Oper.upon]
  exact .inl ⟨v, rfl, fun u hu => by rw [ht] at hu; cases hu; exact h1, h2⟩
/-- A store of the chain. -/
theorem owesC_store {i : Nat} {o : Oper} (m : Nat) (hm : C[m]? = some i) (hi : ops[i]? = some o) (ht : o.dst = none)
    (h : ∀ a w x, AgreeC ops C m a0 a → G m x w → Holds' ops C a m x → AllV (fun t v _ => V t v) a w (waits md ops o) → ∃ w', Region.wanted o (yielded ops a.tmps) = true ∧ (execOp a.eval o).run P w = .ok .skip w' ∧ G (m + 1) undef w') : OwesC P md ops Q V G C a0 i o := by
  refine .inl ⟨m, hm, fun a w x ha hG hh hV => ?_⟩
  obtain ⟨w', hw, hr, h2⟩ := h a w x ha hG hh hV
  unfold wpOp
  rw [hi]
  simp only [hw, if_true, Oper.wp, hr, Oper.upon]
  exact .inl ⟨undef, rfl, fun u hu => (by rw [ht] at hu; cases hu), h2⟩
/-- An operation of the chain by its own law (an append). -/
theorem owesC_law {i : Nat} {o : Oper} (m : Nat) (hm : C[m]? = some i) (hi : ops[i]? = some o)
    (h : ∀ a w x, AgreeC ops C m a0 a → G m x w → Holds' ops C a m x → AllV (fun t v _ => V t v) a w (waits md ops o) → Region.wanted o (yielded ops a.tmps) = true ∧
      ∀ K : Act → World → Prop, (∀ v w', (∀ t, o.dst = some t → V t v) → G (m + 1) v w' → K (a.put o.dst v) w') → o.wp P a w K Q) : OwesC P md ops Q V G C a0 i o := by
  refine .inl ⟨m, hm, fun a w x ha hG hh hV => ?_⟩
  obtain ⟨hw, hl⟩ := h a w x ha hG hh hV
  unfold wpOp
  rw [hi]
  simp only [hw, if_true]
  exact .inl (hl _ (fun v w' h1 h2 => ⟨v, rfl, h1, h2⟩))
end
end Go.Proofs.YtiegakeacghnfaaDoor
namespace Go.Proofs.YtiegakeacghnfaaDoor
open Go
/-- A slot is written, by an operation of no region. -/
def mv (t : Tmp) (v : Value) : Oper := { dst := some t, op := .move (.const v), type := 0, pos := "", after := #[], guard := none }
theorem moves_back {P : Program} {ops : Array Oper} {Q : Exit → Act → World → Prop} (f : Tmp → Value) : ∀ (l : List Tmp) (a : Act) (w : World), wpList P ops Q (l.map fun t => mv t (f t)) a w → Q .normal (puts f l a) w
  | [], _, _, h => h
  | t :: r, a, w, h => by
    refine moves_back (P := P) (ops := ops) f r (a.put (some t) (f t)) w ?_
    rw [List.map_cons, wpList] at h
    have hw : Region.wanted (mv t (f t)) (yielded ops a.tmps) = true := rfl
    rw [if_pos hw] at h
    rcases h with h | h
    · unfold Oper.wp at h
      have he : (execOp a.eval (mv t (f t))).run P w = .ok (.value (f t)) w := rfl
      rw [he] at h
      exact h
    · exfalso
      have he : ((execOp a.eval (mv t (f t))).runT P w #[]).2 = #[] := rfl
      have h1 := h.1.1
      rw [he] at h1
      simp at h1
end Go.Proofs.YtiegakeacghnfaaDoor
