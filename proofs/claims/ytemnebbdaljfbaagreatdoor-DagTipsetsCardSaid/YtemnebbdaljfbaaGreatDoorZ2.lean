/- Texts 2: what the laws lean on. -/
import Derived.Test.YtemnebbdaljfbaaGreatDoorZ1
import Derived.Deep.AppendSrc
import Derived.Deep.AppendLies
import Derived.Stop.BytesEq
import Derived.Orders
import Derived.Tactics
import Derived.Lib.Bytealg
import Derived.Deep.MidRow
set_option linter.unusedVariables false
set_option linter.unusedSimpArgs false
namespace Go.Proofs.YtemnebbdaljfbaaGreatDoor
open Go.RowKit

theorem heap_setCells_at (g : Nat) (e : TypeId) : ∀ (vs : List Value) (o : Nat) (w : World) (cur : Array Value), w.heap[g]? = some (.cells cur e (0, 0)) → o + vs.length ≤ cur.size →
    (w.setCells g o vs).heap[g]? = some (.cells (cur.toList.take o ++ vs ++ cur.toList.drop (o + vs.length)).toArray e (0, 0))
  | [], o, w, cur, h, _ => by simp [World.setCells, h]
  | v :: vs, o, w, cur, h, hf => by
    simp only [List.length_cons] at hf
    have h1 := heap_setCell_same w g o cur e v h
    have ih := heap_setCells_at g e vs (o + 1) (w.setCell ⟨g, o, none⟩ v) (cur.setIfInBounds o v) h1 (by simp; omega)
    rw [World.setCells, ih]
    congr 3
    rw [Array.toList_setIfInBounds]
    have hl : o < cur.toList.length := by simp; omega
    rw [List.take_succ_eq_append_getElem (by simpa using hl)]
    simp only [List.getElem_set_self, List.take_set_of_le (Nat.le_refl o), List.drop_set_of_lt (show o < o + 1 + vs.length by omega), List.length_cons, List.append_assoc, List.cons_append, List.nil_append]
    rw [show o + (vs.length + 1) = o + 1 + vs.length by omega]

theorem grownBy_setCells (g : Nat) (vs : List Value) : ∀ (o : Nat) (w : World), w.grownBy (w.setCells g o vs) (some g) := by
  induction vs with
  | nil => intro o w; exact ⟨rfl, rfl, rfl, Nat.le_refl _, fun _ _ _ => rfl⟩
  | cons v vs ih =>
    intro o w
    have h := ih (o + 1) (w.setCell ⟨g, o, none⟩ v)
    refine ⟨h.os, h.tape, h.output, ?_, fun k hk hne => ?_⟩
    · exact Nat.le_trans (show w.heap.size ≤ (w.setCell ⟨g, o, none⟩ v).heap.size by simp [World.setCell]) h.size
    · refine (h.block k (by simpa [World.setCell] using hk) hne).trans ?_
      exact heap_setCell_other w ⟨g, o, none⟩ k v (fun e => hne (by simp [e]))

theorem run_append_src {P : Program} (w : World) (t tx ty e : TypeId) (i : TypeInfo) (z : Value) (size bytes : Nat) (ht : P.underlying t = some (.slice e)) (hi : P.info? e = some i) (hz : i.zero = some z)
    (hsize : i.size = size) (hby : i.bytes = bytes) (hzs : z.cells.size = size)
    (v : Value) (n : Nat) (xs : List Value) (hown : w.ownsRow 0 e size v n xs) (x : Value) (m : Nat) (news : List Value) (hs : Src P size tx x m news w)
    (h63 : n + m ≤ maxLen) (hbytes : (n + m) * bytes ≤ 140737488355328) :
    ∃ v' w', (Builtin.append_ #[t, tx] ty #[v, x]).run P w = .ok v' w' ∧ w'.ownsRow 0 e size v' (n + m) (xs ++ news) ∧ w.grownBy w' v.ownBlock ∧
      (v'.ownBlock = v.ownBlock ∨ v'.ownBlock = some w.heap.size) := by
  subst hsize
  subst hby
  have hlen : (xs ++ news).length = (n + m) * i.size := by rw [List.length_append, hown.1, hs.newsLen, Nat.add_mul]
  have h63i : ((n + m : Nat) : Int) ≤ 9223372036854775807 := by simp only [maxLen] at h63; omega
  have grown : ∀ (old : Nat), old < n + m → ∀ (row : Option Nat),
      (w.drew.alloc (.cells ((xs ++ news).toArray ++ Builtin.zeroCells z.cells (grownCap w (n + m) old e - (n + m))) e)).ownsRow 0 e i.size
        (.slice (some ⟨w.heap.size, 0, none⟩) (n + m) (grownCap w (n + m) old e)) (n + m) (xs ++ news) ∧
      w.grownBy (w.drew.alloc (.cells ((xs ++ news).toArray ++ Builtin.zeroCells z.cells (grownCap w (n + m) old e - (n + m))) e)) row := by
    intro old ho row
    have hge := grownCap_ge w (n + m) old e
    have hcm := grownCap_le_maxLen w (n + m) old e h63
    refine ⟨⟨hlen, .inr ⟨w.heap.size, _, _, rfl, Nat.zero_le _, heap_alloc_new w.drew _, hge, hcm, ?_, ?_⟩⟩, ⟨rfl, rfl, rfl, by simp, fun k hk _ => heap_alloc_old w.drew _ hk⟩⟩
    · rw [Array.size_append, List.size_toArray, hlen, size_zeroCells, hzs, ← Nat.add_mul]
      congr 1
      omega
    · rw [Array.toList_append, ← hlen]
      exact List.take_left
  rcases hown.2 with ⟨rfl, rfl⟩ | ⟨g, cap, cur, rfl, hbg, hg, hnc, hcm, hcs, htake⟩
  · have hx : xs = [] := List.eq_nil_of_length_eq_zero (by simpa using hown.1)
    subst hx
    by_cases hm : m = 0
    · subst hm
      have hn : news = [] := List.eq_nil_of_length_eq_zero (by simpa using hs.newsLen)
      subst hn
      refine ⟨.slice none 0 0, w, ?_, World.ownsRow_nil w 0 e i.size, ⟨rfl, rfl, rfl, Nat.le_refl _, fun _ _ _ => rfl⟩, .inl rfl⟩
      rcases hs.kind with ⟨e', hk⟩ | hk <;> simp [Builtin.append_, run_underlying ht, run_underlying hk, sizeOf, typeInfo, hi, hs.len, hs.cells]
    · have hr := run_append_grow_src (P := P) w t tx ty e i z ht hi hz none 0 0 [] (run_firstCells_none _ _ _ _ _) x m news hs (by omega) h63i (growslice_fits (by omega) hbytes)
      have hgr := grown 0 (by omega) (Value.ownBlock (.slice none 0 0))
      simp only [Nat.zero_add, List.nil_append] at hr hgr ⊢
      exact ⟨_, _, hr, hgr.1, hgr.2, .inr rfl⟩
  · have hcell : ∀ j, j < cap * i.size → w.cell? ⟨g, j, none⟩ = cur[j]? := fun j _ => cell_of_row w g j cur e (0, 0) hg
    by_cases hroom : n + m ≤ cap
    · have hfit : n * i.size + news.length ≤ cur.size := by rw [hs.newsLen, hcs, ← Nat.add_mul]; exact Nat.mul_le_mul_right _ hroom
      have hr := run_append_room_src (P := P) w t tx ty e i ht hi g 0 n cap x m news hs hroom
        (fun j hj => by rw [Nat.zero_add, cell_of_row w g _ cur e (0, 0) hg, Array.getElem?_eq_getElem (show n * i.size + j < cur.size by omega)]; rfl)
        (fun j _ => frozen_of_row w g _ cur e hg)
      rw [Nat.zero_add] at hr
      refine ⟨_, _, hr, ⟨hlen, .inr ⟨g, cap, _, rfl, hbg, heap_setCells_at g e news (n * i.size) w cur hg hfit, hroom, hcm, ?_, ?_⟩⟩, grownBy_setCells g news _ w, .inl rfl⟩
      · simp only [List.size_toArray, List.length_append, List.length_take, List.length_drop, Array.length_toList]
        omega
      · rw [htake, ← hlen]
        exact List.take_left
    · have hf := run_firstCells_some (P := P) w.drew i.size n ⟨g, 0, none⟩ n cap xs hown.1 (by simpa using hown.cells (g := g) rfl)
      have hr := run_append_grow_src (P := P) w t tx ty e i z ht hi hz (some ⟨g, 0, none⟩) n cap xs hf x m news hs (by omega) h63i (growslice_fits (by omega) hbytes)
      have hgr := grown cap (by omega) (Value.ownBlock (.slice (some ⟨g, 0, none⟩) n cap))
      exact ⟨_, _, hr, hgr.1, hgr.2, .inr rfl⟩

theorem wp_append_src {P : Program} {w : World} {o : Oper} {a : Act} {K : Act → World → Prop} {Q : Exit → Act → World → Prop} (s x : Operand) (t tx : TypeId)
    (ho : o.op = .call { callee := .builtin .append, args := #[s, x], argTypes := #[t, tx] })
    (e : TypeId) (i : TypeInfo) (z : Value) (size bytes : Nat) (ht : P.underlying t = some (.slice e)) (hi : P.info? e = some i) (hz : i.zero = some z)
    (hsize : i.size = size) (hby : i.bytes = bytes) (hzs : z.cells.size = size)
    (v : Value) (n : Nat) (xs : List Value) (hs : a.eval s = v) (hown : w.ownsRow 0 e size v n xs) (xv : Value) (m : Nat) (news : List Value) (hx : a.eval x = xv) (hsrc : Src P size tx xv m news w)
    (h63 : n + m ≤ maxLen) (hbytes : (n + m) * bytes ≤ 140737488355328)
    (h : ∀ v' w', w'.ownsRow 0 e size v' (n + m) (xs ++ news) → w.grownBy w' v.ownBlock → (v'.ownBlock = v.ownBlock ∨ v'.ownBlock = some w.heap.size) → K (a.put o.dst v') w') : o.wp P a w K Q := by
  obtain ⟨v', w', hr, h2, h3, h4⟩ := run_append_src (P := P) w t tx o.type e i z size bytes ht hi hz hsize hby hzs v n xs hown xv m news hsrc h63 hbytes
  unfold Oper.wp execOp
  simp only [ho, resolve, invoke, builtin, Sem.run_bind, Sem.run_pure, Result.andThen_ok, List.map_toArray, List.map_cons, List.map_nil, hs, hx, hr]
  exact h v' w' h2 h3 h4

theorem wpList_append_src {P : Program} {w : World} {ops : Array Oper} {rest : List Oper} {o : Oper} {a : Act} {Q : Exit → Act → World → Prop} (hgd : o.guard = none) (s x : Operand) (t tx : TypeId)
    (ho : o.op = .call { callee := .builtin .append, args := #[s, x], argTypes := #[t, tx] })
    (e : TypeId) (i : TypeInfo) (z : Value) (size bytes : Nat) (ht : P.underlying t = some (.slice e)) (hi : P.info? e = some i) (hz : i.zero = some z)
    (hsize : i.size = size) (hby : i.bytes = bytes) (hzs : z.cells.size = size)
    (v : Value) (n : Nat) (xs : List Value) (hs : a.eval s = v) (hown : w.ownsRow 0 e size v n xs) (xv : Value) (m : Nat) (news : List Value) (hx : a.eval x = xv) (hsrc : Src P size tx xv m news w)
    (h63 : n + m ≤ maxLen) (hbytes : (n + m) * bytes ≤ 140737488355328)
    (h : ∀ v' w', w'.ownsRow 0 e size v' (n + m) (xs ++ news) → w.grownBy w' v.ownBlock → (v'.ownBlock = v.ownBlock ∨ v'.ownBlock = some w.heap.size) → wpList P ops Q rest (a.put o.dst v') w') : wpList P ops Q (o :: rest) a w :=
  wpList_plain hgd fun _ hK => wp_append_src s x t tx ho e i z size bytes ht hi hz hsize hby hzs v n xs hs hown xv m news hx hsrc h63 hbytes fun v' w' h2 h3 h4 => hK _ _ (h v' w' h2 h3 h4)

end Go.Proofs.YtemnebbdaljfbaaGreatDoor

namespace Go.Proofs.YtemnebbdaljfbaaGreatDoor
open Go.RowKit

theorem OutAt.conv {P : Program} {T E : TypeId} {w : World} {b : Nat} {v : Value} {bs : List UInt8} (h : OutAt T E w b v bs) (src dst : TypeId) (hs : P.underlying src = some (.slice E)) (he : P.underlying E = some (.int .u8)) (hd : P.underlying dst = some .string) :
    (convert src dst v).run P w = .ok (.string ⟨bs.toArray⟩) w := by
  rcases h.own.2 with ⟨rfl, h0⟩ | ⟨g, cap, cur, rfl, _, hg, hnc, _, hcs, htake⟩
  · rw [List.length_eq_zero_iff.1 h0]
    exact run_convert_bytes_nil w src E hs he 0 0 dst hd
  · have hr := run_convert_bytes_arg (P := P) w src E hs he g 0 bs.length cap (bs.map fun x => (x.toNat : Int)) (by simp) (fun i hi => by
      have := h.own.cellAt i (by omega)
      rw [Nat.zero_add, this]
      simp [vals, List.getD, hi]) dst hd
    rw [hr]
    congr 2
    apply ByteArray.ext
    apply Array.toList_inj.1
    rw [strOfNums_data, List.map_map]
    simp only [Function.comp_def, Int.toNat_natCast, UInt8.ofNat_toNat, List.map_id']

set_option maxHeartbeats 400000 in
theorem bytes_any (b : Nat) (v : Value) (bs : List UInt8) (w : World) (hO : OutAt 146 5 w b v bs) :
    Calls Tryz.prog 111 #[.pointer (some ⟨b, 0, none⟩)] w fun r w' => r = .returned (.string ⟨bs.toArray⟩) ∧ w = w' := by
  have hc := hO.cell
  have hcv := hO.conv (P := Tryz.prog) 68 9 Tryz.underlying68 Tryz.underlying5 Tryz.underlying9
  clear hO
  go_enter Tryz.func111, Tryz.ntmps111
  go_wp2
  go_ret
  exact ⟨rfl, rfl⟩

theorem byteCells_vals (l : List UInt8) : byteCells ⟨l.toArray⟩ = vals l := by simp [byteCells, vals]

set_option maxHeartbeats 400000 in
theorem raw_any (b : Nat) (v : Value) (bs s : List UInt8) (w : World) (hO : OutAt 146 5 w b v bs) (hlen : bs.length + s.length ≤ 2199023255552) :
    Calls Tryz.prog 110 #[.pointer (some ⟨b, 0, none⟩), .string ⟨s.toArray⟩] w (NumPost b v (bs ++ s) w) := by
  obtain ⟨i0, hi, hz0, hz1, hz2⟩ := info_parts Tryz.info5
  have hc := hO.cell
  have hf := hO.froz
  go_enter Tryz.func110, Tryz.ntmps110
  go_wp2_with (at_builtin; refine wpList_append_src rfl (.tmp 9) (.tmp 10) 68 9 rfl 5 i0 (.int .u8 0) 1 1 Tryz.underlying68 hi hz0 hz1 hz2 rfl v bs.length (vals bs) rfl hO.own (.string ⟨s.toArray⟩) s.length (vals s) rfl ?c1 ?c2 ?c3 ?_)
  case c1 => have h := Src.ofString (P := Tryz.prog) w Tryz.underlying9 ⟨s.toArray⟩; rwa [byteCells_vals] at h
  case c2 => unfold maxLen; omega
  case c3 => omega
  intro v1 w1 hown1 hgrow1 hat1
  rw [← vals_app, ← List.length_append] at hown1
  have hne : v1.ownBlock ≠ some b := by
    rcases hat1 with h | h
    · rw [h]; exact hO.ne
    · rw [h]; have := hO.lt; intro e; injection e with e; omega
  have hO1 := hO.store hgrow1 hown1 hne
  have hc1 : w1.cell? ⟨b, 0, none⟩ = some v := (World.cell?_of_block (hgrow1.block b hO.lt (fun e => hO.ne e.symm))).trans hc
  have hf1 : w1.frozen? ⟨b, 0, none⟩ = false := (World.frozen?_of_block (hgrow1.block b hO.lt (fun e => hO.ne e.symm))).trans hf
  have hpost : NumPost b v (bs ++ s) w (.returned (.pointer (some ⟨b, 0, none⟩))) (w1.setCell ⟨b, 0, none⟩ v1) := by
    refine ⟨rfl, v1, hO1, ((Mod.refl (fun k => k = b ∨ v.ownBlock = some k) _).grown hgrow1 (fun k hk _ => Or.inr hk)).setCell (p := ⟨b, 0, none⟩) (fun _ => Or.inl rfl) _, ?_⟩
    rcases hat1 with h | h
    · exact .inl h
    · right; intro k hk; rw [h] at hk; injection hk with hk; omega
  have Hp := Lib.hid hpost
  clear hpost hO1 hgrow1 hat1 hc hf
  rcases hown1.2 with ⟨rfl, _⟩ | ⟨g, cap, cur, rfl, _⟩
  · clear hown1 hne
    go_wp2
    go_ret
    exact Hp.out
  · clear hown1 hne
    rw [List.length_append] at Hp ⊢
    go_wp2
    go_ret
    exact Hp.out

theorem NumPost.trans {b : Nat} {v v1 : Value} {out : List UInt8} {w w1 w2 : World} {r : Ending} (hM : Mod (fun k => k = b ∨ v.ownBlock = some k) w w1) (hv : v1.ownBlock = v.ownBlock ∨ ∀ k, v1.ownBlock = some k → w.heap.size ≤ k)
    (h : NumPost b v1 out w1 r w2) : NumPost b v out w r w2 := by
  obtain ⟨hr, v2, hO, hM2, hv2⟩ := h
  refine ⟨hr, v2, hO, hM.trans hM2 ?_, ?_⟩
  · intro i hi h
    rcases h with h | h
    · exact .inl h
    · rcases hv with h' | h'
      · exact .inr (h' ▸ h)
      · have := h' i h; omega
  · rcases hv2 with h2 | h2
    · rw [h2]; exact hv
    · right; intro k hk; have := h2 k hk; have := hM.size; omega

theorem numL_len (x : Int) (hx : x ≤ 18446744073709551615) : (numL x).length ≤ 9 := by
  have := beBytes_len 8 x.toNat (by simp; omega)
  simp [numL]; omega

set_option maxHeartbeats 400000 in
theorem text_any (b : Nat) (v : Value) (bs s : List UInt8) (w : World) (hO : OutAt 146 5 w b v bs) (hlen : bs.length ≤ 1099511627776) (hs : s.length ≤ 549755813888) :
    Calls Tryz.prog 108 #[.pointer (some ⟨b, 0, none⟩), .string ⟨s.toArray⟩] w (NumPost b v (bs ++ (numL s.length ++ s)) w) := by
  go_enter Tryz.func108, Tryz.ntmps108
  go_wp2_with fail
  refine (num_any s.length b v bs w (by omega) (by omega) hO hlen).mono ?_
  rintro e w1 ⟨rfl, v1, hO1, hM1, hv1⟩
  have hl := numL_len s.length (by omega)
  go_wp2_with fail
  refine (raw_any b v1 (bs ++ numL s.length) s w1 hO1 (by simp; omega)).mono ?_
  intro e w2 h2
  have h3 := NumPost.trans hM1 hv1 h2
  rw [List.append_assoc] at h3
  have he := h3.1
  have Hp := Lib.hid h3
  clear h2 h3 hO1 hM1 hv1 hO
  subst he
  go_wp2
  go_ret
  exact Hp.out

end Go.Proofs.YtemnebbdaljfbaaGreatDoor

namespace Go.Proofs.YtemnebbdaljfbaaGreatDoor
open Go.RowKit

def Head3 (p : Nat × Nat × Int) (w : World) (r : Ending) (w' : World) : Prop := r = .returned (.tuple #[.int .i64 p.1, .int .i64 p.2.1, .int .i64 p.2.2]) ∧ w = w'

theorem ret3 {a b c a' b' c' : Int} (h1 : a = a') (h2 : b = b') (h3 : c = c') : Ending.returned (.tuple #[.int .i64 a, .int .i64 b, .int .i64 c]) = .returned (.tuple #[.int .i64 a', .int .i64 b', .int .i64 c']) := by rw [h1, h2, h3]

/-- A byte more at the foot of a number below 2^56. -/
theorem or_byte (V : Nat) (x : UInt8) (hV : V < 72057594037927936) : bits BinOp.or IntKind.u64 (((V : Nat) : Int) * 256) (IntKind.u64.wrap ((x.toNat : Nat) : Int)) = ((V * 256 + x.toNat : Nat) : Int) := by
  have hx := x.toNat_lt
  rw [IntWalk.u64_in _ (by omega), show ((V : Nat) : Int) * 256 = ((V * 256 : Nat) : Int) by omega, bits_or_u64_nat _ _ (by omega) (by omega)]
  rw [Nat.mul_comm V 256]
  exact congrArg Int.ofNat (Nat.two_pow_add_eq_or_of_lt (i := 8) (by omega) V).symm

theorem get_behind (c : UInt8) (l : List UInt8) (k : Nat) (h : k < l.length) (h' : 1 + k < (ByteArray.mk (c :: l).toArray).size) : (ByteArray.mk (c :: l).toArray)[1 + k] = l[k] := by
  have e : ∀ j, (hj : j < (ByteArray.mk (c :: l).toArray).size) → j = k + 1 → (ByteArray.mk (c :: l).toArray)[j] = l[k] := by
    intro j hj e; subst e; rfl
  exact e _ _ (by omega)

end Go.Proofs.YtemnebbdaljfbaaGreatDoor

namespace Go.Proofs.YtemnebbdaljfbaaGreatDoor
open Go.RowKit

/-- Block b is an In: what is left, the first error. -/
def InAt (T : TypeId) (w : World) (b : Nat) (s : List UInt8) (e : Int) : Prop := w.heap[b]? = some (.cells #[.string ⟨s.toArray⟩, .int .i64 e] T (0, 0))
theorem InAt.c0 {T : TypeId} {w : World} {b : Nat} {s : List UInt8} {e : Int} (h : InAt T w b s e) : w.cell? ⟨b, 0, none⟩ = some (.string ⟨s.toArray⟩) := by unfold World.cell?; rw [show w.heap[b]? = _ from h]; rfl
theorem InAt.c1 {T : TypeId} {w : World} {b : Nat} {s : List UInt8} {e : Int} (h : InAt T w b s e) : w.cell? ⟨b, 1, none⟩ = some (.int .i64 e) := by unfold World.cell?; rw [show w.heap[b]? = _ from h]; rfl
theorem InAt.f {T : TypeId} {w : World} {b : Nat} {s : List UInt8} {e : Int} (h : InAt T w b s e) (o : Nat) : w.frozen? ⟨b, o, none⟩ = false := frozen_of_row w b o _ _ h
theorem InAt.lt {T : TypeId} {w : World} {b : Nat} {s : List UInt8} {e : Int} (h : InAt T w b s e) : b < w.heap.size := (Array.getElem?_eq_some_iff.1 h).1
theorem InAt.set0 {T : TypeId} {w : World} {b : Nat} {s : List UInt8} {e : Int} (h : InAt T w b s e) (s' : List UInt8) : InAt T (w.setCell ⟨b, 0, none⟩ (.string ⟨s'.toArray⟩)) b s' e := by
  have := heap_setCell_same w b 0 _ T (.string ⟨s'.toArray⟩) h
  exact this
theorem InAt.set1 {T : TypeId} {w : World} {b : Nat} {s : List UInt8} {e : Int} (h : InAt T w b s e) (e' : Int) : InAt T (w.setCell ⟨b, 1, none⟩ (.int .i64 e')) b s e' := by
  have := heap_setCell_same w b 1 _ T (.int .i64 e') h
  exact this
theorem InAt.kept {T : TypeId} {w w' : World} {b : Nat} {s : List UInt8} {e : Int} {S : Nat → Prop} (h : InAt T w b s e) (hm : Mod S w w') (hb : ¬ S b) : InAt T w' b s e := (hm.block b h.lt hb).trans h

def failS (s : List UInt8) (err e : Int) : List UInt8 × Int := if e = 0 ∨ err ≠ 0 then (s, err) else ([], e)

def InPost (T : TypeId) (b : Nat) (v : Value) (p : List UInt8 × Int) (w : World) (r : Ending) (w' : World) : Prop := r = .returned v ∧ InAt T w' b p.1 p.2 ∧ Mod (· = b) w w'

theorem extract_end (s : List UInt8) (k : Nat) : (ByteArray.mk s.toArray).extract k s.length = ⟨(s.drop k).toArray⟩ := by
  rw [ByteArray.extract_mk, List.take_of_length_le (by simp)]
theorem extract_head (s : List UInt8) (k : Nat) : (ByteArray.mk s.toArray).extract 0 k = ⟨(s.take k).toArray⟩ := by
  rw [ByteArray.extract_mk]; simp

/-- What In.Num answers, and leaves. -/
def numS (s : List UInt8) (err most : Int) : Int × List UInt8 × Int :=
  if (headL s).2.2 ≠ 0 then (0, failS s err (headL s).2.2)
  else if most < (headL s).1 then (0, failS s err 4) else ((headL s).1, s.drop (headL s).2.1, err)

theorem headL_ok (s : List UInt8) (h : (headL s).2.2 = 0) : (headL s).2.1 ≤ s.length := by
  unfold headL at h ⊢
  split
  · simp at h
  · rename_i c r
    simp only at h ⊢
    split
    · simp
    · rename_i h0
      rw [if_neg h0] at h
      split
      · rename_i h1; rw [if_pos h1] at h; simp at h
      · rename_i h1
        rw [if_neg h1] at h
        split
        · simp at h
        · rename_i d r
          simp only at h ⊢
          split
          · rename_i h2; rw [if_pos h2] at h; simp at h
          · rename_i h2
            rw [if_neg h2] at h
            split
            · rename_i h3; rw [if_pos h3] at h; simp at h
            · rename_i h3
              split
              · simp
              · simp at h3 ⊢; omega
theorem headL_err (s : List UInt8) : (headL s).2.2 = 0 ∨ (headL s).2.2 = 2 ∨ (headL s).2.2 = 3 := by
  unfold headL
  repeat' split
  all_goals simp
theorem headL_max (s : List UInt8) : (headL s).1 ≤ 9223372036854775807 := by
  unfold headL
  repeat' split
  all_goals first | (simp; done) | (simp only; omega)

set_option maxHeartbeats 400000 in
theorem clone_any (s : List UInt8) (w : World) (hl : s.length ≤ 281474976710656) :
    Calls Tryz.prog 72 #[.string ⟨s.toArray⟩] w fun r w' => r = .returned (.string ⟨s.toArray⟩) ∧ Below w.heap.size w w' := by
  go_enter Tryz.func72, Tryz.ntmps72
  go_wp2_with fail
  refine (Tryz.stringslite_Clone ⟨s.toArray⟩ _ (by simpa [ByteArray.size] using hl)).mono ?_
  rintro r w1 ⟨rfl, hb⟩
  go_wp2_with fail
  go_ret
  exact ⟨rfl, hb⟩

/-- What In.Raw answers, and leaves. -/
def rawS (s : List UInt8) (err n : Int) : List UInt8 × List UInt8 × Int :=
  if (s.length : Int) < n then ([], failS s err 2) else (s.take n.toNat, s.drop n.toNat, err)

def InPostN (T : TypeId) (b : Nat) (v : Value) (p : List UInt8 × Int) (w : World) (r : Ending) (w' : World) : Prop := r = .returned v ∧ InAt T w' b p.1 p.2 ∧ Mod (· = b) w w'

end Go.Proofs.YtemnebbdaljfbaaGreatDoor

namespace Go.Proofs.YtemnebbdaljfbaaGreatDoor
open Go.RowKit

def textS (s : List UInt8) (err most : Int) : List UInt8 × List UInt8 × Int :=
  rawS (numS s err (max most 0)).2.1 (numS s err (max most 0)).2.2 (numS s err (max most 0)).1

theorem failS_len (s : List UInt8) (err e : Int) : (failS s err e).1.length ≤ s.length := by unfold failS; split <;> simp
theorem numS_len (s : List UInt8) (err most : Int) : (numS s err most).2.1.length ≤ s.length := by
  unfold numS; split
  · exact failS_len _ _ _
  · split
    · exact failS_len _ _ _
    · simp

set_option maxHeartbeats 400000 in
theorem refnum_any (x : Int) (w : World) (hlo : -9223372036854775808 ≤ x) (hhi : x ≤ 9223372036854775807) :
    Calls Tryz.prog 68 #[.int .i64 x] w fun r w' => r = .returned (.string ⟨(numL x).toArray⟩) ∧ Below w.heap.size w w' := by
  have hcv := convLit1 (P := Tryz.prog) 68 9 5 Tryz.underlying68 Tryz.underlying5 Tryz.underlying9
  unfold numL
  go_enter Tryz.func68, Tryz.ntmps68
  go_upto_region 1 with fail
  go_cut [0] (fun s0 wx => ∃ m : Nat, s0 = .int .i64 m ∧ x.toNat = m ∧ w = wx)
  case first =>
    by_cases hxx : 0 ≤ x
    · obtain ⟨m, rfl⟩ := Int.eq_ofNat_of_zero_le hxx
      go_wp2_with fail
      go_meet
      exact ⟨m, rfl, rfl, rfl⟩
    · go_wp2_with fail
      go_meet
      exact ⟨0, by go_num, by omega, rfl⟩
  case rest =>
  obtain ⟨n, rfl, hn, rfl⟩ := hcut
  have h0 : (0 : Int) ≤ n := by omega
  have hn' : (n : Int) ≤ 9223372036854775807 := by omega
  have hln := beBytes_len 8 n (by simp; omega)
  have Hn := Lib.hid hn
  clear hn hlo hhi
  go_wp2
  go_loopw [0, 3] (fun x s wr => ∃ (m : Nat) (l : List UInt8), m ≤ n ∧ x = .int .i64 m ∧ s = .string ⟨l.toArray⟩ ∧ beBytes m ++ l = beBytes n ∧ Below w.heap.size w wr)
    (fun x _ _ => (intOf x).toNat)
  case atStart => exact ⟨n, [], by omega, rfl, rfl, by simp, Below.refl _ _⟩
  case round =>
    obtain ⟨m, l, hm, rfl, rfl, hl, hb⟩ := hrel
    have hll : l.length ≤ 8 := by have := congrArg List.length hl; simp at this; omega
    have hbs := hb.size
    have Hl := Lib.hid hl
    clear hl
    by_cases hp : 0 < m
    · go_wp2
      go_roundw
      case rel => exact ⟨m / 256, UInt8.ofNat (m % 256) :: l, by omega, by go_num, val_str (by rw [← bapp1]; rfl), by rw [← Hl.out, beBytes_pos m hp]; simp, hb.alloc (by omega) _⟩
      case measure => simp [intOf]; omega
    · obtain rfl : m = 0 := by omega
      go_wp2
      go_ret
      have e := Hl.out
      rw [beBytes_zero] at e
      simp at e
      subst e
      exact ⟨by rw [Hn.out]; exact ret_str (bapp1 _ _), hb.alloc (by omega) _⟩

set_option maxHeartbeats 400000 in
theorem reftext_any (s : List UInt8) (w : World) (hl : s.length ≤ 1099511627776) :
    Calls Tryz.prog 69 #[.string ⟨s.toArray⟩] w fun r w' => r = .returned (.string ⟨(numL s.length ++ s).toArray⟩) ∧ Below w.heap.size w w' := by
  have hn := numL_len s.length (by omega)
  go_enter Tryz.func69, Tryz.ntmps69
  go_wp2_with fail
  refine (refnum_any s.length _ (by omega) (by omega)).mono ?_
  rintro r w1 ⟨rfl, hb⟩
  go_wp2_with fail
  rw [ByteArray.mk_append_mk]
  go_ret
  exact ⟨rfl, hb⟩

set_option maxHeartbeats 400000 in
theorem cut_any (s : List UInt8) (n : Nat) (w : World) (_hl : (s.length : Int) ≤ 9223372036854775807) (_hn : (n : Int) ≤ 9223372036854775807) :
    Calls Tryz.prog 25 #[.string ⟨s.toArray⟩, .int .i64 n] w fun r w' => r = .returned (.string ⟨(s.take n).toArray⟩) ∧ w = w' := by
  have h0 : (0 : Int) ≤ n := by omega
  by_cases h : n < s.length
  · go_enter Tryz.func25, Tryz.ntmps25
    go_wp2_with fail
    rw [extract_head]
    go_ret
    exact ⟨rfl, rfl⟩
  · have e : s.take n = s := List.take_of_length_le (by omega)
    rw [e]
    clear e
    go_enter Tryz.func25, Tryz.ntmps25
    go_wp2_with fail
    go_ret
    exact ⟨rfl, rfl⟩

end Go.Proofs.YtemnebbdaljfbaaGreatDoor

namespace Go.Proofs.YtemnebbdaljfbaaGreatDoor
open Go.RowKit

/-- The digest's bytes. -/
def shaB (s : List UInt8) : List UInt8 := (sha (nats s)).map UInt8.ofNat
theorem shaB_len (s : List UInt8) : (shaB s).length = 32 := by simp [shaB, sha_len]
theorem nums_vals (A : List Nat) (h : ∀ x ∈ A, x < 256) : nums .u8 A = vals (A.map UInt8.ofNat) := by
  simp only [nums, vals, List.map_map]
  refine List.map_congr_left fun x hx => ?_
  simp only [Function.comp_def]
  rw [UInt8.toNat_ofNat_of_lt' (h x hx)]
theorem vals_nums (s : List UInt8) : vals s = nums .u8 (nats s) := by simp [vals, nums, nats]
theorem nats_lt (s : List UInt8) : ∀ x ∈ nats s, x < 256 := by intro x hx; obtain ⟨c, _, rfl⟩ := List.mem_map.1 hx; exact c.toNat_lt
theorem nats_ofNat (s : List UInt8) : (nats s).map UInt8.ofNat = s := by simp [nats, Function.comp_def]
theorem sha_vals (s : List UInt8) : nums .u8 (sha (nats s)) = vals (shaB s) := nums_vals _ (sha_lt _)
theorem sha_bytes (s : List UInt8) : bytesOf (sha (nats s)) = ⟨(shaB s).toArray⟩ := rfl

theorem StrsAt.old {w w' : World} {v : Value} {ss : List (List UInt8)} (h : StrsAt w v ss) (hb : Below w.heap.size w w') : StrsAt w' v ss := by
  obtain ⟨ao, cap, e, hc⟩ := h
  refine ⟨ao, cap, e, fun j hj => ?_⟩
  obtain ⟨bs, off, e1, hlt, c⟩ := hc j hj
  exact ⟨bs, off, e1, Nat.lt_of_lt_of_le hlt hb.size, (World.cell?_of_block (hb.block bs hlt)).trans c⟩
/-- Texts that were just laid side by side. -/
theorem StrsAt.made (w : World) (T : TypeId) (ss : List (List UInt8)) : StrsAt (w.alloc (.cells (ss.map fun s => Value.string ⟨s.toArray⟩).toArray T)) (.slice (some ⟨w.heap.size, 0, none⟩) ss.length ss.length) ss := by
  refine ⟨_, _, rfl, fun j hj => ⟨w.heap.size, 0, rfl, by simp, ?_⟩⟩
  rw [cell_of_row _ w.heap.size _ _ T (0, 0) (heap_alloc_new _ _)]
  simp [hj]
theorem TabAt.old {w w' : World} (h : TabAt w) (hb : Below w.heap.size w w') : TabAt w' := h.kept (Mod.of_below hb) (by have := h.lt; omega)

/-- Block g is a name. -/
def IdAt (w : World) (g : Nat) (s : List UInt8) : Prop := s.length = 32 ∧ w.heap[g]? = some (.cells (vals s).toArray 70 (0, 0))
theorem IdAt.lt {w : World} {g : Nat} {s : List UInt8} (h : IdAt w g s) : g < w.heap.size := (Array.getElem?_eq_some_iff.1 h.2).1
theorem IdAt.old {w w' : World} {g : Nat} {s : List UInt8} (h : IdAt w g s) (hb : Below w.heap.size w w') : IdAt w' g s := ⟨h.1, (hb.block g h.lt).trans h.2⟩
theorem vals_one (s : List UInt8) : ∀ v ∈ vals s, v.oneCell' = true := by
  intro v hv; obtain ⟨x, _, rfl⟩ := List.mem_map.1 hv; rfl
theorem vals_get (s : List UInt8) (i : Nat) (h : i < s.length) : (vals s)[i]? = some (.int .u8 (s[i].toNat : Int)) := by simp [vals, h]
theorem IdAt.cell {w : World} {g : Nat} {s : List UInt8} (h : IdAt w g s) (i : Nat) (hi : i < s.length) : w.cell? ⟨g, i, none⟩ = some (.int .u8 (s[i].toNat : Int)) := by
  rw [cell_of_row w g i _ 70 (0, 0) h.2]; simpa using vals_get s i hi
/-- A name's bytes as a text. -/
theorem IdAt.text {w : World} {g : Nat} {s : List UInt8} (h : IdAt w g s) : (convert 68 9 (.slice (some ⟨g, 0, none⟩) 32 32)).run Tryz.prog w = .ok (.string ⟨s.toArray⟩) w := by
  have hl := h.1
  rw [run_convert_bytes_arg w 68 5 Tryz.underlying68 Tryz.underlying5 g 0 32 32 (s.map fun x => (x.toNat : Int)) (by simpa using hl) (fun i hi => by
    rw [Nat.zero_add, h.cell i (by omega)]
    simp [List.getD, hl, hi]) 9 Tryz.underlying9]
  simp [strOfNums, Function.comp_def]
/-- Nought's name. -/
def zid : List UInt8 := List.replicate 32 0
theorem zid_run (w : World) : (zeroValue 70).run Tryz.prog w = .ok (.agg (vals zid).toArray) w := by kernel_rfl
theorem zid_len : (vals zid).toArray.size = 32 := rfl
theorem id_size {s : List UInt8} (h : s.length = 32) : (vals s).toArray.size = 32 := by simp [vals_len, h]
theorem id_info {s : List UInt8} (h : s.length = 32) : (Tryz.prog.info? 70).map (·.size) = some (vals s).toArray.size := by rw [id_size h]; kernel_rfl
theorem id_one (s : List UInt8) : ∀ v ∈ (vals s).toArray.toList, v.oneCell' = true := by simpa using vals_one s
/-- A new variable that a name is stored into. -/
theorem IdAt.stored {w : World} {s : List UInt8} {A : Array Value} (h : s.length = 32) : IdAt ((w.alloc (.cells A 70 (0, 0))).setRow w.heap.size (vals s).toArray) w.heap.size s :=
  ⟨h, setRow_heap _ _ _ _ _ _ (heap_alloc_new _ _)⟩
theorem stored_below {w : World} {A C : Array Value} {T : TypeId} : Below w.heap.size w ((w.alloc (.cells A T (0, 0))).setRow w.heap.size C) :=
  ((((Mod.refl (fun _ => False) w).alloc (.cells A T (0, 0))).setRow (g := w.heap.size) C).drop_new (Nat.le_refl _)).to_below (Nat.le_refl _) (fun _ _ h => h)
/-- Two names are held against each other. -/
theorem id_eql (x y : List UInt8) (hx : x.length = 32) (hy : y.length = 32) (w : World) : (binOp .eql 70 (.agg (vals x).toArray) (.agg (vals y).toArray)).run Tryz.prog w = .ok (.bool (x == y)) w :=
  run_eql_bytes w 70 5 32 Tryz.underlying70 Tryz.underlying5 Tryz.sizeOf5 x y hx hy

theorem dofB (v : Value) (ss : List (List UInt8)) (w : World) (hv : StrsAt w v ss) (hl : ss.flatten.length ≤ 274877906944) (hn : (ss.length : Int) ≤ 1099511627776) (hT : TabAt w) :
    Calls Tryz.prog 75 #[v] w fun r w' => r = .returned (.agg (vals (shaB ss.flatten)).toArray) ∧ Below w.heap.size w w' :=
  (dof_any v ss w hv hl hn hT).mono fun _ _ ⟨h1, h2⟩ => ⟨by rw [h1, sha_vals], h2.to_below (Nat.le_refl _) (fun _ _ h => h)⟩

end Go.Proofs.YtemnebbdaljfbaaGreatDoor

namespace Go.Proofs.YtemnebbdaljfbaaGreatDoor
open Go.RowKit

/-- The name that begins with s. -/
def idL (s : List UInt8) : List UInt8 := (s ++ zid).take 32
theorem idL_len (s : List UInt8) : (idL s).length = 32 := by simp [idL, zid]
theorem idL_self (s : List UInt8) (h : s.length = 32) : idL s = s := by unfold idL; rw [← h, List.take_left]
theorem idL_cut (s : List UInt8) : s.take 32 ++ zid.drop (min s.length 32) = idL s := by
  unfold idL zid
  rw [List.take_append, List.take_replicate, List.drop_replicate]
  congr 1
  congr 1
  omega
theorem wpList_copyS {P : Program} {w : World} {ops : Array Oper} {rest : List Oper} {o : Oper} {a : Act} {Q : Exit → Act → World → Prop} (hgd : o.guard = none) (d s : Operand) (t t' : TypeId)
    (ho : o.op = .call { callee := .builtin .copy, args := #[d, s], argTypes := #[t, t'] }) (v u : Value) (hd : a.eval d = v) (hs : a.eval s = u) {v' : Value} {w' : World}
    (hr : (Builtin.copy_ #[t, t'] o.type #[v, u]).run P w = .ok v' w') (h : wpList P ops Q rest (a.put o.dst v') w') : wpList P ops Q (o :: rest) a w := by
  refine wpList_plain hgd fun K hK => ?_
  unfold Oper.wp
  simp [execOp, ho, resolve, invoke, builtin, hd, hs, hr, Result.andThen]
  exact hK _ _ h
set_option maxRecDepth 20000 in
/-- A text is copied into a name. -/
theorem run_copy_text (s : List UInt8) (g : Nat) (ty : TypeId) (w : World) (h : IdAt w g zid) :
    (Builtin.copy_ #[68, 9] ty #[.slice (some ⟨g, 0, none⟩) 32 32, .string ⟨s.toArray⟩]).run Tryz.prog w = .ok (goInt ((min s.length 32 : Nat) : Int)) (w.setRow g (vals (idL s)).toArray) := by
  have hst := run_storeCells_at Tryz.prog g 0 70 (vals (s.take 32)) 0 (vals zid).toArray w h.2 (by simp [vals_len, zid]; omega) (vals_one _)
  have hsz : (sizeOf 5).run Tryz.prog w = .ok 1 w := Tryz.sizeOf5 w
  have hl : (ByteArray.mk s.toArray).size = s.length := rfl
  have hf : (Builtin.firstCells 1 (min s.length 32) (.string ⟨s.toArray⟩)).run Tryz.prog w = .ok (vals (s.take 32)).toArray w := by
    unfold Builtin.firstCells
    rw [Sem.run_pure, ByteArray.extract_mk]
    congr 1
    apply Array.ext'
    simp [vals, List.take_take]
    omega
  have he : ((vals zid).toArray.toList.take (0 + 0) ++ vals (s.take 32) ++ (vals zid).toArray.toList.drop (0 + 0 + (vals (s.take 32)).length)).toArray = (vals (idL s)).toArray := by
    rw [← idL_cut s, vals_app]
    congr 1
    simp [vals_len, vals, List.map_drop]
    omega
  rw [he] at hst
  unfold Builtin.copy_
  obtain ⟨n, hn⟩ : ∃ n, n = min s.length 32 := ⟨_, rfl⟩
  have hmin : Nat.min s.length 32 = n := hn.symm
  rw [← hn] at hf ⊢
  clear hn he
  simp [run_underlying Tryz.underlying68, Builtin.lenOf, hl, hsz, hmin, hf, hst]

set_option maxRecDepth 20000 in
set_option maxHeartbeats 1000000 in
theorem name_any (s : List UInt8) (w : World) :
    Calls Tryz.prog 61 #[.string ⟨s.toArray⟩] w fun r w' => r = .returned (.agg (vals (idL s)).toArray) ∧ Below w.heap.size w w' := by
  have hz := zid_run
  have hzs := zid_len
  have hidl := idL_len s
  have q2 : (vals zid).toArray.size = (vals (idL s)).toArray.size := hzs.trans (id_size hidl).symm
  have q3 := id_info hidl
  have q4 := id_one (idL s)
  have hA : IdAt ((w.alloc (.cells (vals zid).toArray 70)).alloc (.cells (vals zid).toArray 70)) (w.heap.size + 1) zid := ⟨rfl, by have := heap_alloc_new (w.alloc (.cells (vals zid).toArray 70)) (.cells (vals zid).toArray 70); simpa using this⟩
  have hcp := fun ty => run_copy_text s (w.heap.size + 1) ty _ hA
  obtain ⟨Y, hY⟩ : ∃ Y, Y = (vals (idL s)).toArray := ⟨_, rfl⟩
  rw [← hY] at q2 q3 q4 hcp ⊢
  have hYs : Y.size = 32 := by rw [hY]; exact id_size hidl
  clear hY hidl
  generalize (vals zid).toArray = Z at hz hzs q2 hA hcp
  have hb0 : Below w.heap.size w ((w.alloc (.cells Z 70)).alloc (.cells Z 70)) := ((Below.refl _ w).alloc (Nat.le_refl _) _).alloc (by simp) _
  have h0 : ((w.alloc (.cells Z 70)).alloc (.cells Z 70)).heap[w.heap.size]? = some (.cells Z 70 (0, 0)) := by
    rw [Below.heap_alloc _ _ _ (by simp)]; exact heap_alloc_new w _
  have h1 : ((w.alloc (.cells Z 70)).alloc (.cells Z 70)).heap[w.heap.size + 1]? = some (.cells Z 70 (0, 0)) := by
    have := heap_alloc_new (w.alloc (.cells Z 70)) (.cells Z 70); simpa using this
  obtain ⟨W, hW⟩ : ∃ W, W = (w.alloc (.cells Z 70)).alloc (.cells Z 70) := ⟨_, rfl⟩
  rw [← hW] at hb0 h0 h1 hcp
  have k0 : (W.setRow (w.heap.size + 1) Y).heap[w.heap.size]? = some (.cells Z 70 (0, 0)) := (setRow_other W _ _ Y (by omega)).trans h0
  have k1 : (W.setRow (w.heap.size + 1) Y).heap[w.heap.size + 1]? = some (.cells Y 70 (0, 0)) := setRow_heap W _ _ Y _ _ h1
  have kb : Below w.heap.size w (W.setRow (w.heap.size + 1) Y) := hb0.trans (((Mod.refl (fun _ => False) W).setRow Y).to_below (by have := hb0.size; exact this) (by rintro k hk (h | h) <;> first | exact h | omega))
  obtain ⟨W2, hW2⟩ : ∃ W2, W2 = W.setRow (w.heap.size + 1) Y := ⟨_, rfl⟩
  rw [← hW2] at k0 k1 kb hcp
  have l0 : (W2.setRow w.heap.size Y).heap[w.heap.size]? = some (.cells Y 70 (0, 0)) := setRow_heap W2 _ _ Y _ _ k0
  have lb : Below w.heap.size w (W2.setRow w.heap.size Y) := kb.trans (((Mod.refl (fun _ => False) W2).setRow Y).to_below (by have := kb.size; exact this) (by rintro k hk (h | h) <;> first | exact h | omega))
  have L0 := Lib.hid l0
  have LB := Lib.hid lb
  have HS := Lib.hid hYs
  clear hW2 l0 lb kb hb0 h0 h1 hA hzs hYs
  go_enter Tryz.func61, Tryz.ntmps61
  go_wp2_with (first | (refine wpList_copyS rfl (.tmp 4) (.tmp 5) 68 9 rfl _ _ rfl rfl (by rw [← hW]; exact hcp _) ?_; clear hcp hW) | (refine wpList_load_row rfl 70 (.tmp 3) rfl (w.heap.size + 1) rfl 70 Y (0, 0) _ k1 Tryz.underlying70 rfl q3 ?_) | (refine wpList_store_row rfl rfl 70 (.tmp 2) (.tmp 7) rfl w.heap.size rfl 70 Z Y rfl k0 q2 q3 q4 ?_))
  exact bodyPost_ret (v := .agg Y) (results_cell_row Tryz.results61 _ _ w.heap.size 70 Y (0, 0) _ rfl L0.out Tryz.underlying70 rfl q3) rfl ⟨rfl, LB.out⟩

set_option maxRecDepth 20000 in
set_option maxHeartbeats 1000000 in
theorem idof_any (s : List UInt8) (w : World) :
    Calls Tryz.prog 48 #[.string ⟨s.toArray⟩] w fun r w' => r = .returned (.agg (vals (idL s)).toArray) ∧ Below w.heap.size w w' := by
  have hz := zid_run
  have hzs := zid_len
  have hidl := idL_len s
  have q2 : (vals zid).toArray.size = (vals (idL s)).toArray.size := hzs.trans (id_size hidl).symm
  have q3 := id_info hidl
  have q4 := id_one (idL s)
  have hA : IdAt ((w.alloc (.cells (vals zid).toArray 70)).alloc (.cells (vals zid).toArray 70)) (w.heap.size + 1) zid := ⟨rfl, by have := heap_alloc_new (w.alloc (.cells (vals zid).toArray 70)) (.cells (vals zid).toArray 70); simpa using this⟩
  have hcp := fun ty => run_copy_text s (w.heap.size + 1) ty _ hA
  obtain ⟨Y, hY⟩ : ∃ Y, Y = (vals (idL s)).toArray := ⟨_, rfl⟩
  rw [← hY] at q2 q3 q4 hcp ⊢
  have hYs : Y.size = 32 := by rw [hY]; exact id_size hidl
  clear hY hidl
  generalize (vals zid).toArray = Z at hz hzs q2 hA hcp
  have hb0 : Below w.heap.size w ((w.alloc (.cells Z 70)).alloc (.cells Z 70)) := ((Below.refl _ w).alloc (Nat.le_refl _) _).alloc (by simp) _
  have h0 : ((w.alloc (.cells Z 70)).alloc (.cells Z 70)).heap[w.heap.size]? = some (.cells Z 70 (0, 0)) := by
    rw [Below.heap_alloc _ _ _ (by simp)]; exact heap_alloc_new w _
  have h1 : ((w.alloc (.cells Z 70)).alloc (.cells Z 70)).heap[w.heap.size + 1]? = some (.cells Z 70 (0, 0)) := by
    have := heap_alloc_new (w.alloc (.cells Z 70)) (.cells Z 70); simpa using this
  obtain ⟨W, hW⟩ : ∃ W, W = (w.alloc (.cells Z 70)).alloc (.cells Z 70) := ⟨_, rfl⟩
  rw [← hW] at hb0 h0 h1 hcp
  have k0 : (W.setRow (w.heap.size + 1) Y).heap[w.heap.size]? = some (.cells Z 70 (0, 0)) := (setRow_other W _ _ Y (by omega)).trans h0
  have k1 : (W.setRow (w.heap.size + 1) Y).heap[w.heap.size + 1]? = some (.cells Y 70 (0, 0)) := setRow_heap W _ _ Y _ _ h1
  have kb : Below w.heap.size w (W.setRow (w.heap.size + 1) Y) := hb0.trans (((Mod.refl (fun _ => False) W).setRow Y).to_below (by have := hb0.size; exact this) (by rintro k hk (h | h) <;> first | exact h | omega))
  obtain ⟨W2, hW2⟩ : ∃ W2, W2 = W.setRow (w.heap.size + 1) Y := ⟨_, rfl⟩
  rw [← hW2] at k0 k1 kb hcp
  have l0 : (W2.setRow w.heap.size Y).heap[w.heap.size]? = some (.cells Y 70 (0, 0)) := setRow_heap W2 _ _ Y _ _ k0
  have lb : Below w.heap.size w (W2.setRow w.heap.size Y) := kb.trans (((Mod.refl (fun _ => False) W2).setRow Y).to_below (by have := kb.size; exact this) (by rintro k hk (h | h) <;> first | exact h | omega))
  have L0 := Lib.hid l0
  have LB := Lib.hid lb
  have HS := Lib.hid hYs
  clear hW2 l0 lb kb hb0 h0 h1 hA hzs hYs
  go_enter Tryz.func48, Tryz.ntmps48
  go_wp2_with (first | (refine wpList_copyS rfl (.tmp 4) (.tmp 5) 68 9 rfl _ _ rfl rfl (by rw [← hW]; exact hcp _) ?_; clear hcp hW) | (refine wpList_load_row rfl 70 (.tmp 3) rfl (w.heap.size + 1) rfl 70 Y (0, 0) _ k1 Tryz.underlying70 rfl q3 ?_) | (refine wpList_store_row rfl rfl 70 (.tmp 2) (.tmp 7) rfl w.heap.size rfl 70 Z Y rfl k0 q2 q3 q4 ?_))
  exact bodyPost_ret (v := .agg Y) (results_cell_row Tryz.results48 _ _ w.heap.size 70 Y (0, 0) _ rfl L0.out Tryz.underlying70 rfl q3) rfl ⟨rfl, LB.out⟩
end Go.Proofs.YtemnebbdaljfbaaGreatDoor

namespace Go.Proofs.YtemnebbdaljfbaaGreatDoor
open Go

/-- How many of the first n are not listed yet. -/
def unl (L : Array Bool) : Nat → Nat
  | 0 => 0
  | n + 1 => unl L n + (if L.getD n true then 0 else 1)
theorem unl_le (L : Array Bool) : ∀ n, unl L n ≤ n
  | 0 => Nat.le_refl _
  | n + 1 => by have := unl_le L n; simp only [unl]; split <;> omega
theorem set_self (L : Array Bool) (i : Nat) : (L.setIfInBounds i true).getD i true = true := by
  by_cases h : i < L.size
  · simp [h]
  · simp [h]
theorem unl_set (L : Array Bool) (i : Nat) (hi : L.getD i true = false) : ∀ n, unl (L.setIfInBounds i true) n + (if i < n then 1 else 0) = unl L n
  | 0 => rfl
  | n + 1 => by
    have ih := unl_set L i hi n
    simp only [unl]
    by_cases h : n = i
    · subst h
      rw [set_self, hi]
      simp at ih ⊢
      exact ih
    · rw [getD_set_ne true (Ne.symm h)]
      generalize (if L.getD n true = true then 0 else 1) = z
      by_cases h2 : i < n
      · rw [if_pos h2] at ih; rw [if_pos (by omega)]; omega
      · rw [if_neg h2] at ih; rw [if_neg (by omega)]; omega
theorem unl_pos (L : Array Bool) : ∀ n i, i < n → L.getD i true = false → 0 < unl L n
  | n + 1, i, h, hi => by
    simp only [unl]
    by_cases e : i = n
    · subst e; rw [hi]; simp
    · have := unl_pos L n i (by omega) hi; omega

/-- What is in the slots that the operations know: those of the list. -/
def AllV (V : Tmp → Value → World → Prop) (a : Act) (w : World) : List Tmp → Prop
  | [] => True
  | t :: r => V t (a.eval (.tmp t)) w ∧ AllV V a w r
theorem AllV.of {V : Tmp → Value → World → Prop} {a : Act} {w : World} : ∀ {l : List Tmp}, (∀ t ∈ l, V t (a.eval (.tmp t)) w) → AllV V a w l
  | [], _ => trivial
  | t :: r, h => ⟨h t (by simp), AllV.of (fun u hu => h u (by simp [hu]))⟩

/-- The slots whose values an operation waits for. -/
def waits (md : Region.Mode) (ops : Array Oper) (o : Oper) : List Tmp :=
  (o.after.toList.filter (Region.binds md)).filterMap fun e => (ops[e.on]?).bind (·.dst)

structure Agree (ops : Array Oper) (a0 a : Act) : Prop where
  size : a.tmps.size = a0.tmps.size
  defers : a.defers = a0.defers
  same : ∀ t, (∀ (i : Nat) (o : Oper), ops[i]? = some o → o.dst ≠ some t) → a.eval (.tmp t) = a0.eval (.tmp t)

def drawOk (ops : Array Oper) (N : Nat) : Bool :=
  (List.range ops.size).all fun i => match ops[i]? with
    | none => true
    | some o => o.after.all (fun e => decide (e.on < i)) && (match o.dst with
      | none => true
      | some d => decide (d < N) && (List.range ops.size).all fun j => j == i || (match ops[j]? with | some p => p.dst != some d | none => true))

structure DrawOk (ops : Array Oper) (N : Nat) : Prop where
  before : ∀ (i : Nat) (o : Oper), ops[i]? = some o → ∀ e ∈ o.after, e.on < i
  room : ∀ (i : Nat) (o : Oper) (d : Tmp), ops[i]? = some o → o.dst = some d → d < N
  apart : ∀ (i j : Nat) (o p : Oper) (d : Tmp), ops[i]? = some o → ops[j]? = some p → j ≠ i → o.dst = some d → p.dst ≠ some d
theorem drawOk_spec {ops : Array Oper} {N : Nat} (h : drawOk ops N = true) : DrawOk ops N := by
  have key : ∀ (i : Nat) (o : Oper), ops[i]? = some o → o.after.all (fun e => decide (e.on < i)) = true ∧ (match o.dst with
      | none => true
      | some d => decide (d < N) && (List.range ops.size).all fun j => j == i || (match ops[j]? with | some p => p.dst != some d | none => true)) = true := by
    intro i o ho
    have hlt : i < ops.size := (Array.getElem?_eq_some_iff.1 ho).1
    have := List.all_eq_true.1 h i (List.mem_range.2 hlt)
    simp only [ho, Bool.and_eq_true] at this
    exact this
  refine ⟨fun i o ho e he => ?_, fun i o d ho hd => ?_, fun i j o p d ho hp hj hd hpd => ?_⟩
  · have := Array.all_eq_true_iff_forall_mem.1 (key i o ho).1 e he
    exact of_decide_eq_true this
  · have := (key i o ho).2
    rw [hd] at this
    simp only [Bool.and_eq_true] at this
    exact of_decide_eq_true this.1
  · have := (key i o ho).2
    rw [hd] at this
    simp only [Bool.and_eq_true] at this
    have h2 := List.all_eq_true.1 this.2 j (List.mem_range.2 (Array.getElem?_eq_some_iff.1 hp).1)
    simp only [hp, Bool.or_eq_true, beq_iff_eq, hj, false_or, bne_iff_ne, ne_eq] at h2
    exact h2 hpd

/-- What one operation owes. -/
def Owes (P : Program) (md : Region.Mode) (ops : Array Oper) (Q : Exit → Act → World → Prop) (V : Tmp → Value → World → Prop) (G : World → Prop) (a0 : Act) (i : Nat) (o : Oper) : Prop :=
  ∀ a w, Agree ops a0 a → G w → AllV V a w (waits md ops o) →
    wpOp P ops Q i (fun a' w' => ∃ v, a' = a.put o.dst v ∧ (∀ t, o.dst = some t → V t v w') ∧ G w' ∧ ∀ t x, V t x w → V t x w') a w

theorem eval_put_same {a : Act} {d : Tmp} (h : d < a.tmps.size) (v : Value) : (a.put (some d) v).eval (.tmp d) = v := by
  simp [Act.put, Act.eval, h]
theorem size_put (a : Act) (d : Option Tmp) (v : Value) : (a.put d v).tmps.size = a.tmps.size := by
  cases d <;> simp [Act.put]
theorem defers_put (a : Act) (d : Option Tmp) (v : Value) : (a.put d v).defers = a.defers := by
  cases d <;> rfl

section
variable {P : Program} {ops : Array Oper} {Q : Exit → Act → World → Prop} {md : Region.Mode} {V : Tmp → Value → World → Prop} {G : World → Prop} {a0 : Act}

theorem ready_some (hok : DrawOk ops a0.tmps.size) {L : Array Bool} (hL : L.size = ops.size) : ∀ i, i < ops.size → L.getD i true = false → ∃ j, j ∈ Region.ready md ops L := by
  intro i
  induction i using Nat.strongRecOn with
  | ind i ih =>
    intro hi hun
    have ho : ops[i]? = some ops[i] := Array.getElem?_eq_getElem hi
    by_cases h : ∀ e ∈ ops[i].after, Region.binds md e = true → L.getD e.on false = true
    · exact ⟨i, mem_ready.2 ⟨hun, _, ho, h⟩⟩
    · have ⟨e, he⟩ := Classical.not_forall.1 h
      have ⟨he1, he2⟩ := Classical.not_imp.1 he
      have ⟨hb, hf⟩ := Classical.not_imp.1 he2
      have hlt := hok.before i _ ho e he1
      have hel : e.on < L.size := by omega
      refine ih e.on hlt (by omega) ?_
      simp [hel] at hf ⊢
      exact hf

theorem wpAny_vals (hok : DrawOk ops a0.tmps.size) (step : ∀ (i : Nat) (o : Oper), ops[i]? = some o → Owes P md ops Q V G a0 i o)
    (fin : ∀ a w, Agree ops a0 a → G w → (∀ (i : Nat) (o : Oper) (t : Tmp), ops[i]? = some o → o.dst = some t → V t (a.eval (.tmp t)) w) → Q .normal a w) :
    ∀ (fuel : Nat) (L : Array Bool) (a : Act) (w : World), unl L ops.size ≤ fuel → L.size = ops.size → Agree ops a0 a → G w →
      (∀ (i : Nat) (o : Oper) (t : Tmp), ops[i]? = some o → L.getD i true = true → o.dst = some t → V t (a.eval (.tmp t)) w) → wpAny P md ops Q fuel L a w := by
  have allL : ∀ L : Array Bool, L.size = ops.size → Region.ready md ops L = [] → ∀ (i : Nat) (o : Oper), ops[i]? = some o → L.getD i true = true := by
    intro L hL hr i o ho
    cases hc : L.getD i true with
    | true => rfl
    | false =>
      obtain ⟨j, hj⟩ := ready_some (md := md) hok hL i (Array.getElem?_eq_some_iff.1 ho).1 hc
      rw [hr] at hj; cases hj
  intro fuel
  induction fuel with
  | zero =>
    intro L a w hu hL ha hG hv
    have hr : Region.ready md ops L = [] := by
      apply List.eq_nil_iff_forall_not_mem.2
      intro j hj
      obtain ⟨hun, o, ho, _⟩ := mem_ready.1 hj
      have := unl_pos L ops.size j (Array.getElem?_eq_some_iff.1 ho).1 hun
      omega
    exact ⟨hr, fin a w ha hG (fun i o t ho ht => hv i o t ho (allL L hL hr i o ho) ht)⟩
  | succ fuel ih =>
    intro L a w hu hL ha hG hv
    refine ⟨fun hr => fin a w ha hG (fun i o t ho ht => hv i o t ho (allL L hL hr i o ho) ht), fun i hi => ?_⟩
    obtain ⟨hun, o, ho, hall⟩ := mem_ready.1 hi
    have hil : i < ops.size := (Array.getElem?_eq_some_iff.1 ho).1
    have hw : AllV V a w (waits md ops o) := AllV.of (by
      intro t ht
      unfold waits at ht
      obtain ⟨e, he, hd⟩ := List.mem_filterMap.1 ht
      obtain ⟨he1, he2⟩ := List.mem_filter.1 he
      cases hj : ops[e.on]? with
      | none => rw [hj] at hd; cases hd
      | some p =>
        rw [hj] at hd
        have hl := hall e (by simpa using he1) he2
        have hel : e.on < L.size := by rw [hL]; exact (Array.getElem?_eq_some_iff.1 hj).1
        exact hv e.on p t hj (by simp [hel] at hl ⊢; exact hl) hd)
    refine wpOp_mono (fun a' w' h => ?_) (step i o ho a w ha hG hw)
    obtain ⟨v, rfl, hvi, hG', hst⟩ := h
    refine ih _ _ _ ?_ (by simpa using hL) ?_ hG' ?_
    · have := unl_set L i hun ops.size
      rw [if_pos hil] at this; omega
    · refine ⟨by rw [size_put]; exact ha.size, by rw [defers_put]; exact ha.defers, fun t ht => ?_⟩
      rw [Act.eval_put (fun d hd e => ht i o ho (by cases e; exact hd))]
      exact ha.same t ht
    · intro j p t hp hl ht
      by_cases e : j = i
      · subst e
        rw [ho] at hp; cases hp
        rw [ht, eval_put_same (by rw [ha.size]; exact hok.room j o t ho ht)]
        exact hvi t ht
      · rw [Act.eval_put (fun d hd e2 => by cases e2; exact hok.apart i j o p t ho hp e hd ht)]
        rw [getD_set_ne true (Ne.symm e)] at hl
        exact hst _ _ (hv j p t hp hl ht)

/-- The obligations one after the other. -/
def OweAll (P : Program) (md : Region.Mode) (ops : Array Oper) (Q : Exit → Act → World → Prop) (V : Tmp → Value → World → Prop) (G : World → Prop) (a0 : Act) : Nat → List Oper → Prop
  | _, [] => True
  | k, o :: r => Owes P md ops Q V G a0 k o ∧ OweAll P md ops Q V G a0 (k + 1) r
theorem OweAll.get : ∀ {l : List Oper} {k : Nat}, OweAll P md ops Q V G a0 k l → ∀ (i : Nat) (o : Oper), l[i]? = some o → Owes P md ops Q V G a0 (k + i) o
  | _ :: _, k, h, 0, o, hi => by cases hi; exact h.1
  | _ :: r, k, h, i + 1, o, hi => by
    have := OweAll.get h.2 i o (by simpa using hi)
    rwa [show k + 1 + i = k + (i + 1) by omega] at this
  | [], _, _, i, o, hi => by simp at hi
theorem OweAll.cons {k : Nat} {o : Oper} {r : List Oper} (h : Owes P md ops Q V G a0 k o) (h2 : OweAll P md ops Q V G a0 (k + 1) r) : OweAll P md ops Q V G a0 k (o :: r) := ⟨h, h2⟩
theorem OweAll.nil {k : Nat} : OweAll P md ops Q V G a0 k [] := trivial

/-- A region that draws its order. -/
theorem wp_region_vals {id : Nat} {w : World} (V : Tmp → Value → World → Prop) (G : World → Prop) (N : Nat) (hm : P.follows .mixedOrders = true) (hok : drawOk ops N = true) (hN : a0.tmps.size = N) (hG : G w.drew)
    (step : OweAll P .any ops Q V G a0 0 ops.toList)
    (fin : ∀ a w, Agree ops a0 a → G w → (∀ (i : Nat) (o : Oper) (t : Tmp), ops[i]? = some o → o.dst = some t → V t (a.eval (.tmp t)) w) → Q .normal a w) : (Code.region id ops true).wp P Q a0 w := by
  subst hN
  have hok := drawOk_spec hok
  refine wp_region_any hm (wpAny_vals hok (V := V) (G := G) (fun i o ho => ?_) fin ops.size _ a0 _ (unl_le _ _) (by simp) ⟨rfl, rfl, fun _ _ => rfl⟩ hG ?_)
  · have := step.get i o (by simpa using ho)
    rwa [Nat.zero_add] at this
  · intro i o t ho hl _
    have hlt := (Array.getElem?_eq_some_iff.1 ho).1
    simp [hlt] at hl

/-- The slots of the operations. -/
def dsts (ops : Array Oper) : List Tmp := ops.toList.filterMap (·.dst)
def puts (f : Tmp → Value) (l : List Tmp) (b : Act) : Act := l.foldl (fun b t => b.put (some t) (f t)) b
theorem puts_spec (f : Tmp → Value) : ∀ (l : List Tmp) (b : Act), (∀ t ∈ l, t < b.tmps.size) →
    (puts f l b).tmps.size = b.tmps.size ∧ (puts f l b).defers = b.defers ∧ ∀ t, (puts f l b).eval (.tmp t) = if t ∈ l then f t else b.eval (.tmp t)
  | [], b, _ => ⟨rfl, rfl, fun t => by simp [puts]⟩
  | u :: r, b, h => by
    have ih := puts_spec f r (b.put (some u) (f u)) (fun t ht => by rw [size_put]; exact h t (by simp [ht]))
    refine ⟨ih.1.trans (size_put _ _ _), ih.2.1.trans (defers_put _ _ _), fun t => ?_⟩
    have e : puts f (u :: r) b = puts f r (b.put (some u) (f u)) := rfl
    rw [e, ih.2.2 t]
    by_cases h1 : t ∈ r
    · rw [if_pos h1, if_pos (by simp [h1])]
    · rw [if_neg h1]
      by_cases h2 : t = u
      · subst h2; rw [eval_put_same (h t (by simp)), if_pos (by simp)]
      · rw [Act.eval_put (fun d hd e2 => by cases hd; cases e2; exact h2 rfl), if_neg (by simp [h1, h2])]
theorem act_ext {a b : Act} (hs : a.tmps.size = b.tmps.size) (hd : a.defers = b.defers) (h : ∀ t, a.eval (.tmp t) = b.eval (.tmp t)) : a = b := by
  obtain ⟨ta, da⟩ := a
  obtain ⟨tb, db⟩ := b
  have : ta = tb := by
    apply Array.ext hs
    intro i h1 h2
    have := h i
    simpa [Act.eval, h1, h2] using this
  subst this
  cases hd
  rfl
theorem Agree.puts {a : Act} (ha : Agree ops a0 a) (hok : DrawOk ops a0.tmps.size) : a = puts (fun t => a.eval (.tmp t)) (dsts ops) a0 := by
  have hm : ∀ t ∈ dsts ops, ∃ (i : Nat) (o : Oper), ops[i]? = some o ∧ o.dst = some t := by
    intro t ht
    obtain ⟨o, ho, hd⟩ := List.mem_filterMap.1 ht
    obtain ⟨i, hi, e⟩ := List.getElem_of_mem ho
    refine ⟨i, o, ?_, hd⟩
    rw [← e]
    simp at hi
    simp [hi]
  have hp := puts_spec (fun t => a.eval (.tmp t)) (dsts ops) a0 (fun t ht => by obtain ⟨i, o, hi, hd⟩ := hm t ht; exact hok.room i o t hi hd)
  refine act_ext (ha.size.trans hp.1.symm) (ha.defers.trans hp.2.1.symm) (fun t => ?_)
  rw [hp.2.2 t]
  by_cases h : t ∈ dsts ops
  · rw [if_pos h]
  · rw [if_neg h]
    refine ha.same t (fun i o hi hd => h ?_)
    exact List.mem_filterMap.2 ⟨o, by simpa using Array.mem_of_getElem? hi, hd⟩

/-- A region that draws its order, what follows it at a known frame. -/
theorem wp_region_puts {id : Nat} {w : World} (V : Tmp → Value → World → Prop) (G : World → Prop) (N : Nat) (hm : P.follows .mixedOrders = true) (hok : drawOk ops N = true) (hN : a0.tmps.size = N) (hG : G w.drew)
    (step : OweAll P .any ops Q V G a0 0 ops.toList)
    (fin : ∀ f w, G w → (∀ (i : Nat) (o : Oper) (t : Tmp), ops[i]? = some o → o.dst = some t → V t (f t) w) → Q .normal (puts f (dsts ops) a0) w) : (Code.region id ops true).wp P Q a0 w :=
  wp_region_vals V G N hm hok hN hG step (fun a w ha hG hv => by
    subst hN
    rw [ha.puts (drawOk_spec hok)]
    exact fin _ w hG hv)

theorem AllV.get {a : Act} {w : World} : ∀ {l : List Tmp}, AllV V a w l → ∀ t, l.contains t = true → V t (a.eval (.tmp t)) w
  | [], _, t, h => by simp at h
  | u :: r, hh, t, h => by
    by_cases e : t = u
    · subst e; exact hh.1
    · exact AllV.get hh.2 t (by simpa [e] using h)
theorem Agree.outer {a : Act} (h : Agree ops a0 a) (t : Tmp) (ht : ops.all (fun o => o.dst != some t) = true) : a.eval (.tmp t) = a0.eval (.tmp t) := by
  refine h.same t (fun i o ho e => ?_)
  have := Array.all_eq_true_iff_forall_mem.1 ht o (Array.mem_of_getElem? ho)
  rw [e] at this; simp at this
theorem getD_bool {a : Act} {t : Tmp} {b : Bool} (h : a.eval (.tmp t) = .bool b) : a.tmps[t]? = some (.bool b) := by
  unfold Act.eval at h
  cases hc : a.tmps[t]? with
  | none => simp [hc, undef] at h
  | some x => simp [hc] at h; rw [h]
theorem wanted_of {o : Oper} {a : Act} {g : Nat} {want : Bool} {t : Tmp} (hg : o.guard = some (g, want)) (hd : (ops[g]?).bind (·.dst) = some t) (h : a.eval (.tmp t) = .bool want) : Region.wanted o (yielded ops a.tmps) = true := by
  unfold Region.wanted yielded
  rw [hg]
  simp only [hd, Option.bind_some, getD_bool h]
  simp
theorem wanted_free {o : Oper} {a : Act} (hg : o.guard = none) : Region.wanted o (yielded ops a.tmps) = true := by
  unfold Region.wanted; rw [hg]

/-- An operation that yields a value and turns nothing. -/
theorem owes_val {i : Nat} {o : Oper} {t : Tmp} (hi : ops[i]? = some o) (ht : o.dst = some t) (h : ∀ a w, Agree ops a0 a → G w → AllV V a w (waits md ops o) →
    ∃ v, Region.wanted o (yielded ops a.tmps) = true ∧ (execOp a.eval o).run P w = .ok (.value v) w ∧ V t v w) : Owes P md ops Q V G a0 i o := by
  intro a w ha hG hV
  obtain ⟨v, hw, hr, hv⟩ := h a w ha hG hV
  unfold wpOp
  rw [hi]
  simp only [hw, if_true, Oper.wp, hr, Oper.upon]
  exact .inl ⟨v, rfl, fun u hu => by rw [ht] at hu; cases hu; exact hv, hG, fun _ _ h => h⟩
/-- A call. -/
theorem owes_call {i : Nat} {o : Oper} {t : Tmp} (hi : ops[i]? = some o) (ht : o.dst = some t) (f : FuncId) (h : ∀ a w, Agree ops a0 a → G w → AllV V a w (waits md ops o) →
    ∃ args, Region.wanted o (yielded ops a.tmps) = true ∧ (execOp a.eval o).run P w = .ok (.enter f args) w ∧
      Calls P f args w fun e w' => ∃ v, e = .returned v ∧ V t v w' ∧ G w' ∧ ∀ t x, V t x w → V t x w') : Owes P md ops Q V G a0 i o := by
  intro a w ha hG hV
  obtain ⟨args, hw, hr, hc⟩ := h a w ha hG hV
  unfold wpOp
  rw [hi]
  simp only [hw, if_true, Oper.wp, hr, Oper.upon]
  refine .inl (hc.mono ?_)
  rintro e w' ⟨v, rfl, h1, h2, h3⟩
  exact ⟨v, rfl, fun u hu => by rw [ht] at hu; cases hu; exact h1, h2, h3⟩
end
end Go.Proofs.YtemnebbdaljfbaaGreatDoor

namespace Go.Proofs.YtemnebbdaljfbaaGreatDoor
open Go.RowKit

/-- What stays where nothing below turns. -/
structure Stays where
  p : Value → World → Prop
  old : ∀ {v : Value} {w w' : World}, p v w → Below w.heap.size w w' → p v w'
inductive Kd where
  | any
  | eq (v : Value)
  | st (s : Stays)
def VK : Kd → Value → World → Prop
  | .any, _, _ => True
  | .eq x, v, _ => v = x
  | .st s, v, w => s.p v w
theorem VK.old {k : Kd} {v : Value} {w w' : World} (h : VK k v w) (hb : Below w.heap.size w w') : VK k v w' := by
  cases k with
  | any => trivial
  | eq x => exact h
  | st s => exact s.old h hb
theorem not_wanted {ops : Array Oper} {o : Oper} {a : Act} {g : Nat} {want : Bool} {t : Tmp} {v : Value} (hg : o.guard = some (g, want)) (hd : (ops[g]?).bind (·.dst) = some t) (h : a.eval (.tmp t) = v) (hv : v ≠ .bool want) : Region.wanted o (yielded ops a.tmps) = false := by
  unfold Region.wanted yielded
  rw [hg]
  simp only [hd, Option.bind_some]
  unfold Act.eval at h
  cases hc : a.tmps[t]? with
  | none => rfl
  | some x =>
    simp [hc] at h
    subst h
    cases x with
    | bool b =>
      simp only [beq_eq_false_iff_ne, ne_eq, Option.some.injEq]
      intro e; exact hv (by rw [e])
    | _ => rfl
section
variable {P : Program} {ops : Array Oper} {Q : Exit → Act → World → Prop} {md : Region.Mode} {K : Tmp → Kd} {W : World} {a0 : Act}
/-- An operation that is not wanted. -/
theorem owesK_not {i : Nat} {o : Oper} {t : Tmp} (hi : ops[i]? = some o) (ht : o.dst = some t)
    (h : ∀ a w, Agree ops a0 a → Below W.heap.size W w → AllV (fun t v w => VK (K t) v w) a w (waits md ops o) → Region.wanted o (yielded ops a.tmps) = false ∧ VK (K t) undef w) : Owes P md ops Q (fun t v w => VK (K t) v w) (fun w => Below W.heap.size W w) a0 i o := by
  intro a w ha hG hV
  obtain ⟨hw, hv⟩ := h a w ha hG hV
  unfold wpOp
  rw [hi]
  simp only [hw]
  exact ⟨undef, rfl, fun u hu => by rw [ht] at hu; cases hu; exact hv, hG, fun _ _ h => h⟩
/-- An operation that yields a value, and may make memory. -/
theorem owesK {i : Nat} {o : Oper} {t : Tmp} (hi : ops[i]? = some o) (ht : o.dst = some t) (h : ∀ a w, Agree ops a0 a → Below W.heap.size W w → AllV (fun t v w => VK (K t) v w) a w (waits md ops o) →
    ∃ v w', Region.wanted o (yielded ops a.tmps) = true ∧ (execOp a.eval o).run P w = .ok (.value v) w' ∧ Below w.heap.size w w' ∧ VK (K t) v w') : Owes P md ops Q (fun t v w => VK (K t) v w) (fun w => Below W.heap.size W w) a0 i o := by
  intro a w ha hG hV
  obtain ⟨v, w', hw, hr, hb, hv⟩ := h a w ha hG hV
  unfold wpOp
  rw [hi]
  simp only [hw, if_true, Oper.wp, hr, Oper.upon]
  exact .inl ⟨v, rfl, fun u hu => by rw [ht] at hu; cases hu; exact hv, hG.trans (hb.mono hG.size), fun _ _ h => VK.old h hb⟩
/-- A call. -/
theorem owesK_call {i : Nat} {o : Oper} {t : Tmp} (hi : ops[i]? = some o) (ht : o.dst = some t) (f : FuncId) (h : ∀ a w, Agree ops a0 a → Below W.heap.size W w → AllV (fun t v w => VK (K t) v w) a w (waits md ops o) →
    ∃ args, Region.wanted o (yielded ops a.tmps) = true ∧ (execOp a.eval o).run P w = .ok (.enter f args) w ∧
      Calls P f args w fun e w' => ∃ v, e = .returned v ∧ VK (K t) v w' ∧ Below w.heap.size w w') : Owes P md ops Q (fun t v w => VK (K t) v w) (fun w => Below W.heap.size W w) a0 i o := by
  intro a w ha hG hV
  obtain ⟨args, hw, hr, hc⟩ := h a w ha hG hV
  unfold wpOp
  rw [hi]
  simp only [hw, if_true, Oper.wp, hr, Oper.upon]
  refine .inl (hc.mono ?_)
  rintro e w' ⟨v, rfl, h1, hb⟩
  exact ⟨v, rfl, fun u hu => by rw [ht] at hu; cases hu; exact h1, hG.trans (hb.mono hG.size), fun _ _ h => VK.old h hb⟩
end
end Go.Proofs.YtemnebbdaljfbaaGreatDoor

namespace Go.Proofs.YtemnebbdaljfbaaGreatDoor
open Go.RowKit

theorem run_loadBytes (w : World) (g : Nat) : ∀ (s : List UInt8) (off : Nat) (acc : ByteArray), (∀ i (hi : i < s.length), w.cell? ⟨g, off + i, none⟩ = some (.int .u8 (s[i].toNat : Int))) →
    (Extern.Bytes.loadBytes ⟨g, off, none⟩ s.length acc).run Tryz.prog w = .ok (acc ++ ⟨s.toArray⟩) w
  | [], off, acc, _ => by
    simp only [List.length_nil, Extern.Bytes.loadBytes, Sem.run_pure]
    congr 1
    apply ByteArray.ext; simp
  | b :: s, off, acc, h => by
    have h0 := h 0 (by simp)
    simp only [Nat.add_zero, List.getElem_cons_zero] at h0
    have hl : (load ⟨g, off, none⟩).run Tryz.prog w = .ok (.int .u8 (b.toNat : Int)) w := by simp [go_sem, h0]
    have hadd : (⟨g, off, none⟩ : Addr).add 1 = ⟨g, off + 1, none⟩ := rfl
    have ih := run_loadBytes w g s (off + 1) (acc.push b) (fun i hi => by
      have := h (i + 1) (by simpa using hi)
      rw [show off + 1 + i = off + (i + 1) by omega]
      simpa using this)
    simp only [List.length_cons, Extern.Bytes.loadBytes, Sem.run_bind, hl, Result.andThen_ok, hadd]
    have hb : (b.toNat : Int).toNat.toUInt8 = b := by simp
    rw [hb, ih]
    congr 1
    apply ByteArray.ext; simp
theorem IdAt.compare {w : World} {g h : Nat} {s t : List UInt8} (hs : IdAt w g s) (ht : IdAt w h t) :
    (Extern.BytealgCompare.compare #[.slice (some ⟨g, 0, none⟩) 32 32, .slice (some ⟨h, 0, none⟩) 32 32]).run Tryz.prog w = .ok (.int .i64 (Lib.compareBytes s t)) w := by
  have h1 := run_loadBytes w g s 0 .empty (fun i hi => by rw [Nat.zero_add]; exact hs.cell i hi)
  have h2 := run_loadBytes w h t 0 .empty (fun i hi => by rw [Nat.zero_add]; exact ht.cell i hi)
  rw [hs.1] at h1
  rw [ht.1] at h2
  have e : Extern.BytealgCompare.compare #[.slice (some ⟨g, 0, none⟩) 32 32, .slice (some ⟨h, 0, none⟩) 32 32] = (do pure (goInt (Extern.BytealgCompare.cmp (← Extern.Bytes.loadBytes ⟨g, 0, none⟩ 32 .empty) (← Extern.Bytes.loadBytes ⟨h, 0, none⟩ 32 .empty)))) := rfl
  rw [e]
  simp only [Sem.run_bind, h1, h2, Result.andThen_ok, Sem.run_pure, Lib.cmp_eq, goInt]
  simp
set_option maxHeartbeats 1000000 in
set_option maxRecDepth 20000 in
theorem bcompare_any (g h : Nat) (s t : List UInt8) (w : World) (hs : IdAt w g s) (ht : IdAt w h t) :
    Calls Tryz.prog 93 #[.slice (some ⟨g, 0, none⟩) 32 32, .slice (some ⟨h, 0, none⟩) 32 32] w fun r w' => r = .returned (.int .i64 (Lib.compareBytes s t)) ∧ w = w' := by
  have hc := hs.compare ht
  obtain ⟨x, hx⟩ : ∃ x, x = Lib.compareBytes s t := ⟨_, rfl⟩
  rw [← hx] at hc ⊢
  clear hx hs ht
  go_enter Tryz.func93, Tryz.ntmps93
  go_wp2
  rw [run_callFunc_extern Tryz.func121 (by kernel_rfl) (by kernel_rfl) (by kernel_rfl) (e := Extern.BytealgCompare.compare) (by kernel_rfl), hc]
  simp only [Result.andThen]
  rw [Oper.upon_value]
  go_wp2
  go_ret
  exact ⟨rfl, rfl⟩

set_option maxHeartbeats 1000000 in
set_option maxRecDepth 20000 in
theorem hcompare_any (n1 n2 : List UInt8) (w : World) (hs : n1.length = 32) (ht : n2.length = 32) :
    Calls Tryz.prog 79 #[.agg (vals n1).toArray, .agg (vals n2).toArray] w fun r w' => r = .returned (.int .i64 (Lib.compareBytes n1 n2)) ∧ Below w.heap.size w w' := by
  have hA : IdAt ((w.alloc (.cells (vals n1).toArray 70)).alloc (.cells (vals n2).toArray 70)) w.heap.size n1 := ⟨hs, by rw [Below.heap_alloc _ _ _ (by simp)]; exact heap_alloc_new w _⟩
  have hB : IdAt ((w.alloc (.cells (vals n1).toArray 70)).alloc (.cells (vals n2).toArray 70)) (w.heap.size + 1) n2 := ⟨ht, by have := heap_alloc_new (w.alloc (.cells (vals n1).toArray 70)) (.cells (vals n2).toArray 70); simpa using this⟩
  have hb : Below w.heap.size w ((w.alloc (.cells (vals n1).toArray 70)).alloc (.cells (vals n2).toArray 70)) := ((Below.refl _ w).alloc (Nat.le_refl _) _).alloc (by simp) _
  have s1 := id_size hs
  have s2 := id_size ht
  have HA := Lib.hid hA
  have HB := Lib.hid hB
  have Hb := Lib.hid hb
  clear hA hB hb
  generalize (vals n1).toArray = S at s1 HA HB Hb ⊢
  generalize (vals n2).toArray = T at s2 HA HB Hb ⊢
  go_enter Tryz.func79, Tryz.ntmps79
  go_wp2_with fail
  generalize (w.alloc (.cells S 70)).alloc (.cells T 70) = W at HA HB Hb ⊢
  generalize w.heap.size = n0 at HA HB ⊢
  refine wp_region_puts (fun t v w => VK (match t with
    | 5 => .eq (.slice (some ⟨n0, 0, none⟩) 32 32)
    | 6 => .eq (.slice (some ⟨n0 + 1, 0, none⟩) 32 32)
    | 7 => .eq (.int .i64 (Lib.compareBytes n1 n2))
    | 4 => .eq (.int .i64 (Lib.compareBytes n1 n2))
    | _ => .any) v w) (fun w' => Below W.heap.size W w') 8 (by kernel_rfl) (by decide +kernel) rfl (Below.refl _ _).drew (by
    refine OweAll.cons (owesK rfl rfl fun a w1 ha hG hV => ?_) ?_
    · skip
      have h2 := ha.outer 2 (by decide +kernel)
      simp only [Act.eval] at h2
      exact ⟨.slice (some ⟨n0, 0, none⟩) 32 32, w1, wanted_free rfl, by simp [execOp, go_sem, h2], Below.refl _ _, rfl⟩
    refine OweAll.cons (owesK rfl rfl fun a w1 ha hG hV => ?_) ?_
    · skip
      have h3 := ha.outer 3 (by decide +kernel)
      simp only [Act.eval] at h3
      exact ⟨.slice (some ⟨n0 + 1, 0, none⟩) 32 32, w1, wanted_free rfl, by simp [execOp, go_sem, h3], Below.refl _ _, rfl⟩
    refine OweAll.cons (owesK_call rfl rfl 93 fun a w1 ha hG hV => ?_) ?_
    · skip
      have h5 : a.tmps.getD 5 undef = .slice (some ⟨n0, 0, none⟩) 32 32 := hV.get 5 (by decide +kernel)
      have h6 : a.tmps.getD 6 undef = .slice (some ⟨n0 + 1, 0, none⟩) 32 32 := hV.get 6 (by decide +kernel)
      refine ⟨#[.slice (some ⟨n0, 0, none⟩) 32 32, .slice (some ⟨n0 + 1, 0, none⟩) 32 32], wanted_free rfl, by simp [execOp, resolve, invoke, go_sem, h5, h6], ?_⟩
      refine (bcompare_any _ _ n1 n2 w1 (HA.out.old hG) (HB.out.old hG)).mono ?_
      rintro r u2 ⟨rfl, rfl⟩; exact ⟨_, rfl, rfl, Below.refl _ _⟩
    refine OweAll.cons (owesK rfl rfl fun a w1 ha hG hV => ?_) ?_
    · skip
      have h7 : a.tmps.getD 7 undef = .int .i64 (Lib.compareBytes n1 n2) := hV.get 7 (by decide +kernel)
      exact ⟨.int .i64 (Lib.compareBytes n1 n2), w1, wanted_free rfl, by simp [execOp, go_sem, h7], Below.refl _ _, rfl⟩
    exact OweAll.nil
    ) ?_
  intro f wz hG hv
  have e4 : f 4 = .int .i64 (Lib.compareBytes n1 n2) := hv 3 _ 4 rfl rfl
  rename_i hK
  refine hK _ _ ?_
  clear hK hv
  simp only [dsts, puts, List.filterMap_cons, List.filterMap_nil, List.foldl_cons, List.foldl_nil, Act.put, List.setIfInBounds_toArray, List.set_cons_succ, List.set_cons_zero, e4]
  clear e4
  have HG := Lib.hid (Hb.out.trans (hG.mono Hb.out.size))
  clear hG
  go_wp2_with fail
  go_ret
  exact ⟨rfl, HG.out⟩
end Go.Proofs.YtemnebbdaljfbaaGreatDoor

namespace Go.Proofs.YtemnebbdaljfbaaGreatDoor
open Go.RowKit

/-- Names. -/
abbrev Nm := { s : List UInt8 // s.length = 32 }
def encN : Enc Nm := ⟨fun s => vals s.1, 32, fun s => by rw [vals_len]; exact s.2, fun s => vals_one s.1, by decide⟩
theorem exec_load_mid {o : Oper} {a : Act} {w : World} (x : Operand) (ho : o.op = .load 70 x) (b off : Nat) (hx : a.eval x = .pointer (some ⟨b, off, none⟩)) (s : Nm)
    (hc : ∀ i u, (encN.f s)[i]? = some u → w.cell? ⟨b, off + i, none⟩ = some u) : (execOp a.eval o).run Tryz.prog w = .ok (.value (.agg (vals s.1).toArray)) w := by
  have hl := run_loadVar_mid (P := Tryz.prog) w b off 70 (vals s.1) _ (fun j v hv => hc j v hv) Tryz.underlying70 rfl (by rw [vals_len, s.2]; kernel_rfl)
  unfold execOp
  simp only [ho, hx, Instr.loadAt, Instr.sureAddr, Sem.run_bind, Sem.run_pure, Result.andThen_ok, hl]
/-- The first k + 1 rise. -/
def rs (L : List (List UInt8)) (k : Nat) : Bool := (List.range k).all fun i => decide (Lib.compareBytes (L.getD i []) (L.getD (i + 1) []) < 0)
theorem rs_succ (L : List (List UInt8)) (k : Nat) : rs L (k + 1) = (rs L k && decide (Lib.compareBytes (L.getD k []) (L.getD (k + 1) []) < 0)) := by
  unfold rs; rw [List.range_succ, List.all_append]; simp
theorem rs_stop {L : List (List UInt8)} {k n : Nat} (h : rs L (k + 1) = false) (hn : k < n) : rs L n = false := by
  obtain ⟨m, rfl⟩ : ∃ m, n = k + 1 + m := ⟨n - (k + 1), by omega⟩
  induction m with
  | zero => exact h
  | succ m ih => rw [← Nat.add_assoc, rs_succ, ih (by omega)]; rfl

set_option maxRecDepth 20000 in
set_option maxHeartbeats 4000000 in
theorem rising_any (ao : Option Addr) (cap : Nat) (L : List Nm) (w : World) (hL : Rd encN w ao L) (hn : L.length ≤ 1000000) :
    Calls Tryz.prog 62 #[.slice ao L.length cap] w fun r w' => r = .returned (.bool (rs (L.map (·.1)) (L.length - 1))) ∧ Below w.heap.size w w' := by
  obtain ⟨n, hnL⟩ : ∃ n, n = L.length := ⟨_, rfl⟩
  rw [← hnL] at hn ⊢
  obtain ⟨R, hR⟩ : ∃ R, R = rs (L.map (·.1)) (n - 1) := ⟨_, rfl⟩
  rw [← hR]
  have HR := Lib.hid hR
  clear hR
  have Hn := Lib.hid hnL
  have HL := Lib.hid hL
  have hB0 := Below.refl w.heap.size w
  clear hnL hL
  go_enter Tryz.func62, Tryz.ntmps62
  go_wp2_with fail
  go_loopw [3] (fun s3 wr => ∃ k : Nat, k ≤ n ∧ s3 = .int .i64 ((k : Int) + 1) ∧ Hid (rs (L.map (·.1)) k = true) ∧ Hid (k ≤ n - 1) ∧ Below w.heap.size w wr) (fun i _ => n + 1 - (intOf i).toNat)
  case atStart => exact ⟨0, by omega, by go_num, Lib.hid rfl, Lib.hid (Nat.zero_le _), hB0⟩
  case round =>
    clear hB0
    obtain ⟨i, hi, rfl, hrs, hin, hB⟩ := hrel
    by_cases hlt : i + 1 < n
    · have h1 : i < L.length := by rw [← Hn.out]; omega
      have h2 : i + 1 < L.length := by rw [← Hn.out]; omega
      obtain ⟨bs, off, rfl, hbs, c1⟩ := (HL.out.old hB) i h1
      obtain ⟨bs', off', e, _, c2⟩ := (HL.out.old hB) (i + 1) h2
      cases e
      have C1 : Hid (∀ w', Below wr.heap.size wr w' → ∀ k u, (encN.f L[i])[k]? = some u → w'.cell? ⟨bs, off + i * 32 + k, none⟩ = some u) := Lib.hid (fun w' hb k u hu => (World.cell?_of_block (hb.block bs hbs)).trans (c1 k u hu))
      have C2 : Hid (∀ w', Below wr.heap.size wr w' → ∀ k u, (encN.f L[i + 1])[k]? = some u → w'.cell? ⟨bs, off + (i + 1) * 32 + k, none⟩ = some u) := Lib.hid (fun w' hb k u hu => (World.cell?_of_block (hb.block bs hbs)).trans (c2 k u hu))
      obtain ⟨x, hx⟩ : ∃ x, x = L[i] := ⟨_, rfl⟩
      obtain ⟨y, hy⟩ : ∃ y, y = L[i + 1] := ⟨_, rfl⟩
      have hgx : (L.map (·.1)).getD i [] = x.1 := by simp [List.getD, h1, hx]
      have hgy : (L.map (·.1)).getD (i + 1) [] = y.1 := by simp [List.getD, h2, hy]
      have hsu := rs_succ (L.map (·.1)) i
      rw [hgx, hgy, hrs.out, Bool.true_and] at hsu
      rw [← hx] at C1
      rw [← hy] at C2
      obtain ⟨c, hc⟩ : ∃ c, c = Lib.compareBytes x.1 y.1 := ⟨_, rfl⟩
      have hcmp : Hid (∀ w, Calls Tryz.prog 79 #[.agg (vals x.1).toArray, .agg (vals y.1).toArray] w fun r w' => r = .returned (.int .i64 c) ∧ Below w.heap.size w w') := Lib.hid (fun w => by rw [hc]; exact hcompare_any x.1 y.1 w x.2 y.2)
      rw [← hc] at hsu
      have Hsu := Lib.hid hsu
      have i0 : (0 : Int) ≤ i := by omega
      have i1 : (i : Int) < n := by omega
      have i2 : (i : Int) + 1 < n := by omega
      have e1 : IntKind.i64.wrap ((i : Int) + 1 - 1) = (i : Int) := by rw [IntWalk.i64_in _ (by omega)]; omega
      have e0 : IntKind.i64.wrap (i : Int) = (i : Int) := IntWalk.i64_in _ (by omega)
      have e2 : ((i : Int) + 1).toNat = i + 1 := by omega
      have e3 : (0 : Int) ≤ (i : Int) + 1 := by omega
      have HB := Lib.hid hB
      clear hx hy hgx hgy hsu hc c1 c2 hB hrs
      go_wp2_with fail
      refine wp_region_puts (fun t v w => VK (match t with
        | 10 => .eq (.slice (some ⟨bs, off, none⟩) n cap)
        | 11 => .eq (.int .i64 ((i : Int) + 1))
        | 12 => .eq (.int .i64 (i : Int))
        | 13 => .eq (.pointer (some ⟨bs, off + i * 32, none⟩))
        | 14 => .eq (.agg (vals x.1).toArray)
        | 15 => .eq (.slice (some ⟨bs, off, none⟩) n cap)
        | 16 => .eq (.int .i64 ((i : Int) + 1))
        | 17 => .eq (.pointer (some ⟨bs, off + (i + 1) * 32, none⟩))
        | 18 => .eq (.agg (vals y.1).toArray)
        | 19 => .eq (.int .i64 c)
        | 20 => .eq (.bool (decide (0 ≤ c)))
        | _ => .any) v w) (fun w' => Below wr.heap.size wr w') 21 (by kernel_rfl) (by decide +kernel) rfl (Below.refl _ _).drew (by
        refine OweAll.cons (owesK rfl rfl fun a w1 ha hG hV => ?_) ?_
        · skip
          have h0 := ha.outer 0 (by decide +kernel)
          simp only [Act.eval] at h0
          exact ⟨.slice (some ⟨bs, off, none⟩) n cap, w1, wanted_free rfl, by simp [execOp, go_sem, h0], Below.refl _ _, rfl⟩
        refine OweAll.cons (owesK rfl rfl fun a w1 ha hG hV => ?_) ?_
        · skip
          have h3 := ha.outer 3 (by decide +kernel)
          simp only [Act.eval] at h3
          exact ⟨.int .i64 ((i : Int) + 1), w1, wanted_free rfl, by simp [execOp, go_sem, h3], Below.refl _ _, rfl⟩
        refine OweAll.cons (owesK rfl rfl fun a w1 ha hG hV => ?_) ?_
        · skip
          have h11 : a.tmps.getD 11 undef = .int .i64 ((i : Int) + 1) := hV.get 11 (by decide +kernel)
          exact ⟨.int .i64 (i : Int), w1, wanted_free rfl, by simp [execOp, go_sem, h11, e0, e1], Below.refl _ _, rfl⟩
        refine OweAll.cons (owesK rfl rfl fun a w1 ha hG hV => ?_) ?_
        · skip
          have h10 : a.tmps.getD 10 undef = .slice (some ⟨bs, off, none⟩) n cap := hV.get 10 (by decide +kernel)
          have h12 : a.tmps.getD 12 undef = .int .i64 (i : Int) := hV.get 12 (by decide +kernel)
          exact ⟨.pointer (some ⟨bs, off + i * 32, none⟩), w1, wanted_free rfl, by simp [execOp, go_sem, h10, h12, i0, i1], Below.refl _ _, rfl⟩
        refine OweAll.cons (owesK rfl rfl fun a w1 ha hG hV => ?_) ?_
        · skip
          have h13 : a.tmps.getD 13 undef = .pointer (some ⟨bs, off + i * 32, none⟩) := hV.get 13 (by decide +kernel)
          exact ⟨.agg (vals x.1).toArray, w1, wanted_free rfl, exec_load_mid (.tmp 13) rfl bs (off + i * 32) h13 x (C1.out w1 hG), Below.refl _ _, rfl⟩
        refine OweAll.cons (owesK rfl rfl fun a w1 ha hG hV => ?_) ?_
        · skip
          have h0 := ha.outer 0 (by decide +kernel)
          simp only [Act.eval] at h0
          exact ⟨.slice (some ⟨bs, off, none⟩) n cap, w1, wanted_free rfl, by simp [execOp, go_sem, h0], Below.refl _ _, rfl⟩
        refine OweAll.cons (owesK rfl rfl fun a w1 ha hG hV => ?_) ?_
        · skip
          have h3 := ha.outer 3 (by decide +kernel)
          simp only [Act.eval] at h3
          exact ⟨.int .i64 ((i : Int) + 1), w1, wanted_free rfl, by simp [execOp, go_sem, h3], Below.refl _ _, rfl⟩
        refine OweAll.cons (owesK rfl rfl fun a w1 ha hG hV => ?_) ?_
        · skip
          have h15 : a.tmps.getD 15 undef = .slice (some ⟨bs, off, none⟩) n cap := hV.get 15 (by decide +kernel)
          have h16 : a.tmps.getD 16 undef = .int .i64 ((i : Int) + 1) := hV.get 16 (by decide +kernel)
          exact ⟨.pointer (some ⟨bs, off + (i + 1) * 32, none⟩), w1, wanted_free rfl, by simp [execOp, go_sem, h15, h16, e2, e3, i2], Below.refl _ _, rfl⟩
        refine OweAll.cons (owesK rfl rfl fun a w1 ha hG hV => ?_) ?_
        · skip
          have h17 : a.tmps.getD 17 undef = .pointer (some ⟨bs, off + (i + 1) * 32, none⟩) := hV.get 17 (by decide +kernel)
          exact ⟨.agg (vals y.1).toArray, w1, wanted_free rfl, exec_load_mid (.tmp 17) rfl bs (off + (i + 1) * 32) h17 y (C2.out w1 hG), Below.refl _ _, rfl⟩
        refine OweAll.cons (owesK_call rfl rfl 79 fun a w1 ha hG hV => ?_) ?_
        · skip
          have h14 : a.tmps.getD 14 undef = .agg (vals x.1).toArray := hV.get 14 (by decide +kernel)
          have h18 : a.tmps.getD 18 undef = .agg (vals y.1).toArray := hV.get 18 (by decide +kernel)
          refine ⟨#[.agg (vals x.1).toArray, .agg (vals y.1).toArray], wanted_free rfl, by simp [execOp, resolve, invoke, go_sem, h14, h18], ?_⟩
          refine (hcmp.out w1).mono ?_
          rintro r u2 ⟨rfl, hb⟩; exact ⟨_, rfl, rfl, hb⟩
        refine OweAll.cons (owesK rfl rfl fun a w1 ha hG hV => ?_) ?_
        · skip
          have h19 : a.tmps.getD 19 undef = .int .i64 c := hV.get 19 (by decide +kernel)
          exact ⟨.bool (decide (0 ≤ c)), w1, wanted_free rfl, by simp [execOp, go_sem, h19], Below.refl _ _, rfl⟩
        exact OweAll.nil
        ) ?_
      intro f wz hG hv
      have e20 : f 20 = .bool (decide (0 ≤ c)) := hv 10 _ 20 rfl rfl
      rename_i hK
      refine hK _ _ ?_
      clear hK hv
      simp only [dsts, puts, List.filterMap_cons, List.filterMap_nil, List.foldl_cons, List.foldl_nil, Act.put, List.setIfInBounds_toArray, List.set_cons_succ, List.set_cons_zero, e20]
      clear e20
      have HG := Lib.hid (HB.out.trans (hG.mono HB.out.size))
      clear hG
      by_cases hc : 0 ≤ c
      · have t1 : decide (0 ≤ c) = true := decide_eq_true hc
        have hfin : R = false := HR.out.trans <| rs_stop (k := i) (by rw [Hsu.out, decide_eq_false_iff_not]; omega) (by omega)
        have Hfin := Lib.hid hfin
        clear hfin
        go_wp2_with fail
        go_ret
        exact ⟨by rw [Hfin.out]; rfl, HG.out⟩
      · have t1 : decide (0 ≤ c) = false := decide_eq_false hc
        have hnx : Hid (rs (L.map (·.1)) (i + 1) = true) := Lib.hid (by rw [Hsu.out, decide_eq_true_eq]; omega)
        go_wp2_with fail
        go_roundw
        case rel => exact ⟨i + 1, by omega, by go_num, hnx, Lib.hid (by omega), HG.out⟩
        case measure => simp [intOf]; omega
    · have hfin : R = true := by rw [HR.out]; have h := hin.out; have e : i = n - 1 := (by omega); rw [← e]; exact hrs.out
      have Hfin := Lib.hid hfin
      clear hfin
      have i2 : ¬ (i : Int) + 1 < n := by omega
      go_wp2_with fail
      go_ret
      exact ⟨by rw [Hfin.out]; rfl, hB⟩
end Go.Proofs.YtemnebbdaljfbaaGreatDoor

namespace Go.Proofs.YtemnebbdaljfbaaGreatDoor
open Go.RowKit

/-- A header's fields; its parents of whatever kind. -/
structure Hd (α : Type) where
  ht : Int
  mi : Int
  tk : List UInt8
  wi : Int
  pw : Nat
  ps : List α
  sa : Int
def hcells {α : Type} (h : Hd α) (ao : Option Addr) (cap : Nat) : Array Value := #[.int .i64 h.ht, .int .i64 h.mi, .string ⟨h.tk.toArray⟩, .int .i64 h.wi, .int .u64 (h.pw : Int), .slice ao h.ps.length cap, .int .i64 h.sa]
/-- Which headers may be, but for their parents' order. -/
def chk {α : Type} (h : Hd α) (R : Bool) : Int :=
  if 5 < h.ps.length then 4
  else if (h.ht < 1 ∨ 1073741824 < h.ht) ∨ (h.mi < 0 ∨ 64 ≤ h.mi) ∨ (h.tk.length < 1 ∨ 8 < h.tk.length) ∨ (h.wi < 1 ∨ 15 < h.wi) ∨ (h.pw < 2 ∨ 4611686018427387904 < h.pw) ∨ (h.ps.length < 1 ∨ R = false) ∨ (h.sa < 0 ∨ 1073741824 < h.sa) then 1 else 0
theorem bcellH {W W' : World} (hb : Below W.heap.size W W') : (∀ b o, b < W.heap.size → W'.cell? ⟨b, o, none⟩ = W.cell? ⟨b, o, none⟩) ∧ (∀ b o, b < W.heap.size → W'.frozen? ⟨b, o, none⟩ = W.frozen? ⟨b, o, none⟩) :=
  ⟨fun b o h => hb.cell (p := ⟨b, o, none⟩) h, fun b o h => hb.frozen (p := ⟨b, o, none⟩) h⟩
set_option maxRecDepth 20000 in
set_option maxHeartbeats 2000000 in
theorem hchk_big (h : Hd Nm) (ao : Option Addr) (cap : Nat) (w : World) (hL : Rd encN w ao h.ps) (l n : Nat) (hl : l = h.tk.length) (hn : n = h.ps.length) (R : Bool) (hR : R = rs (h.ps.map (·.1)) (n - 1)) (g0 : 5 < n) :
    Calls Tryz.prog 47 #[.agg (hcells h ao cap)] w fun r w' => r = .returned (.int .i64 4) ∧ Below w.heap.size w w' := by
  obtain ⟨ht, mi, tk, wi, pw, ps, sa⟩ := h
  simp only at *
  unfold hcells
  simp only
  rw [← hn]
  have hsz : (ByteArray.mk tk.toArray).size = l := hl.symm
  have Hris : Hid (∀ w', Below w.heap.size w w' → n ≤ 1000000 → Calls Tryz.prog 62 #[.slice ao n cap] w' fun r w'' => r = .returned (.bool R) ∧ Below w'.heap.size w' w'') := Lib.hid (fun w' hb h6 => by
    have := rising_any ao cap ps w' (hL.old hb) (by omega)
    rw [← hn, ← hR] at this; exact this)
  clear hl hL hn hR
  have f5 : 5 < (n : Int) := by omega
  have hb0 : Below w.heap.size w (w.alloc (.cells #[.int .i64 ht, .int .i64 mi, .string ⟨tk.toArray⟩, .int .i64 wi, .int .u64 (pw : Int), .slice ao n cap, .int .i64 sa] 41)) := (Below.refl _ w).alloc (Nat.le_refl _) _
  clear g0
  go_enter Tryz.func47, Tryz.ntmps47
  go_wp2_with fail
  go_ret
  exact ⟨rfl, hb0⟩
set_option maxRecDepth 20000 in
set_option maxHeartbeats 2000000 in
theorem hchk_ht1 (h : Hd Nm) (ao : Option Addr) (cap : Nat) (w : World) (hL : Rd encN w ao h.ps) (l n : Nat) (hl : l = h.tk.length) (hn : n = h.ps.length) (R : Bool) (hR : R = rs (h.ps.map (·.1)) (n - 1)) (g0 : ¬ 5 < n) (g1 : h.ht < 1) :
    Calls Tryz.prog 47 #[.agg (hcells h ao cap)] w fun r w' => r = .returned (.int .i64 1) ∧ Below w.heap.size w w' := by
  obtain ⟨ht, mi, tk, wi, pw, ps, sa⟩ := h
  simp only at *
  unfold hcells
  simp only
  rw [← hn]
  have hsz : (ByteArray.mk tk.toArray).size = l := hl.symm
  have Hris : Hid (∀ w', Below w.heap.size w w' → n ≤ 1000000 → Calls Tryz.prog 62 #[.slice ao n cap] w' fun r w'' => r = .returned (.bool R) ∧ Below w'.heap.size w' w'') := Lib.hid (fun w' hb h6 => by
    have := rising_any ao cap ps w' (hL.old hb) (by omega)
    rw [← hn, ← hR] at this; exact this)
  clear hl hL hn hR
  have f5 : (n : Int) ≤ 5 := by omega
  have f5' : n ≤ 5 := by omega
  have e1 : ht < 1 := by omega
  have hb0 : Below w.heap.size w (w.alloc (.cells #[.int .i64 ht, .int .i64 mi, .string ⟨tk.toArray⟩, .int .i64 wi, .int .u64 (pw : Int), .slice ao n cap, .int .i64 sa] 41)) := (Below.refl _ w).alloc (Nat.le_refl _) _
  clear g0 g1
  go_enter Tryz.func47, Tryz.ntmps47
  go_wp2_with fail
  go_ret
  exact ⟨rfl, hb0⟩
set_option maxRecDepth 20000 in
set_option maxHeartbeats 2000000 in
theorem hchk_ht2 (h : Hd Nm) (ao : Option Addr) (cap : Nat) (w : World) (hL : Rd encN w ao h.ps) (l n : Nat) (hl : l = h.tk.length) (hn : n = h.ps.length) (R : Bool) (hR : R = rs (h.ps.map (·.1)) (n - 1)) (g0 : ¬ 5 < n) (g1 : ¬ h.ht < 1) (g2 : 1073741824 < h.ht) :
    Calls Tryz.prog 47 #[.agg (hcells h ao cap)] w fun r w' => r = .returned (.int .i64 1) ∧ Below w.heap.size w w' := by
  obtain ⟨ht, mi, tk, wi, pw, ps, sa⟩ := h
  simp only at *
  unfold hcells
  simp only
  rw [← hn]
  have hsz : (ByteArray.mk tk.toArray).size = l := hl.symm
  have Hris : Hid (∀ w', Below w.heap.size w w' → n ≤ 1000000 → Calls Tryz.prog 62 #[.slice ao n cap] w' fun r w'' => r = .returned (.bool R) ∧ Below w'.heap.size w' w'') := Lib.hid (fun w' hb h6 => by
    have := rising_any ao cap ps w' (hL.old hb) (by omega)
    rw [← hn, ← hR] at this; exact this)
  clear hl hL hn hR
  have f5 : (n : Int) ≤ 5 := by omega
  have f5' : n ≤ 5 := by omega
  have fht1 : 1 ≤ ht := by omega
  have e1 : 1073741824 < ht := by omega
  have hb0 : Below w.heap.size w (w.alloc (.cells #[.int .i64 ht, .int .i64 mi, .string ⟨tk.toArray⟩, .int .i64 wi, .int .u64 (pw : Int), .slice ao n cap, .int .i64 sa] 41)) := (Below.refl _ w).alloc (Nat.le_refl _) _
  clear g0 g1 g2
  go_enter Tryz.func47, Tryz.ntmps47
  go_wp2_with fail
  go_ret
  exact ⟨rfl, hb0⟩
set_option maxRecDepth 20000 in
set_option maxHeartbeats 2000000 in
theorem hchk_mi1 (h : Hd Nm) (ao : Option Addr) (cap : Nat) (w : World) (hL : Rd encN w ao h.ps) (l n : Nat) (hl : l = h.tk.length) (hn : n = h.ps.length) (R : Bool) (hR : R = rs (h.ps.map (·.1)) (n - 1)) (g0 : ¬ 5 < n) (g1 : ¬ h.ht < 1) (g2 : ¬ 1073741824 < h.ht) (g3 : h.mi < 0) :
    Calls Tryz.prog 47 #[.agg (hcells h ao cap)] w fun r w' => r = .returned (.int .i64 1) ∧ Below w.heap.size w w' := by
  obtain ⟨ht, mi, tk, wi, pw, ps, sa⟩ := h
  simp only at *
  unfold hcells
  simp only
  rw [← hn]
  have hsz : (ByteArray.mk tk.toArray).size = l := hl.symm
  have Hris : Hid (∀ w', Below w.heap.size w w' → n ≤ 1000000 → Calls Tryz.prog 62 #[.slice ao n cap] w' fun r w'' => r = .returned (.bool R) ∧ Below w'.heap.size w' w'') := Lib.hid (fun w' hb h6 => by
    have := rising_any ao cap ps w' (hL.old hb) (by omega)
    rw [← hn, ← hR] at this; exact this)
  clear hl hL hn hR
  have f5 : (n : Int) ≤ 5 := by omega
  have f5' : n ≤ 5 := by omega
  have fht1 : 1 ≤ ht := by omega
  have fht2 : ht ≤ 1073741824 := by omega
  have e1 : mi < 0 := by omega
  have hb0 : Below w.heap.size w (w.alloc (.cells #[.int .i64 ht, .int .i64 mi, .string ⟨tk.toArray⟩, .int .i64 wi, .int .u64 (pw : Int), .slice ao n cap, .int .i64 sa] 41)) := (Below.refl _ w).alloc (Nat.le_refl _) _
  clear g0 g1 g2 g3
  go_enter Tryz.func47, Tryz.ntmps47
  go_wp2_with fail
  go_ret
  exact ⟨rfl, hb0⟩
set_option maxRecDepth 20000 in
set_option maxHeartbeats 2000000 in
theorem hchk_mi2 (h : Hd Nm) (ao : Option Addr) (cap : Nat) (w : World) (hL : Rd encN w ao h.ps) (l n : Nat) (hl : l = h.tk.length) (hn : n = h.ps.length) (R : Bool) (hR : R = rs (h.ps.map (·.1)) (n - 1)) (g0 : ¬ 5 < n) (g1 : ¬ h.ht < 1) (g2 : ¬ 1073741824 < h.ht) (g3 : ¬ h.mi < 0) (g4 : 64 ≤ h.mi) :
    Calls Tryz.prog 47 #[.agg (hcells h ao cap)] w fun r w' => r = .returned (.int .i64 1) ∧ Below w.heap.size w w' := by
  obtain ⟨ht, mi, tk, wi, pw, ps, sa⟩ := h
  simp only at *
  unfold hcells
  simp only
  rw [← hn]
  have hsz : (ByteArray.mk tk.toArray).size = l := hl.symm
  have Hris : Hid (∀ w', Below w.heap.size w w' → n ≤ 1000000 → Calls Tryz.prog 62 #[.slice ao n cap] w' fun r w'' => r = .returned (.bool R) ∧ Below w'.heap.size w' w'') := Lib.hid (fun w' hb h6 => by
    have := rising_any ao cap ps w' (hL.old hb) (by omega)
    rw [← hn, ← hR] at this; exact this)
  clear hl hL hn hR
  have f5 : (n : Int) ≤ 5 := by omega
  have f5' : n ≤ 5 := by omega
  have fht1 : 1 ≤ ht := by omega
  have fht2 : ht ≤ 1073741824 := by omega
  have fmi1 : 0 ≤ mi := by omega
  have e1 : 64 ≤ mi := by omega
  have hb0 : Below w.heap.size w (w.alloc (.cells #[.int .i64 ht, .int .i64 mi, .string ⟨tk.toArray⟩, .int .i64 wi, .int .u64 (pw : Int), .slice ao n cap, .int .i64 sa] 41)) := (Below.refl _ w).alloc (Nat.le_refl _) _
  clear g0 g1 g2 g3 g4
  go_enter Tryz.func47, Tryz.ntmps47
  go_wp2_with fail
  go_ret
  exact ⟨rfl, hb0⟩
set_option maxRecDepth 20000 in
set_option maxHeartbeats 2000000 in
theorem hchk_tk1 (h : Hd Nm) (ao : Option Addr) (cap : Nat) (w : World) (hL : Rd encN w ao h.ps) (l n : Nat) (hl : l = h.tk.length) (hn : n = h.ps.length) (R : Bool) (hR : R = rs (h.ps.map (·.1)) (n - 1)) (g0 : ¬ 5 < n) (g1 : ¬ h.ht < 1) (g2 : ¬ 1073741824 < h.ht) (g3 : ¬ h.mi < 0) (g4 : ¬ 64 ≤ h.mi) (g5 : l < 1) :
    Calls Tryz.prog 47 #[.agg (hcells h ao cap)] w fun r w' => r = .returned (.int .i64 1) ∧ Below w.heap.size w w' := by
  obtain ⟨ht, mi, tk, wi, pw, ps, sa⟩ := h
  simp only at *
  unfold hcells
  simp only
  rw [← hn]
  have hsz : (ByteArray.mk tk.toArray).size = l := hl.symm
  have Hris : Hid (∀ w', Below w.heap.size w w' → n ≤ 1000000 → Calls Tryz.prog 62 #[.slice ao n cap] w' fun r w'' => r = .returned (.bool R) ∧ Below w'.heap.size w' w'') := Lib.hid (fun w' hb h6 => by
    have := rising_any ao cap ps w' (hL.old hb) (by omega)
    rw [← hn, ← hR] at this; exact this)
  clear hl hL hn hR
  have f5 : (n : Int) ≤ 5 := by omega
  have f5' : n ≤ 5 := by omega
  have fht1 : 1 ≤ ht := by omega
  have fht2 : ht ≤ 1073741824 := by omega
  have fmi1 : 0 ≤ mi := by omega
  have fmi2 : mi ≤ 63 := by omega
  have e1 : (l : Int) < 1 := by omega
  have e2 : l = 0 := by omega
  have hb0 : Below w.heap.size w (w.alloc (.cells #[.int .i64 ht, .int .i64 mi, .string ⟨tk.toArray⟩, .int .i64 wi, .int .u64 (pw : Int), .slice ao n cap, .int .i64 sa] 41)) := (Below.refl _ w).alloc (Nat.le_refl _) _
  clear g0 g1 g2 g3 g4 g5
  go_enter Tryz.func47, Tryz.ntmps47
  go_wp2_with fail
  go_ret
  exact ⟨rfl, hb0⟩
set_option maxRecDepth 20000 in
set_option maxHeartbeats 2000000 in
theorem hchk_tk2 (h : Hd Nm) (ao : Option Addr) (cap : Nat) (w : World) (hL : Rd encN w ao h.ps) (l n : Nat) (hl : l = h.tk.length) (hn : n = h.ps.length) (R : Bool) (hR : R = rs (h.ps.map (·.1)) (n - 1)) (g0 : ¬ 5 < n) (g1 : ¬ h.ht < 1) (g2 : ¬ 1073741824 < h.ht) (g3 : ¬ h.mi < 0) (g4 : ¬ 64 ≤ h.mi) (g5 : ¬ l < 1) (g6 : 8 < l) :
    Calls Tryz.prog 47 #[.agg (hcells h ao cap)] w fun r w' => r = .returned (.int .i64 1) ∧ Below w.heap.size w w' := by
  obtain ⟨ht, mi, tk, wi, pw, ps, sa⟩ := h
  simp only at *
  unfold hcells
  simp only
  rw [← hn]
  have hsz : (ByteArray.mk tk.toArray).size = l := hl.symm
  have Hris : Hid (∀ w', Below w.heap.size w w' → n ≤ 1000000 → Calls Tryz.prog 62 #[.slice ao n cap] w' fun r w'' => r = .returned (.bool R) ∧ Below w'.heap.size w' w'') := Lib.hid (fun w' hb h6 => by
    have := rising_any ao cap ps w' (hL.old hb) (by omega)
    rw [← hn, ← hR] at this; exact this)
  clear hl hL hn hR
  have f5 : (n : Int) ≤ 5 := by omega
  have f5' : n ≤ 5 := by omega
  have fht1 : 1 ≤ ht := by omega
  have fht2 : ht ≤ 1073741824 := by omega
  have fmi1 : 0 ≤ mi := by omega
  have fmi2 : mi ≤ 63 := by omega
  have ftk1 : 1 ≤ (l : Int) := by omega
  have ftk3 : 0 < l := by omega
  have ftk4 : l ≠ 0 := by omega
  have e1 : 8 < (l : Int) := by omega
  have e2 : 8 < l := by omega
  have hb0 : Below w.heap.size w (w.alloc (.cells #[.int .i64 ht, .int .i64 mi, .string ⟨tk.toArray⟩, .int .i64 wi, .int .u64 (pw : Int), .slice ao n cap, .int .i64 sa] 41)) := (Below.refl _ w).alloc (Nat.le_refl _) _
  clear g0 g1 g2 g3 g4 g5 g6
  go_enter Tryz.func47, Tryz.ntmps47
  go_wp2_with fail
  go_ret
  exact ⟨rfl, hb0⟩
set_option maxRecDepth 20000 in
set_option maxHeartbeats 2000000 in
theorem hchk_wi1 (h : Hd Nm) (ao : Option Addr) (cap : Nat) (w : World) (hL : Rd encN w ao h.ps) (l n : Nat) (hl : l = h.tk.length) (hn : n = h.ps.length) (R : Bool) (hR : R = rs (h.ps.map (·.1)) (n - 1)) (g0 : ¬ 5 < n) (g1 : ¬ h.ht < 1) (g2 : ¬ 1073741824 < h.ht) (g3 : ¬ h.mi < 0) (g4 : ¬ 64 ≤ h.mi) (g5 : ¬ l < 1) (g6 : ¬ 8 < l) (g7 : h.wi < 1) :
    Calls Tryz.prog 47 #[.agg (hcells h ao cap)] w fun r w' => r = .returned (.int .i64 1) ∧ Below w.heap.size w w' := by
  obtain ⟨ht, mi, tk, wi, pw, ps, sa⟩ := h
  simp only at *
  unfold hcells
  simp only
  rw [← hn]
  have hsz : (ByteArray.mk tk.toArray).size = l := hl.symm
  have Hris : Hid (∀ w', Below w.heap.size w w' → n ≤ 1000000 → Calls Tryz.prog 62 #[.slice ao n cap] w' fun r w'' => r = .returned (.bool R) ∧ Below w'.heap.size w' w'') := Lib.hid (fun w' hb h6 => by
    have := rising_any ao cap ps w' (hL.old hb) (by omega)
    rw [← hn, ← hR] at this; exact this)
  clear hl hL hn hR
  have f5 : (n : Int) ≤ 5 := by omega
  have f5' : n ≤ 5 := by omega
  have fht1 : 1 ≤ ht := by omega
  have fht2 : ht ≤ 1073741824 := by omega
  have fmi1 : 0 ≤ mi := by omega
  have fmi2 : mi ≤ 63 := by omega
  have ftk1 : 1 ≤ (l : Int) := by omega
  have ftk2 : (l : Int) ≤ 8 := by omega
  have ftk3 : 0 < l := by omega
  have ftk4 : l ≠ 0 := by omega
  have ftk5 : l ≤ 8 := by omega
  have e1 : wi < 1 := by omega
  have hb0 : Below w.heap.size w (w.alloc (.cells #[.int .i64 ht, .int .i64 mi, .string ⟨tk.toArray⟩, .int .i64 wi, .int .u64 (pw : Int), .slice ao n cap, .int .i64 sa] 41)) := (Below.refl _ w).alloc (Nat.le_refl _) _
  clear g0 g1 g2 g3 g4 g5 g6 g7
  go_enter Tryz.func47, Tryz.ntmps47
  go_wp2_with fail
  go_ret
  exact ⟨rfl, hb0⟩
set_option maxRecDepth 20000 in
set_option maxHeartbeats 2000000 in
theorem hchk_wi2 (h : Hd Nm) (ao : Option Addr) (cap : Nat) (w : World) (hL : Rd encN w ao h.ps) (l n : Nat) (hl : l = h.tk.length) (hn : n = h.ps.length) (R : Bool) (hR : R = rs (h.ps.map (·.1)) (n - 1)) (g0 : ¬ 5 < n) (g1 : ¬ h.ht < 1) (g2 : ¬ 1073741824 < h.ht) (g3 : ¬ h.mi < 0) (g4 : ¬ 64 ≤ h.mi) (g5 : ¬ l < 1) (g6 : ¬ 8 < l) (g7 : ¬ h.wi < 1) (g8 : 15 < h.wi) :
    Calls Tryz.prog 47 #[.agg (hcells h ao cap)] w fun r w' => r = .returned (.int .i64 1) ∧ Below w.heap.size w w' := by
  obtain ⟨ht, mi, tk, wi, pw, ps, sa⟩ := h
  simp only at *
  unfold hcells
  simp only
  rw [← hn]
  have hsz : (ByteArray.mk tk.toArray).size = l := hl.symm
  have Hris : Hid (∀ w', Below w.heap.size w w' → n ≤ 1000000 → Calls Tryz.prog 62 #[.slice ao n cap] w' fun r w'' => r = .returned (.bool R) ∧ Below w'.heap.size w' w'') := Lib.hid (fun w' hb h6 => by
    have := rising_any ao cap ps w' (hL.old hb) (by omega)
    rw [← hn, ← hR] at this; exact this)
  clear hl hL hn hR
  have f5 : (n : Int) ≤ 5 := by omega
  have f5' : n ≤ 5 := by omega
  have fht1 : 1 ≤ ht := by omega
  have fht2 : ht ≤ 1073741824 := by omega
  have fmi1 : 0 ≤ mi := by omega
  have fmi2 : mi ≤ 63 := by omega
  have ftk1 : 1 ≤ (l : Int) := by omega
  have ftk2 : (l : Int) ≤ 8 := by omega
  have ftk3 : 0 < l := by omega
  have ftk4 : l ≠ 0 := by omega
  have ftk5 : l ≤ 8 := by omega
  have fwi1 : 1 ≤ wi := by omega
  have e1 : 15 < wi := by omega
  have hb0 : Below w.heap.size w (w.alloc (.cells #[.int .i64 ht, .int .i64 mi, .string ⟨tk.toArray⟩, .int .i64 wi, .int .u64 (pw : Int), .slice ao n cap, .int .i64 sa] 41)) := (Below.refl _ w).alloc (Nat.le_refl _) _
  clear g0 g1 g2 g3 g4 g5 g6 g7 g8
  go_enter Tryz.func47, Tryz.ntmps47
  go_wp2_with fail
  go_ret
  exact ⟨rfl, hb0⟩
set_option maxRecDepth 20000 in
set_option maxHeartbeats 2000000 in
theorem hchk_pw1 (h : Hd Nm) (ao : Option Addr) (cap : Nat) (w : World) (hL : Rd encN w ao h.ps) (l n : Nat) (hl : l = h.tk.length) (hn : n = h.ps.length) (R : Bool) (hR : R = rs (h.ps.map (·.1)) (n - 1)) (g0 : ¬ 5 < n) (g1 : ¬ h.ht < 1) (g2 : ¬ 1073741824 < h.ht) (g3 : ¬ h.mi < 0) (g4 : ¬ 64 ≤ h.mi) (g5 : ¬ l < 1) (g6 : ¬ 8 < l) (g7 : ¬ h.wi < 1) (g8 : ¬ 15 < h.wi) (g9 : h.pw < 2) :
    Calls Tryz.prog 47 #[.agg (hcells h ao cap)] w fun r w' => r = .returned (.int .i64 1) ∧ Below w.heap.size w w' := by
  obtain ⟨ht, mi, tk, wi, pw, ps, sa⟩ := h
  simp only at *
  unfold hcells
  simp only
  rw [← hn]
  have hsz : (ByteArray.mk tk.toArray).size = l := hl.symm
  have Hris : Hid (∀ w', Below w.heap.size w w' → n ≤ 1000000 → Calls Tryz.prog 62 #[.slice ao n cap] w' fun r w'' => r = .returned (.bool R) ∧ Below w'.heap.size w' w'') := Lib.hid (fun w' hb h6 => by
    have := rising_any ao cap ps w' (hL.old hb) (by omega)
    rw [← hn, ← hR] at this; exact this)
  clear hl hL hn hR
  have f5 : (n : Int) ≤ 5 := by omega
  have f5' : n ≤ 5 := by omega
  have fht1 : 1 ≤ ht := by omega
  have fht2 : ht ≤ 1073741824 := by omega
  have fmi1 : 0 ≤ mi := by omega
  have fmi2 : mi ≤ 63 := by omega
  have ftk1 : 1 ≤ (l : Int) := by omega
  have ftk2 : (l : Int) ≤ 8 := by omega
  have ftk3 : 0 < l := by omega
  have ftk4 : l ≠ 0 := by omega
  have ftk5 : l ≤ 8 := by omega
  have fwi1 : 1 ≤ wi := by omega
  have fwi2 : wi ≤ 15 := by omega
  have e1 : (pw : Int) < 2 := by omega
  have hb0 : Below w.heap.size w (w.alloc (.cells #[.int .i64 ht, .int .i64 mi, .string ⟨tk.toArray⟩, .int .i64 wi, .int .u64 (pw : Int), .slice ao n cap, .int .i64 sa] 41)) := (Below.refl _ w).alloc (Nat.le_refl _) _
  clear g0 g1 g2 g3 g4 g5 g6 g7 g8 g9
  go_enter Tryz.func47, Tryz.ntmps47
  go_wp2_with fail
  go_ret
  exact ⟨rfl, hb0⟩
set_option maxRecDepth 20000 in
set_option maxHeartbeats 2000000 in
theorem hchk_pw2 (h : Hd Nm) (ao : Option Addr) (cap : Nat) (w : World) (hL : Rd encN w ao h.ps) (l n : Nat) (hl : l = h.tk.length) (hn : n = h.ps.length) (R : Bool) (hR : R = rs (h.ps.map (·.1)) (n - 1)) (g0 : ¬ 5 < n) (g1 : ¬ h.ht < 1) (g2 : ¬ 1073741824 < h.ht) (g3 : ¬ h.mi < 0) (g4 : ¬ 64 ≤ h.mi) (g5 : ¬ l < 1) (g6 : ¬ 8 < l) (g7 : ¬ h.wi < 1) (g8 : ¬ 15 < h.wi) (g9 : ¬ h.pw < 2) (g10 : 4611686018427387904 < h.pw) :
    Calls Tryz.prog 47 #[.agg (hcells h ao cap)] w fun r w' => r = .returned (.int .i64 1) ∧ Below w.heap.size w w' := by
  obtain ⟨ht, mi, tk, wi, pw, ps, sa⟩ := h
  simp only at *
  unfold hcells
  simp only
  rw [← hn]
  have hsz : (ByteArray.mk tk.toArray).size = l := hl.symm
  have Hris : Hid (∀ w', Below w.heap.size w w' → n ≤ 1000000 → Calls Tryz.prog 62 #[.slice ao n cap] w' fun r w'' => r = .returned (.bool R) ∧ Below w'.heap.size w' w'') := Lib.hid (fun w' hb h6 => by
    have := rising_any ao cap ps w' (hL.old hb) (by omega)
    rw [← hn, ← hR] at this; exact this)
  clear hl hL hn hR
  have f5 : (n : Int) ≤ 5 := by omega
  have f5' : n ≤ 5 := by omega
  have fht1 : 1 ≤ ht := by omega
  have fht2 : ht ≤ 1073741824 := by omega
  have fmi1 : 0 ≤ mi := by omega
  have fmi2 : mi ≤ 63 := by omega
  have ftk1 : 1 ≤ (l : Int) := by omega
  have ftk2 : (l : Int) ≤ 8 := by omega
  have ftk3 : 0 < l := by omega
  have ftk4 : l ≠ 0 := by omega
  have ftk5 : l ≤ 8 := by omega
  have fwi1 : 1 ≤ wi := by omega
  have fwi2 : wi ≤ 15 := by omega
  have fpw1 : 2 ≤ (pw : Int) := by omega
  have e1 : 4611686018427387904 < (pw : Int) := by omega
  have hb0 : Below w.heap.size w (w.alloc (.cells #[.int .i64 ht, .int .i64 mi, .string ⟨tk.toArray⟩, .int .i64 wi, .int .u64 (pw : Int), .slice ao n cap, .int .i64 sa] 41)) := (Below.refl _ w).alloc (Nat.le_refl _) _
  clear g0 g1 g2 g3 g4 g5 g6 g7 g8 g9 g10
  go_enter Tryz.func47, Tryz.ntmps47
  go_wp2_with fail
  go_ret
  exact ⟨rfl, hb0⟩
set_option maxRecDepth 20000 in
set_option maxHeartbeats 2000000 in
theorem hchk_ps1 (h : Hd Nm) (ao : Option Addr) (cap : Nat) (w : World) (hL : Rd encN w ao h.ps) (l n : Nat) (hl : l = h.tk.length) (hn : n = h.ps.length) (R : Bool) (hR : R = rs (h.ps.map (·.1)) (n - 1)) (g0 : ¬ 5 < n) (g1 : ¬ h.ht < 1) (g2 : ¬ 1073741824 < h.ht) (g3 : ¬ h.mi < 0) (g4 : ¬ 64 ≤ h.mi) (g5 : ¬ l < 1) (g6 : ¬ 8 < l) (g7 : ¬ h.wi < 1) (g8 : ¬ 15 < h.wi) (g9 : ¬ h.pw < 2) (g10 : ¬ 4611686018427387904 < h.pw) (g11 : n < 1) :
    Calls Tryz.prog 47 #[.agg (hcells h ao cap)] w fun r w' => r = .returned (.int .i64 1) ∧ Below w.heap.size w w' := by
  obtain ⟨ht, mi, tk, wi, pw, ps, sa⟩ := h
  simp only at *
  unfold hcells
  simp only
  rw [← hn]
  have hsz : (ByteArray.mk tk.toArray).size = l := hl.symm
  have Hris : Hid (∀ w', Below w.heap.size w w' → n ≤ 1000000 → Calls Tryz.prog 62 #[.slice ao n cap] w' fun r w'' => r = .returned (.bool R) ∧ Below w'.heap.size w' w'') := Lib.hid (fun w' hb h6 => by
    have := rising_any ao cap ps w' (hL.old hb) (by omega)
    rw [← hn, ← hR] at this; exact this)
  clear hl hL hn hR
  have f5 : (n : Int) ≤ 5 := by omega
  have f5' : n ≤ 5 := by omega
  have fht1 : 1 ≤ ht := by omega
  have fht2 : ht ≤ 1073741824 := by omega
  have fmi1 : 0 ≤ mi := by omega
  have fmi2 : mi ≤ 63 := by omega
  have ftk1 : 1 ≤ (l : Int) := by omega
  have ftk2 : (l : Int) ≤ 8 := by omega
  have ftk3 : 0 < l := by omega
  have ftk4 : l ≠ 0 := by omega
  have ftk5 : l ≤ 8 := by omega
  have fwi1 : 1 ≤ wi := by omega
  have fwi2 : wi ≤ 15 := by omega
  have fpw1 : 2 ≤ (pw : Int) := by omega
  have fpw2 : (pw : Int) ≤ 4611686018427387904 := by omega
  have e1 : (n : Int) < 1 := by omega
  have e2 : n < 1 := by omega
  have hb0 : Below w.heap.size w (w.alloc (.cells #[.int .i64 ht, .int .i64 mi, .string ⟨tk.toArray⟩, .int .i64 wi, .int .u64 (pw : Int), .slice ao n cap, .int .i64 sa] 41)) := (Below.refl _ w).alloc (Nat.le_refl _) _
  clear g0 g1 g2 g3 g4 g5 g6 g7 g8 g9 g10 g11
  go_enter Tryz.func47, Tryz.ntmps47
  go_wp2_with fail
  go_ret
  exact ⟨rfl, hb0⟩
set_option maxRecDepth 20000 in
set_option maxHeartbeats 2000000 in
theorem hchk_ps2 (h : Hd Nm) (ao : Option Addr) (cap : Nat) (w : World) (hL : Rd encN w ao h.ps) (l n : Nat) (hl : l = h.tk.length) (hn : n = h.ps.length) (R : Bool) (hR : R = rs (h.ps.map (·.1)) (n - 1)) (g0 : ¬ 5 < n) (g1 : ¬ h.ht < 1) (g2 : ¬ 1073741824 < h.ht) (g3 : ¬ h.mi < 0) (g4 : ¬ 64 ≤ h.mi) (g5 : ¬ l < 1) (g6 : ¬ 8 < l) (g7 : ¬ h.wi < 1) (g8 : ¬ 15 < h.wi) (g9 : ¬ h.pw < 2) (g10 : ¬ 4611686018427387904 < h.pw) (g11 : ¬ n < 1) (g12 : R = false) :
    Calls Tryz.prog 47 #[.agg (hcells h ao cap)] w fun r w' => r = .returned (.int .i64 1) ∧ Below w.heap.size w w' := by
  obtain ⟨ht, mi, tk, wi, pw, ps, sa⟩ := h
  simp only at *
  unfold hcells
  simp only
  rw [← hn]
  have hsz : (ByteArray.mk tk.toArray).size = l := hl.symm
  have Hris : Hid (∀ w', Below w.heap.size w w' → n ≤ 1000000 → Calls Tryz.prog 62 #[.slice ao n cap] w' fun r w'' => r = .returned (.bool R) ∧ Below w'.heap.size w' w'') := Lib.hid (fun w' hb h6 => by
    have := rising_any ao cap ps w' (hL.old hb) (by omega)
    rw [← hn, ← hR] at this; exact this)
  clear hl hL hn hR
  have f5 : (n : Int) ≤ 5 := by omega
  have f5' : n ≤ 5 := by omega
  have fht1 : 1 ≤ ht := by omega
  have fht2 : ht ≤ 1073741824 := by omega
  have fmi1 : 0 ≤ mi := by omega
  have fmi2 : mi ≤ 63 := by omega
  have ftk1 : 1 ≤ (l : Int) := by omega
  have ftk2 : (l : Int) ≤ 8 := by omega
  have ftk3 : 0 < l := by omega
  have ftk4 : l ≠ 0 := by omega
  have ftk5 : l ≤ 8 := by omega
  have fwi1 : 1 ≤ wi := by omega
  have fwi2 : wi ≤ 15 := by omega
  have fpw1 : 2 ≤ (pw : Int) := by omega
  have fpw2 : (pw : Int) ≤ 4611686018427387904 := by omega
  have fps1 : 1 ≤ (n : Int) := by omega
  have fps2 : 0 < n := by omega
  have fps3 : n ≠ 0 := by omega
  subst g12
  have hb0 : Below w.heap.size w (w.alloc (.cells #[.int .i64 ht, .int .i64 mi, .string ⟨tk.toArray⟩, .int .i64 wi, .int .u64 (pw : Int), .slice ao n cap, .int .i64 sa] 41)) := (Below.refl _ w).alloc (Nat.le_refl _) _
  clear g0 g1 g2 g3 g4 g5 g6 g7 g8 g9 g10 g11
  have Hr := Hris.out _ hb0 (by omega)
  have HB0 := Lib.hid hb0
  clear hb0
  go_enter Tryz.func47, Tryz.ntmps47
  go_wp2_with fail
  refine Hr.mono ?_
  rintro r w1 ⟨rfl, hb1⟩
  have hB1 := Lib.hid (HB0.out.trans (hb1.mono HB0.out.size))
  clear hb1 Hr
  go_wp2_with fail
  go_ret
  exact ⟨rfl, hB1.out⟩
set_option maxRecDepth 20000 in
set_option maxHeartbeats 2000000 in
theorem hchk_sa1 (h : Hd Nm) (ao : Option Addr) (cap : Nat) (w : World) (hL : Rd encN w ao h.ps) (l n : Nat) (hl : l = h.tk.length) (hn : n = h.ps.length) (R : Bool) (hR : R = rs (h.ps.map (·.1)) (n - 1)) (g0 : ¬ 5 < n) (g1 : ¬ h.ht < 1) (g2 : ¬ 1073741824 < h.ht) (g3 : ¬ h.mi < 0) (g4 : ¬ 64 ≤ h.mi) (g5 : ¬ l < 1) (g6 : ¬ 8 < l) (g7 : ¬ h.wi < 1) (g8 : ¬ 15 < h.wi) (g9 : ¬ h.pw < 2) (g10 : ¬ 4611686018427387904 < h.pw) (g11 : ¬ n < 1) (g12 : R = true) (g13 : h.sa < 0) :
    Calls Tryz.prog 47 #[.agg (hcells h ao cap)] w fun r w' => r = .returned (.int .i64 1) ∧ Below w.heap.size w w' := by
  obtain ⟨ht, mi, tk, wi, pw, ps, sa⟩ := h
  simp only at *
  unfold hcells
  simp only
  rw [← hn]
  have hsz : (ByteArray.mk tk.toArray).size = l := hl.symm
  have Hris : Hid (∀ w', Below w.heap.size w w' → n ≤ 1000000 → Calls Tryz.prog 62 #[.slice ao n cap] w' fun r w'' => r = .returned (.bool R) ∧ Below w'.heap.size w' w'') := Lib.hid (fun w' hb h6 => by
    have := rising_any ao cap ps w' (hL.old hb) (by omega)
    rw [← hn, ← hR] at this; exact this)
  clear hl hL hn hR
  have f5 : (n : Int) ≤ 5 := by omega
  have f5' : n ≤ 5 := by omega
  have fht1 : 1 ≤ ht := by omega
  have fht2 : ht ≤ 1073741824 := by omega
  have fmi1 : 0 ≤ mi := by omega
  have fmi2 : mi ≤ 63 := by omega
  have ftk1 : 1 ≤ (l : Int) := by omega
  have ftk2 : (l : Int) ≤ 8 := by omega
  have ftk3 : 0 < l := by omega
  have ftk4 : l ≠ 0 := by omega
  have ftk5 : l ≤ 8 := by omega
  have fwi1 : 1 ≤ wi := by omega
  have fwi2 : wi ≤ 15 := by omega
  have fpw1 : 2 ≤ (pw : Int) := by omega
  have fpw2 : (pw : Int) ≤ 4611686018427387904 := by omega
  have fps1 : 1 ≤ (n : Int) := by omega
  have fps2 : 0 < n := by omega
  have fps3 : n ≠ 0 := by omega
  subst g12
  have e1 : sa < 0 := by omega
  have hb0 : Below w.heap.size w (w.alloc (.cells #[.int .i64 ht, .int .i64 mi, .string ⟨tk.toArray⟩, .int .i64 wi, .int .u64 (pw : Int), .slice ao n cap, .int .i64 sa] 41)) := (Below.refl _ w).alloc (Nat.le_refl _) _
  clear g0 g1 g2 g3 g4 g5 g6 g7 g8 g9 g10 g11 g13
  have Hr := Hris.out _ hb0 (by omega)
  have HB0 := Lib.hid hb0
  clear hb0
  go_enter Tryz.func47, Tryz.ntmps47
  go_wp2_with fail
  refine Hr.mono ?_
  rintro r w1 ⟨rfl, hb1⟩
  obtain ⟨hcl, hfz⟩ := bcellH hb1
  have hB1 := Lib.hid (HB0.out.trans (hb1.mono HB0.out.size))
  clear hb1 Hr
  go_wp2_with fail
  go_ret
  exact ⟨rfl, hB1.out⟩
set_option maxRecDepth 20000 in
set_option maxHeartbeats 2000000 in
theorem hchk_sa2 (h : Hd Nm) (ao : Option Addr) (cap : Nat) (w : World) (hL : Rd encN w ao h.ps) (l n : Nat) (hl : l = h.tk.length) (hn : n = h.ps.length) (R : Bool) (hR : R = rs (h.ps.map (·.1)) (n - 1)) (g0 : ¬ 5 < n) (g1 : ¬ h.ht < 1) (g2 : ¬ 1073741824 < h.ht) (g3 : ¬ h.mi < 0) (g4 : ¬ 64 ≤ h.mi) (g5 : ¬ l < 1) (g6 : ¬ 8 < l) (g7 : ¬ h.wi < 1) (g8 : ¬ 15 < h.wi) (g9 : ¬ h.pw < 2) (g10 : ¬ 4611686018427387904 < h.pw) (g11 : ¬ n < 1) (g12 : R = true) (g13 : ¬ h.sa < 0) (g14 : 1073741824 < h.sa) :
    Calls Tryz.prog 47 #[.agg (hcells h ao cap)] w fun r w' => r = .returned (.int .i64 1) ∧ Below w.heap.size w w' := by
  obtain ⟨ht, mi, tk, wi, pw, ps, sa⟩ := h
  simp only at *
  unfold hcells
  simp only
  rw [← hn]
  have hsz : (ByteArray.mk tk.toArray).size = l := hl.symm
  have Hris : Hid (∀ w', Below w.heap.size w w' → n ≤ 1000000 → Calls Tryz.prog 62 #[.slice ao n cap] w' fun r w'' => r = .returned (.bool R) ∧ Below w'.heap.size w' w'') := Lib.hid (fun w' hb h6 => by
    have := rising_any ao cap ps w' (hL.old hb) (by omega)
    rw [← hn, ← hR] at this; exact this)
  clear hl hL hn hR
  have f5 : (n : Int) ≤ 5 := by omega
  have f5' : n ≤ 5 := by omega
  have fht1 : 1 ≤ ht := by omega
  have fht2 : ht ≤ 1073741824 := by omega
  have fmi1 : 0 ≤ mi := by omega
  have fmi2 : mi ≤ 63 := by omega
  have ftk1 : 1 ≤ (l : Int) := by omega
  have ftk2 : (l : Int) ≤ 8 := by omega
  have ftk3 : 0 < l := by omega
  have ftk4 : l ≠ 0 := by omega
  have ftk5 : l ≤ 8 := by omega
  have fwi1 : 1 ≤ wi := by omega
  have fwi2 : wi ≤ 15 := by omega
  have fpw1 : 2 ≤ (pw : Int) := by omega
  have fpw2 : (pw : Int) ≤ 4611686018427387904 := by omega
  have fps1 : 1 ≤ (n : Int) := by omega
  have fps2 : 0 < n := by omega
  have fps3 : n ≠ 0 := by omega
  subst g12
  have fsa1 : 0 ≤ sa := by omega
  have e1 : 1073741824 < sa := by omega
  have hb0 : Below w.heap.size w (w.alloc (.cells #[.int .i64 ht, .int .i64 mi, .string ⟨tk.toArray⟩, .int .i64 wi, .int .u64 (pw : Int), .slice ao n cap, .int .i64 sa] 41)) := (Below.refl _ w).alloc (Nat.le_refl _) _
  clear g0 g1 g2 g3 g4 g5 g6 g7 g8 g9 g10 g11 g13 g14
  have Hr := Hris.out _ hb0 (by omega)
  have HB0 := Lib.hid hb0
  clear hb0
  go_enter Tryz.func47, Tryz.ntmps47
  go_wp2_with fail
  refine Hr.mono ?_
  rintro r w1 ⟨rfl, hb1⟩
  obtain ⟨hcl, hfz⟩ := bcellH hb1
  have hB1 := Lib.hid (HB0.out.trans (hb1.mono HB0.out.size))
  clear hb1 Hr
  go_wp2_with fail
  go_ret
  exact ⟨rfl, hB1.out⟩
set_option maxRecDepth 20000 in
set_option maxHeartbeats 2000000 in
theorem hchk_ok (h : Hd Nm) (ao : Option Addr) (cap : Nat) (w : World) (hL : Rd encN w ao h.ps) (l n : Nat) (hl : l = h.tk.length) (hn : n = h.ps.length) (R : Bool) (hR : R = rs (h.ps.map (·.1)) (n - 1)) (g0 : ¬ 5 < n) (g1 : ¬ h.ht < 1) (g2 : ¬ 1073741824 < h.ht) (g3 : ¬ h.mi < 0) (g4 : ¬ 64 ≤ h.mi) (g5 : ¬ l < 1) (g6 : ¬ 8 < l) (g7 : ¬ h.wi < 1) (g8 : ¬ 15 < h.wi) (g9 : ¬ h.pw < 2) (g10 : ¬ 4611686018427387904 < h.pw) (g11 : ¬ n < 1) (g12 : R = true) (g13 : ¬ h.sa < 0) (g14 : ¬ 1073741824 < h.sa) :
    Calls Tryz.prog 47 #[.agg (hcells h ao cap)] w fun r w' => r = .returned (.int .i64 0) ∧ Below w.heap.size w w' := by
  obtain ⟨ht, mi, tk, wi, pw, ps, sa⟩ := h
  simp only at *
  unfold hcells
  simp only
  rw [← hn]
  have hsz : (ByteArray.mk tk.toArray).size = l := hl.symm
  have Hris : Hid (∀ w', Below w.heap.size w w' → n ≤ 1000000 → Calls Tryz.prog 62 #[.slice ao n cap] w' fun r w'' => r = .returned (.bool R) ∧ Below w'.heap.size w' w'') := Lib.hid (fun w' hb h6 => by
    have := rising_any ao cap ps w' (hL.old hb) (by omega)
    rw [← hn, ← hR] at this; exact this)
  clear hl hL hn hR
  have f5 : (n : Int) ≤ 5 := by omega
  have f5' : n ≤ 5 := by omega
  have fht1 : 1 ≤ ht := by omega
  have fht2 : ht ≤ 1073741824 := by omega
  have fmi1 : 0 ≤ mi := by omega
  have fmi2 : mi ≤ 63 := by omega
  have ftk1 : 1 ≤ (l : Int) := by omega
  have ftk2 : (l : Int) ≤ 8 := by omega
  have ftk3 : 0 < l := by omega
  have ftk4 : l ≠ 0 := by omega
  have ftk5 : l ≤ 8 := by omega
  have fwi1 : 1 ≤ wi := by omega
  have fwi2 : wi ≤ 15 := by omega
  have fpw1 : 2 ≤ (pw : Int) := by omega
  have fpw2 : (pw : Int) ≤ 4611686018427387904 := by omega
  have fps1 : 1 ≤ (n : Int) := by omega
  have fps2 : 0 < n := by omega
  have fps3 : n ≠ 0 := by omega
  subst g12
  have fsa1 : 0 ≤ sa := by omega
  have fsa2 : sa ≤ 1073741824 := by omega
  have hb0 : Below w.heap.size w (w.alloc (.cells #[.int .i64 ht, .int .i64 mi, .string ⟨tk.toArray⟩, .int .i64 wi, .int .u64 (pw : Int), .slice ao n cap, .int .i64 sa] 41)) := (Below.refl _ w).alloc (Nat.le_refl _) _
  clear g0 g1 g2 g3 g4 g5 g6 g7 g8 g9 g10 g11 g13 g14
  have Hr := Hris.out _ hb0 (by omega)
  have HB0 := Lib.hid hb0
  clear hb0
  go_enter Tryz.func47, Tryz.ntmps47
  go_wp2_with fail
  refine Hr.mono ?_
  rintro r w1 ⟨rfl, hb1⟩
  obtain ⟨hcl, hfz⟩ := bcellH hb1
  have hB1 := Lib.hid (HB0.out.trans (hb1.mono HB0.out.size))
  clear hb1 Hr
  go_wp2_with fail
  go_ret
  exact ⟨rfl, hB1.out⟩
theorem hcheck_any (h : Hd Nm) (ao : Option Addr) (cap : Nat) (w : World) (hL : Rd encN w ao h.ps) :
    Calls Tryz.prog 47 #[.agg (hcells h ao cap)] w fun r w' => r = .returned (.int .i64 (chk h (rs (h.ps.map (·.1)) (h.ps.length - 1)))) ∧ Below w.heap.size w w' := by
  obtain ⟨l, hl⟩ : ∃ l, l = h.tk.length := ⟨_, rfl⟩
  obtain ⟨n, hn⟩ : ∃ n, n = h.ps.length := ⟨_, rfl⟩
  obtain ⟨R, hR⟩ : ∃ R, R = rs (h.ps.map (·.1)) (n - 1) := ⟨_, rfl⟩
  rw [← hn, ← hR]
  unfold chk
  rw [← hl, ← hn]
  by_cases g0 : 5 < n
  · rw [if_pos g0]; exact hchk_big h ao cap w hL l n hl hn R hR g0
  rw [if_neg g0]
  by_cases g1 : h.ht < 1
  · rw [if_pos (.inl (.inl g1))]; exact hchk_ht1 h ao cap w hL l n hl hn R hR g0 g1
  by_cases g2 : 1073741824 < h.ht
  · rw [if_pos (.inl (.inr g2))]; exact hchk_ht2 h ao cap w hL l n hl hn R hR g0 g1 g2
  by_cases g3 : h.mi < 0
  · rw [if_pos (.inr (.inl (.inl g3)))]; exact hchk_mi1 h ao cap w hL l n hl hn R hR g0 g1 g2 g3
  by_cases g4 : 64 ≤ h.mi
  · rw [if_pos (.inr (.inl (.inr g4)))]; exact hchk_mi2 h ao cap w hL l n hl hn R hR g0 g1 g2 g3 g4
  by_cases g5 : l < 1
  · rw [if_pos (.inr (.inr (.inl (.inl g5))))]; exact hchk_tk1 h ao cap w hL l n hl hn R hR g0 g1 g2 g3 g4 g5
  by_cases g6 : 8 < l
  · rw [if_pos (.inr (.inr (.inl (.inr g6))))]; exact hchk_tk2 h ao cap w hL l n hl hn R hR g0 g1 g2 g3 g4 g5 g6
  by_cases g7 : h.wi < 1
  · rw [if_pos (.inr (.inr (.inr (.inl (.inl g7)))))]; exact hchk_wi1 h ao cap w hL l n hl hn R hR g0 g1 g2 g3 g4 g5 g6 g7
  by_cases g8 : 15 < h.wi
  · rw [if_pos (.inr (.inr (.inr (.inl (.inr g8)))))]; exact hchk_wi2 h ao cap w hL l n hl hn R hR g0 g1 g2 g3 g4 g5 g6 g7 g8
  by_cases g9 : h.pw < 2
  · rw [if_pos (.inr (.inr (.inr (.inr (.inl (.inl g9))))))]; exact hchk_pw1 h ao cap w hL l n hl hn R hR g0 g1 g2 g3 g4 g5 g6 g7 g8 g9
  by_cases g10 : 4611686018427387904 < h.pw
  · rw [if_pos (.inr (.inr (.inr (.inr (.inl (.inr g10))))))]; exact hchk_pw2 h ao cap w hL l n hl hn R hR g0 g1 g2 g3 g4 g5 g6 g7 g8 g9 g10
  by_cases g11 : n < 1
  · rw [if_pos (.inr (.inr (.inr (.inr (.inr (.inl (.inl g11)))))))]; exact hchk_ps1 h ao cap w hL l n hl hn R hR g0 g1 g2 g3 g4 g5 g6 g7 g8 g9 g10 g11
  by_cases g12 : R = false
  · rw [if_pos (.inr (.inr (.inr (.inr (.inr (.inl (.inr g12)))))))]; exact hchk_ps2 h ao cap w hL l n hl hn R hR g0 g1 g2 g3 g4 g5 g6 g7 g8 g9 g10 g11 g12
  rw [Bool.not_eq_false] at g12
  by_cases g13 : h.sa < 0
  · rw [if_pos (.inr (.inr (.inr (.inr (.inr (.inr (.inl g13)))))))]; exact hchk_sa1 h ao cap w hL l n hl hn R hR g0 g1 g2 g3 g4 g5 g6 g7 g8 g9 g10 g11 g12 g13
  by_cases g14 : 1073741824 < h.sa
  · rw [if_pos (.inr (.inr (.inr (.inr (.inr (.inr (.inr g14)))))))]; exact hchk_sa2 h ao cap w hL l n hl hn R hR g0 g1 g2 g3 g4 g5 g6 g7 g8 g9 g10 g11 g12 g13 g14
  rw [if_neg (by rintro (x | x | x | x | x | x | x) <;> rcases x with x | x <;> first | exact absurd x (by assumption) | (have g := g12; rw [x] at g; cases g))]
  exact hchk_ok h ao cap w hL l n hl hn R hR g0 g1 g2 g3 g4 g5 g6 g7 g8 g9 g10 g11 g12 g13 g14
end Go.Proofs.YtemnebbdaljfbaaGreatDoor

namespace Go.Proofs.YtemnebbdaljfbaaGreatDoor
open Go.RowKit

/-- Out at b, made at world W0's end, holds bs; nothing below it has turned since. -/
def OutSt (W0 : World) (b : Nat) (bs : List UInt8) (w : World) : Prop :=
  ∃ v, OutAt 146 5 w b v bs ∧ (∀ j, v.ownBlock = some j → b < j) ∧ Below b W0 w
theorem OutSt.made (W0 : World) : OutSt W0 W0.heap.size [] (W0.alloc (.cells #[.slice none 0 0] 146)) :=
  ⟨.slice none 0 0, OutAt.fresh W0, (fun j h => by simp [Value.ownBlock] at h), (Below.refl _ _).alloc (Nat.le_refl _) _⟩
theorem OutSt.lt {W0 w : World} {b : Nat} {bs : List UInt8} (h : OutSt W0 b bs w) : b < w.heap.size := by obtain ⟨v, h1, _, _⟩ := h; exact h1.lt
theorem OutSt.below {W0 w : World} {b : Nat} {bs : List UInt8} (h : OutSt W0 b bs w) : Below b W0 w := by obtain ⟨v, _, _, h3⟩ := h; exact h3
theorem OutAt.ownlt {T E : TypeId} {w : World} {b : Nat} {v : Value} {bs : List UInt8} (h : OutAt T E w b v bs) (k : Nat) (hk : v.ownBlock = some k) : k < w.heap.size := by
  rcases h.own.2 with ⟨rfl, _⟩ | ⟨g, cap, cur, rfl, _, hh, _⟩
  · simp [Value.ownBlock] at hk
  · simp [Value.ownBlock] at hk; subst hk; exact (Array.getElem?_eq_some_iff.1 hh).1
theorem OutSt.old {W0 w w' : World} {b : Nat} {bs : List UInt8} (h : OutSt W0 b bs w) (hb : Below w.heap.size w w') : OutSt W0 b bs w' := by
  obtain ⟨v, h1, h2, h3⟩ := h
  exact ⟨v, h1.kept (Mod.of_below hb) (by have := h1.lt; omega) (fun k hk => by have := h1.ownlt k hk; omega), h2, h3.trans (hb.mono (Nat.le_of_lt h1.lt))⟩
theorem OutSt.of_post {W0 w w' : World} {b : Nat} {v : Value} {bs bs' : List UInt8} {r : Ending} (hO : OutAt 146 5 w b v bs) (hv : ∀ j, v.ownBlock = some j → b < j) (hB : Below b W0 w) (h : NumPost b v bs' w r w') :
    r = .returned (.pointer (some ⟨b, 0, none⟩)) ∧ OutSt W0 b bs' w' := by
  obtain ⟨hr, v', hO', hM, hown⟩ := h
  refine ⟨hr, v', hO', ?_, hB.trans (hM.to_below (Nat.le_of_lt hO.lt) ?_)⟩
  · intro j hj
    rcases hown with h | h
    · exact hv j (h ▸ hj)
    · exact Nat.lt_of_lt_of_le hO.lt (h j hj)
  · rintro k hk (h | h)
    · omega
    · have := hv k h; omega
theorem out_num (W0 : World) (b : Nat) (bs : List UInt8) (x : Int) (w : World) (h : OutSt W0 b bs w) (hl : bs.length ≤ 1099511627776) (h0 : -9223372036854775808 ≤ x) (h1 : x ≤ 9223372036854775807) :
    Calls Tryz.prog 107 #[.pointer (some ⟨b, 0, none⟩), .int .i64 x] w fun r w' => r = .returned (.pointer (some ⟨b, 0, none⟩)) ∧ OutSt W0 b (bs ++ numL x) w' := by
  obtain ⟨v, hO, hv, hB⟩ := h
  exact (num_any x b v bs w h0 h1 hO hl).mono fun _ _ hp => OutSt.of_post hO hv hB hp
theorem out_raw (W0 : World) (b : Nat) (bs s : List UInt8) (w : World) (h : OutSt W0 b bs w) (hl : bs.length + s.length ≤ 1099511627776) :
    Calls Tryz.prog 110 #[.pointer (some ⟨b, 0, none⟩), .string ⟨s.toArray⟩] w fun r w' => r = .returned (.pointer (some ⟨b, 0, none⟩)) ∧ OutSt W0 b (bs ++ s) w' := by
  obtain ⟨v, hO, hv, hB⟩ := h
  exact (raw_any b v bs s w hO (by omega)).mono fun _ _ hp => OutSt.of_post hO hv hB hp
theorem out_text (W0 : World) (b : Nat) (bs s : List UInt8) (w : World) (h : OutSt W0 b bs w) (hl : bs.length ≤ 549755813888) (hs : s.length ≤ 549755813888) :
    Calls Tryz.prog 108 #[.pointer (some ⟨b, 0, none⟩), .string ⟨s.toArray⟩] w fun r w' => r = .returned (.pointer (some ⟨b, 0, none⟩)) ∧ OutSt W0 b (bs ++ (numL s.length ++ s)) w' := by
  obtain ⟨v, hO, hv, hB⟩ := h
  exact (text_any b v bs s w hO (by omega) hs).mono fun _ _ hp => OutSt.of_post hO hv hB hp
theorem out_bytes (W0 : World) (b : Nat) (bs : List UInt8) (w : World) (h : OutSt W0 b bs w) :
    Calls Tryz.prog 111 #[.pointer (some ⟨b, 0, none⟩)] w fun r w' => r = .returned (.string ⟨bs.toArray⟩) ∧ w = w' := by
  obtain ⟨v, hO, hv, hB⟩ := h
  exact bytes_any b v bs w hO
end Go.Proofs.YtemnebbdaljfbaaGreatDoor
