/- Texts 3: what the laws lean on. -/
import Derived.Test.YtippakeemfldfaaDoorU1
import Derived.Deep.AppendSrc
import Derived.Deep.AppendLies
import Derived.Test.YtippakeemfldfaaDoorU2
import Derived.BigQuiet
namespace Go.Proofs.YtippakeemfldfaaDoor
open Go.RowKit

theorem heap_setCells_at (g : Nat) (e : TypeId) : ∀ (vs : List Value) (o : Nat) (w : World) (cur : Array Value), w.heap[g]? = some (.cells cur e (0, 0)) → o + vs.length ≤ cur.size →
    (w.setCells g o vs).heap[g]? = some (.cells (cur.toList.take o ++ vs ++ cur.toList.drop (o + vs.length)).toArray e (0, 0))
  | [], o, w, cur, h, _ => by simp [World.setCells, h]
  | v :: vs, o, w, cur, h, hf => by
    simp only [List.length_cons] at hf
    have h1 := heap_setCell_same w g o cur e v h
    have ih := heap_setCells_at g e vs (o + 1) (w.setCell ⟨g, o, none⟩ v) (cur.setIfInBounds o v) h1 (by simp; omega)
    rw [World.setCells, ih]
    congr 3
    rw [Array.toList_setIfInBounds]
    have hl : o < cur.toList.length := by simp; omega
    rw [List.take_succ_eq_append_getElem (by simpa using hl)]
    simp only [List.getElem_set_self, List.take_set_of_le (Nat.le_refl o), List.drop_set_of_lt (show o < o + 1 + vs.length by omega), List.length_cons, List.append_assoc, List.cons_append, List.nil_append]
    rw [show o + (vs.length + 1) = o + 1 + vs.length by omega]

theorem grownBy_setCells (g : Nat) (vs : List Value) : ∀ (o : Nat) (w : World), w.grownBy (w.setCells g o vs) (some g) := by
  induction vs with
  | nil => intro o w; exact ⟨rfl, rfl, rfl, Nat.le_refl _, fun _ _ _ => rfl⟩
  | cons v vs ih =>
    intro o w
    have h := ih (o + 1) (w.setCell ⟨g, o, none⟩ v)
    refine ⟨h.os, h.tape, h.output, ?_, fun k hk hne => ?_⟩
    · exact Nat.le_trans (show w.heap.size ≤ (w.setCell ⟨g, o, none⟩ v).heap.size by simp [World.setCell]) h.size
    · refine (h.block k (by simpa [World.setCell] using hk) hne).trans ?_
      exact heap_setCell_other w ⟨g, o, none⟩ k v (fun e => hne (by simp [e]))

theorem run_append_src {P : Program} (w : World) (t tx ty e : TypeId) (i : TypeInfo) (z : Value) (size bytes : Nat) (ht : P.underlying t = some (.slice e)) (hi : P.info? e = some i) (hz : i.zero = some z)
    (hsize : i.size = size) (hby : i.bytes = bytes) (hzs : z.cells.size = size)
    (v : Value) (n : Nat) (xs : List Value) (hown : w.ownsRow 0 e size v n xs) (x : Value) (m : Nat) (news : List Value) (hs : Src P size tx x m news w)
    (h63 : n + m ≤ maxLen) (hbytes : (n + m) * bytes ≤ 140737488355328) :
    ∃ v' w', (Builtin.append_ #[t, tx] ty #[v, x]).run P w = .ok v' w' ∧ w'.ownsRow 0 e size v' (n + m) (xs ++ news) ∧ w.grownBy w' v.ownBlock ∧
      (v'.ownBlock = v.ownBlock ∨ v'.ownBlock = some w.heap.size) := by
  subst hsize
  subst hby
  have hlen : (xs ++ news).length = (n + m) * i.size := by rw [List.length_append, hown.1, hs.newsLen, Nat.add_mul]
  have h63i : ((n + m : Nat) : Int) ≤ 9223372036854775807 := by simp only [maxLen] at h63; omega
  have grown : ∀ (old : Nat), old < n + m → ∀ (row : Option Nat),
      (w.drew.alloc (.cells ((xs ++ news).toArray ++ Builtin.zeroCells z.cells (grownCap w (n + m) old e - (n + m))) e)).ownsRow 0 e i.size
        (.slice (some ⟨w.heap.size, 0, none⟩) (n + m) (grownCap w (n + m) old e)) (n + m) (xs ++ news) ∧
      w.grownBy (w.drew.alloc (.cells ((xs ++ news).toArray ++ Builtin.zeroCells z.cells (grownCap w (n + m) old e - (n + m))) e)) row := by
    intro old ho row
    have hge := grownCap_ge w (n + m) old e
    have hcm := grownCap_le_maxLen w (n + m) old e h63
    refine ⟨⟨hlen, .inr ⟨w.heap.size, _, _, rfl, Nat.zero_le _, heap_alloc_new w.drew _, hge, hcm, ?_, ?_⟩⟩, ⟨rfl, rfl, rfl, by simp, fun k hk _ => heap_alloc_old w.drew _ hk⟩⟩
    · rw [Array.size_append, List.size_toArray, hlen, size_zeroCells, hzs, ← Nat.add_mul]
      congr 1
      omega
    · rw [Array.toList_append, ← hlen]
      exact List.take_left
  rcases hown.2 with ⟨rfl, rfl⟩ | ⟨g, cap, cur, rfl, hbg, hg, hnc, hcm, hcs, htake⟩
  · have hx : xs = [] := List.eq_nil_of_length_eq_zero (by simpa using hown.1)
    subst hx
    by_cases hm : m = 0
    · subst hm
      have hn : news = [] := List.eq_nil_of_length_eq_zero (by simpa using hs.newsLen)
      subst hn
      refine ⟨.slice none 0 0, w, ?_, World.ownsRow_nil w 0 e i.size, ⟨rfl, rfl, rfl, Nat.le_refl _, fun _ _ _ => rfl⟩, .inl rfl⟩
      rcases hs.kind with ⟨e', hk⟩ | hk <;> simp [Builtin.append_, run_underlying ht, run_underlying hk, sizeOf, typeInfo, hi, hs.len, hs.cells]
    · have hr := run_append_grow_src (P := P) w t tx ty e i z ht hi hz none 0 0 [] (run_firstCells_none _ _ _ _ _) x m news hs (by omega) h63i (growslice_fits (by omega) hbytes)
      have hgr := grown 0 (by omega) (Value.ownBlock (.slice none 0 0))
      simp only [Nat.zero_add, List.nil_append] at hr hgr ⊢
      exact ⟨_, _, hr, hgr.1, hgr.2, .inr rfl⟩
  · have hcell : ∀ j, j < cap * i.size → w.cell? ⟨g, j, none⟩ = cur[j]? := fun j _ => cell_of_row w g j cur e (0, 0) hg
    by_cases hroom : n + m ≤ cap
    · have hfit : n * i.size + news.length ≤ cur.size := by rw [hs.newsLen, hcs, ← Nat.add_mul]; exact Nat.mul_le_mul_right _ hroom
      have hr := run_append_room_src (P := P) w t tx ty e i ht hi g 0 n cap x m news hs hroom
        (fun j hj => by rw [Nat.zero_add, cell_of_row w g _ cur e (0, 0) hg, Array.getElem?_eq_getElem (show n * i.size + j < cur.size by omega)]; rfl)
        (fun j _ => frozen_of_row w g _ cur e hg)
      rw [Nat.zero_add] at hr
      refine ⟨_, _, hr, ⟨hlen, .inr ⟨g, cap, _, rfl, hbg, heap_setCells_at g e news (n * i.size) w cur hg hfit, hroom, hcm, ?_, ?_⟩⟩, grownBy_setCells g news _ w, .inl rfl⟩
      · simp only [List.size_toArray, List.length_append, List.length_take, List.length_drop, Array.length_toList]
        omega
      · rw [htake, ← hlen]
        exact List.take_left
    · have hf := run_firstCells_some (P := P) w.drew i.size n ⟨g, 0, none⟩ n cap xs hown.1 (by simpa using hown.cells (g := g) rfl)
      have hr := run_append_grow_src (P := P) w t tx ty e i z ht hi hz (some ⟨g, 0, none⟩) n cap xs hf x m news hs (by omega) h63i (growslice_fits (by omega) hbytes)
      have hgr := grown cap (by omega) (Value.ownBlock (.slice (some ⟨g, 0, none⟩) n cap))
      exact ⟨_, _, hr, hgr.1, hgr.2, .inr rfl⟩

theorem wp_append_src {P : Program} {w : World} {o : Oper} {a : Act} {K : Act → World → Prop} {Q : Exit → Act → World → Prop} (s x : Operand) (t tx : TypeId)
    (ho : o.op = .call { callee := .builtin .append, args := #[s, x], argTypes := #[t, tx] })
    (e : TypeId) (i : TypeInfo) (z : Value) (size bytes : Nat) (ht : P.underlying t = some (.slice e)) (hi : P.info? e = some i) (hz : i.zero = some z)
    (hsize : i.size = size) (hby : i.bytes = bytes) (hzs : z.cells.size = size)
    (v : Value) (n : Nat) (xs : List Value) (hs : a.eval s = v) (hown : w.ownsRow 0 e size v n xs) (xv : Value) (m : Nat) (news : List Value) (hx : a.eval x = xv) (hsrc : Src P size tx xv m news w)
    (h63 : n + m ≤ maxLen) (hbytes : (n + m) * bytes ≤ 140737488355328)
    (h : ∀ v' w', w'.ownsRow 0 e size v' (n + m) (xs ++ news) → w.grownBy w' v.ownBlock → (v'.ownBlock = v.ownBlock ∨ v'.ownBlock = some w.heap.size) → K (a.put o.dst v') w') : o.wp P a w K Q := by
  obtain ⟨v', w', hr, h2, h3, h4⟩ := run_append_src (P := P) w t tx o.type e i z size bytes ht hi hz hsize hby hzs v n xs hown xv m news hsrc h63 hbytes
  unfold Oper.wp execOp
  simp only [ho, resolve, invoke, builtin, Sem.run_bind, Sem.run_pure, Result.andThen_ok, List.map_toArray, List.map_cons, List.map_nil, hs, hx, hr]
  exact h v' w' h2 h3 h4

theorem wpList_append_src {P : Program} {w : World} {ops : Array Oper} {rest : List Oper} {o : Oper} {a : Act} {Q : Exit → Act → World → Prop} (hgd : o.guard = none) (s x : Operand) (t tx : TypeId)
    (ho : o.op = .call { callee := .builtin .append, args := #[s, x], argTypes := #[t, tx] })
    (e : TypeId) (i : TypeInfo) (z : Value) (size bytes : Nat) (ht : P.underlying t = some (.slice e)) (hi : P.info? e = some i) (hz : i.zero = some z)
    (hsize : i.size = size) (hby : i.bytes = bytes) (hzs : z.cells.size = size)
    (v : Value) (n : Nat) (xs : List Value) (hs : a.eval s = v) (hown : w.ownsRow 0 e size v n xs) (xv : Value) (m : Nat) (news : List Value) (hx : a.eval x = xv) (hsrc : Src P size tx xv m news w)
    (h63 : n + m ≤ maxLen) (hbytes : (n + m) * bytes ≤ 140737488355328)
    (h : ∀ v' w', w'.ownsRow 0 e size v' (n + m) (xs ++ news) → w.grownBy w' v.ownBlock → (v'.ownBlock = v.ownBlock ∨ v'.ownBlock = some w.heap.size) → wpList P ops Q rest (a.put o.dst v') w') : wpList P ops Q (o :: rest) a w :=
  wpList_plain hgd fun _ hK => wp_append_src s x t tx ho e i z size bytes ht hi hz hsize hby hzs v n xs hs hown xv m news hx hsrc h63 hbytes fun v' w' h2 h3 h4 => hK _ _ (h v' w' h2 h3 h4)

end Go.Proofs.YtippakeemfldfaaDoor

namespace Go.Proofs.YtippakeemfldfaaDoor
open Go.RowKit

/-- A cell that holds what was captured. -/
def Bx (w : World) (g : Nat) (v : Value) : Prop := ∃ T, w.heap[g]? = some (.cells #[v] T (0, 0))
theorem Bx.lt {w : World} {g : Nat} {v : Value} (h : Bx w g v) : g < w.heap.size := by obtain ⟨T, h⟩ := h; exact (Array.getElem?_eq_some_iff.1 h).1
theorem Bx.kept {w w' : World} {g : Nat} {v : Value} (h : Bx w g v) {S : Nat → Prop} (hm : Mod S w w') (hg : ¬ S g) : Bx w' g v := by
  have hl := h.lt
  obtain ⟨T, h⟩ := h
  exact ⟨T, (hm.block g hl hg).trans h⟩
theorem Bx.old {w w' : World} {g : Nat} {v : Value} (h : Bx w g v) (hb : Below w.heap.size w w') : Bx w' g v := h.kept (Mod.of_below hb) (fun hn => by have := h.lt; omega)
theorem Bx.cell {w : World} {g : Nat} {v : Value} (h : Bx w g v) : w.cell? ⟨g, 0, none⟩ = some v := by obtain ⟨T, h⟩ := h; unfold World.cell?; rw [h]; rfl
theorem Bx.new (w : World) (v : Value) (T : TypeId) : Bx (w.alloc (.cells #[v] T)) w.heap.size v := ⟨T, heap_alloc_new _ _⟩
theorem Rw.of_own {T : TypeId} {w : World} {v : Value} {n : Nat} {bs : List UInt8} (h : w.ownsRow 0 T 1 v n (vals bs)) (hn : n = bs.length) : ∃ p c, v = .slice p n c ∧ Rw encY T w p c bs := by
  have h2 := h
  subst hn
  rcases h.2 with ⟨e, h0⟩ | ⟨g, cap', cur, e, _⟩
  · subst e
    exact ⟨none, 0, by rw [h0], by unfold Rw; rw [encY_all, h0]; rw [h0] at h2; exact h2⟩
  · subst e
    exact ⟨_, _, rfl, by unfold Rw; rw [encY_all]; exact h2⟩
theorem bytesVals (s : List UInt8) : byteCells ⟨s.toArray⟩ = vals s := by simp [byteCells, vals]
/-- A text appended to bytes. -/
theorem wpList_pushS {P : Program} {ops : Array Oper} {rest : List Oper} {o : Oper} {a : Act} {Q : Exit → Act → World → Prop} {w : World} (hgd : o.guard = none) (s x : Operand) (Ts T tx : TypeId) (z : Value)
    (ho : o.op = .call { callee := .builtin .append, args := #[s, x], argTypes := #[Ts, tx] }) (hT : P.underlying Ts = some (.slice T)) (hi : (P.info? T).map (fun i => (i.zero, i.size, i.bytes)) = some (some z, 1, 1)) (hzs : z.cells.size = 1) (htx : P.underlying tx = some .string)
    (p : Option Addr) (cap n : Nat) (L : List UInt8) (hn : L.length = n) (hs : a.eval s = .slice p n cap) (hS : Rw encY T w p cap L) (Y : List UInt8) (hx : a.eval x = .string ⟨Y.toArray⟩) (hl : n + Y.length ≤ 100000000000)
    (h : ∀ q c w', PushR encY T w p (L ++ Y) q c w' → wpList P ops Q rest (a.put o.dst (.slice q (n + Y.length) c)) w') :
    wpList P ops Q (o :: rest) a w := by
  cases hq : P.info? T with
  | none => rw [hq] at hi; cases hi
  | some i =>
    rw [hq] at hi
    simp only [Option.map_some, Option.some.injEq, Prod.mk.injEq] at hi
    obtain ⟨hz, h1, h2⟩ := hi
    subst hn
    have hsrc := Src.ofString (P := P) (w := w) htx ⟨Y.toArray⟩
    rw [bytesVals] at hsrc
    have hown : w.ownsRow 0 T 1 (.slice p L.length cap) L.length (vals L) := by have := hS; unfold Rw at this; rw [encY_all] at this; exact this
    refine wpList_append_src hgd s x Ts tx ho T i z 1 1 hT hq hz h1 h2 hzs _ L.length (vals L) hs hown _ Y.length (vals Y) hx hsrc (by unfold maxLen; omega) (by omega) ?_
    intro v' w' ho' hgr hat
    rw [← vals_app] at ho'
    obtain ⟨q, c, rfl, hR⟩ := Rw.of_own ho' (by simp)
    refine h q c w' ⟨hR, ?_, ?_⟩
    · refine (Mod.refl _ w).grown hgr ?_
      intro j hj _
      cases p with
      | none => simp [Value.ownBlock] at hj
      | some a => simp [Value.ownBlock] at hj; exact ⟨a, rfl, hj.symm⟩
    · rintro a' e; subst e
      rcases hat with hat | hat
      · left
        rcases hS.shape with ⟨rfl, _⟩ | ⟨g', rfl, _⟩
        · simp [Value.ownBlock] at hat
        · rcases hR.shape with ⟨e, _⟩ | ⟨g2, e, _⟩
          · cases e
          · cases e
            simp [Value.ownBlock] at hat; subst hat; rfl
      · right
        simp [Value.ownBlock] at hat; rw [hat]; exact Nat.le_refl _
theorem Eff.mk {w w' : World} {d b : Nat} {S S' : St} {L L' : List Fl} {F : Nat → Prop} (h : DK w d b S L) (hF : ∀ i, inD d b L i → F i) (hl : ∀ i, F i → i < w.heap.size) (h' : DK w' d b S' L') (hL : ∀ f ∈ L', ∀ a, f.p = some a → inD d b L a.block ∨ w.heap.size ≤ a.block) (hm : Mod (inD d b L) w w') : Eff w w' d S' F := by
  refine ⟨fun i => F i ∨ (w.heap.size ≤ i ∧ i < w'.heap.size), ⟨b, L', h', ?_, ?_⟩, fun i hi => hi.imp id (·.1), hm.mono (fun i _ hi => hF i hi)⟩
  · intro i hi
    have hlt := h'.lt hi
    rcases hi with rfl | rfl | ⟨f, hf, a, ha, rfl⟩
    · exact .inl (hF _ (.inl rfl))
    · exact .inl (hF _ (.inr (.inl rfl)))
    · rcases hL f hf a ha with h1 | h1
      · exact .inl (hF _ h1)
      · exact .inr ⟨h1, hlt⟩
  · rintro i (hi | hi)
    · exact Nat.lt_of_lt_of_le (hl i hi) hm.size
    · exact hi.2
theorem inD_at {w : World} {d b : Nat} {S : St} {L : List Fl} (h : DK w d b S L) (k : List UInt8) {a : Addr} (ha : (atF k L).p = some a) : inD d b L a.block := by
  rcases (h.at k).2.2 with hm | hn
  · exact .inr (.inr ⟨_, hm, a, ha, rfl⟩)
  · rw [hn] at ha; cases ha
theorem inD_wo {d b : Nat} {L : List Fl} {k : List UInt8} {f : Fl} (hf : f ∈ woF k L) {a : Addr} (ha : f.p = some a) : inD d b L a.block := .inr (.inr ⟨f, (List.mem_filter.1 hf).1, a, ha, rfl⟩)
theorem at_ok {w : World} {d b : Nat} {S : St} {L : List Fl} (h : DK w d b S L) (k : List UInt8) {a : Addr} (ha : (atF k L).p = some a) : a.block < w.heap.size ∧ a.block ≠ d ∧ a.block ≠ b := by
  rcases (h.at k).2.2 with hm | hn
  · exact h.rowAt hm ha
  · rw [hn] at ha; cases ha
theorem put_eff {w W3 : World} {d b : Nat} {S S3 : St} {L L3 : List Fl} {F : Nat → Prop} (h : DK w d b S L) (hF : ∀ i, inD d b L i → F i) (hl : ∀ i, F i → i < w.heap.size) (f : Fl) (hX : DKx W3 d b S3 L3 f.k) (hr : Rw encY 5 W3 f.p f.c f.b) (hs : f.s ≤ f.b.length)
    (ha : ∀ a, f.p = some a → a.block ≠ d ∧ a.block ≠ b ∧ (∀ g ∈ woF f.k L3, ∀ a', g.p = some a' → a'.block ≠ a.block) ∧ (inD d b L a.block ∨ w.heap.size ≤ a.block)) (hL : ∀ f ∈ L3, ∀ a, f.p = some a → inD d b L a.block)
    (hm : Mod (inD d b L) w W3) (hk : f.k.length ≤ 1000000) (hn : L3.length ≤ 1000000) :
    Calls Tryd.prog 41 #[.pointer (some ⟨d, 0, none⟩), .string ⟨f.k.toArray⟩, f.v] W3 fun e w' => e = .returned (.tuple #[]) ∧ Eff w w' d { S3 with X := withX f.x S3.X } F := by
  refine (dkput_any f hX hr hs (fun a e => ?_) hk hn).mono ?_
  · obtain ⟨h1, h2, h3, _⟩ := ha a e
    rw [e] at hr
    exact ⟨hr.lt, h1, h2, h3⟩
  · rintro r w' ⟨rfl, hD, hm2⟩
    refine ⟨rfl, Eff.mk h hF hl hD ?_ (hm.trans hm2 (fun i _ e => .inr (.inl e)))⟩
    intro g hg a e
    rcases List.mem_cons.1 hg with rfl | hg
    · exact (ha a e).2.2.2
    · exact .inl (hL g (List.mem_filter.1 hg).1 a e)
set_option maxRecDepth 20000 in
set_option maxHeartbeats 1000000 in
theorem dkapp1_any {w : World} {d : Nat} {S : St} {F : Nat → Prop} (h : DA w d S F) (gd gk gs : Nat) (k s : List UInt8) (bd : Bx w gd (.pointer (some ⟨d, 0, none⟩))) (bk : Bx w gk (.string ⟨k.toArray⟩)) (bs : Bx w gs (.string ⟨s.toArray⟩)) (ng : ∀ i, i = gd ∨ i = gk ∨ i = gs → ¬ F i) (hk : k.length ≤ 1000000) (hs : s.length ≤ 1000000000) (hn : S.X.length ≤ 1000000) (hf : (fiX k S.X).2.1.length ≤ 2000000000) :
    Calls Tryd.prog 47 #[.pointer (some ⟨gd, 0, none⟩), .pointer (some ⟨gk, 0, none⟩), .pointer (some ⟨gs, 0, none⟩)] w fun e w' => e = .returned (.tuple #[]) ∧ Eff w w' d { S with X := withX (k, (fiX k S.X).2.1 ++ s, (fiX k S.X).2.2) S.X } F := by
  obtain ⟨b, L, h, hF, hl⟩ := h
  have hx := atF_x h k
  have hat := h.at k
  have hal := fun a e => h.alone k (a := a) e
  have CD : Hid (∀ w1, Below w.heap.size w w1 → w1.cell? ⟨gd, 0, none⟩ = some (.pointer (some ⟨d, 0, none⟩))) := Lib.hid (fun w1 hb => (bd.old hb).cell)
  have CK : Hid (∀ w1, Below w.heap.size w w1 → w1.cell? ⟨gk, 0, none⟩ = some (.string ⟨k.toArray⟩)) := Lib.hid (fun w1 hb => (bk.old hb).cell)
  have CM : Hid (∀ w1, Below w.heap.size w w1 → w1.cell? ⟨d, 1, none⟩ = some (.map (some b))) := Lib.hid (fun w1 hb => (h.old hb).c1)
  have CL : Hid (∀ w1, Below w.heap.size w w1 → (Instr.lookup 54 (.map (some b)) (.string ⟨k.toArray⟩) false).run Tryd.prog w1 = .ok (atF k L).v w1) := Lib.hid (fun w1 hb => (h.old hb).look k (by unfold maxLen; omega))
  have HI : Hid ((Tryd.prog.info? 63).map (·.size) = some 2) := Lib.hid (by kernel_rfl)
  have HZ : Hid (∀ w, (zeroValue 63).run Tryd.prog w = .ok (.agg #[.slice none 0 0, .int .i64 0]) w) := Lib.hid (fun w => by kernel_rfl)
  have hnl : L.length ≤ 1000000 := by rw [h.len]; exact hn
  have CS : Hid (∀ w1, Below w.heap.size w w1 → w1.cell? ⟨gs, 0, none⟩ = some (.string ⟨s.toArray⟩)) := Lib.hid (fun w1 hb => (bs.old hb).cell)
  obtain ⟨hr, hsy, hmem⟩ := hat
  have HBC := Lib.hid hr.cap_le
  have PB : Hid (∀ i, (∃ a, (atF k L).p = some a ∧ i = a.block) → inD d b L i) := Lib.hid (by rintro i ⟨a, e, rfl⟩; exact inD_at h k e)
  have HF : Hid (∀ i, (∃ a, (atF k L).p = some a ∧ i = a.block) → F i) := Lib.hid (fun i hi => hF i (PB.out i hi))
  have HP : Hid (∀ W3 q c', Mod (fun i => ∃ a, (atF k L).p = some a ∧ i = a.block) w W3 → Rw encY 5 W3 q c' ((atF k L).b ++ s) → (∀ a, q = some a → (atF k L).p = some a ∨ w.heap.size ≤ a.block) →
      Calls Tryd.prog 41 #[.pointer (some ⟨d, 0, none⟩), .string ⟨k.toArray⟩, .agg #[.slice q ((atF k L).b.length + s.length) c', .int .i64 ((atF k L).s : Int)]] W3 fun e w' => e = .returned (.tuple #[]) ∧ Eff w w' d { S with X := withX (k, (fiX k S.X).2.1 ++ s, (fiX k S.X).2.2) S.X } F) := Lib.hid (by
    intro W3 q c' hm hR hq
    have hcl : ∀ i, i = d ∨ i = b → ¬ ∃ a, (atF k L).p = some a ∧ i = a.block := by rintro i hi ⟨a, e, rfl⟩; have := at_ok h k e; omega
    have hX := (h.toX k).kept hm (hcl d (.inl rfl)) (hcl b (.inr rfl)) (by rintro g hg a' e' ⟨a, e, e2⟩; exact hal a e g hg a' e' e2)
    have hpe := put_eff h hF hl ⟨k, (atF k L).b ++ s, (atF k L).s, q, c'⟩ hX hR (by simp only [List.length_append]; omega) (by
      intro a e
      simp only at e
      rcases hq a e with e' | hge
      · have := at_ok h k e'
        exact ⟨this.2.1, this.2.2, hal a e', .inl (inD_at h k e')⟩
      · refine ⟨by have := h.plt; omega, by have := h.map.lt; omega, ?_, .inr hge⟩
        intro g hg a' e'
        have := (h.rowAt (List.mem_filter.1 hg).1 e').1
        omega) (fun g hg a e => .inr (.inr ⟨g, hg, a, e, rfl⟩)) (hm.mono (fun i _ hi => PB.out i hi)) hk hnl
    unfold Fl.v Fl.x at hpe
    simp only [List.length_append] at hpe
    rw [show (fiX k S.X).2.1 = (atF k L).b by rw [← hx]; rfl, show (fiX k S.X).2.2 = (atF k L).s by rw [← hx]; rfl]
    exact hpe)
  have hlen : (atF k L).b.length ≤ 2000000000 := by rw [show (fiX k S.X).2.1 = (atF k L).b by rw [← hx]; rfl] at hf; exact hf
  have HR : Hid (∀ w1, Below w.heap.size w w1 → Rw encY 5 w1 (atF k L).p (atF k L).c (atF k L).b) := Lib.hid (fun w1 hb => hr.old hb)
  have HQ : Hid (∀ a, (atF k L).p = some a → a.block < w.heap.size) := Lib.hid (fun a e => (at_ok h k e).1)
  unfold Fl.v at CL
  generalize hp : (atF k L).p = p at *
  generalize hc : (atF k L).c = c at *
  generalize hbb : (atF k L).b = B at *
  generalize hsyy : ((atF k L).s : Int) = sy at *
  obtain ⟨n, hnn⟩ : ∃ n, n = B.length := ⟨_, rfl⟩
  rw [← hnn] at CL HP hlen
  have HNN := Lib.hid hnn
  have HV : Hid (∀ v ∈ (#[.slice p n c, .int .i64 sy] : Array Value).toList, v.oneCell' = true) := Lib.hid (by intro v hv; simp at hv; rcases hv with rfl | rfl <;> rfl)
  have HG0 : Hid ((fun (j : Nat) (_ : Value) (w1 : World) => Below w.heap.size w w1 ∧ (j = 0 → w1 = w.drew) ∧ (j = 1 → w1 = w.drew.alloc (.cells #[.slice none 0 0, .int .i64 0] 63)) ∧ (j = 2 → w1 = (w.drew.alloc (.cells #[.slice none 0 0, .int .i64 0] 63)).setRow w.heap.size #[.slice p n c, .int .i64 sy])) 0 undef w.drew) := Lib.hid ⟨(Below.refl _ w).drew, fun _ => rfl, (fun h => absurd h (by omega)), (fun h => absurd h (by omega))⟩
  clear hp hc hbb hsyy hx hr hsy hmem hal hf hF h PB hnn hl
  go_enter Tryd.func47, Tryd.ntmps47
  go_upto_region 0 with fail
  refine wp_region_chain (fun t v => match t with
    | 4 => v = .pointer (some ⟨d, 0, none⟩)
    | 5 => v = .pointer (some ⟨d, 0, none⟩)
    | 6 => v = .pointer (some ⟨d, 1, none⟩)
    | 7 => v = .map (some b)
    | 8 => v = .string ⟨k.toArray⟩
    | 9 => v = .agg #[.slice p n c, .int .i64 sy]
    | 3 => v = .pointer (some ⟨w.heap.size, 0, none⟩)
    | _ => True) (fun (j : Nat) (_ : Value) (w1 : World) => Below w.heap.size w w1 ∧ (j = 0 → w1 = w.drew) ∧ (j = 1 → w1 = w.drew.alloc (.cells #[.slice none 0 0, .int .i64 0] 63)) ∧ (j = 2 → w1 = (w.drew.alloc (.cells #[.slice none 0 0, .int .i64 0] 63)).setRow w.heap.size #[.slice p n c, .int .i64 sy])) [6, 7] 19 (by kernel_rfl) (by decide +kernel) rfl (by decide +kernel) (by decide) (by decide) HG0.out (by
    refine OweAllC.cons (owesC_val 1 (by decide +kernel) (by decide) rfl rfl fun k' a w1 x hk ha hG hV => ?_) ?_
    · skip
      have h0 := ha.outer 0 (by decide +kernel)
      simp only [Act.eval] at h0
      have hb := hG.1
      have cc := CD.out w1 hb
      exact ⟨.pointer (some ⟨d, 0, none⟩), wanted_free rfl, by simp [execOp, go_sem, h0, cc], rfl⟩
    refine OweAllC.cons (owesC_val 1 (by decide +kernel) (by decide) rfl rfl fun k' a w1 x hk ha hG hV => ?_) ?_
    · skip
      have h4 : a.tmps.getD 4 undef = .pointer (some ⟨d, 0, none⟩) := hV.get 4 (by decide +kernel)
      exact ⟨.pointer (some ⟨d, 0, none⟩), wanted_free rfl, by simp [execOp, go_sem, h4], rfl⟩
    refine OweAllC.cons (owesC_val 1 (by decide +kernel) (by decide) rfl rfl fun k' a w1 x hk ha hG hV => ?_) ?_
    · skip
      have h5 : a.tmps.getD 5 undef = .pointer (some ⟨d, 0, none⟩) := hV.get 5 (by decide +kernel)
      exact ⟨.pointer (some ⟨d, 1, none⟩), wanted_free rfl, by simp [execOp, go_sem, h5], rfl⟩
    refine OweAllC.cons (owesC_val 1 (by decide +kernel) (by decide) rfl rfl fun k' a w1 x hk ha hG hV => ?_) ?_
    · skip
      have h6 : a.tmps.getD 6 undef = .pointer (some ⟨d, 1, none⟩) := hV.get 6 (by decide +kernel)
      have hb := hG.1
      have cc := CM.out w1 hb
      exact ⟨.map (some b), wanted_free rfl, by simp [execOp, go_sem, h6, cc], rfl⟩
    refine OweAllC.cons (owesC_val 1 (by decide +kernel) (by decide) rfl rfl fun k' a w1 x hk ha hG hV => ?_) ?_
    · skip
      have h1 := ha.outer 1 (by decide +kernel)
      simp only [Act.eval] at h1
      have hb := hG.1
      have cc := CK.out w1 hb
      exact ⟨.string ⟨k.toArray⟩, wanted_free rfl, by simp [execOp, go_sem, h1, cc], rfl⟩
    refine OweAllC.cons (owesC_val 1 (by decide +kernel) (by decide) rfl rfl fun k' a w1 x hk ha hG hV => ?_) ?_
    · skip
      have h7 : a.tmps.getD 7 undef = .map (some b) := hV.get 7 (by decide +kernel)
      have h8 : a.tmps.getD 8 undef = .string ⟨k.toArray⟩ := hV.get 8 (by decide +kernel)
      have hb := hG.1
      have cc := CL.out w1 hb
      exact ⟨.agg #[.slice p n c, .int .i64 sy], wanted_free rfl, by simp [execOp, go_sem, h7, h8, cc], rfl⟩
    refine OweAllC.cons (owesC_mem 0 rfl rfl rfl fun a w1 x ha hG hx hV => ?_) ?_
    · skip
      obtain rfl := hG.2.1 rfl
      refine ⟨.pointer (some ⟨w.heap.size, 0, none⟩), w.drew.alloc (.cells #[.slice none 0 0, .int .i64 0] 63), wanted_free rfl, by simp [execOp, go_sem, HZ.out], rfl, hG.1.alloc (Nat.le_refl _) _, (fun h => absurd h (by omega)), fun _ => rfl, (fun h => absurd h (by omega))⟩
    refine OweAllC.cons (owesC_store 1 rfl rfl rfl fun a w1 x ha hG hx hV => ?_) ?_
    · skip
      have h3 : a.tmps.getD 3 undef = .pointer (some ⟨w.heap.size, 0, none⟩) := hV.get 3 (by decide +kernel)
      have h9 : a.tmps.getD 9 undef = .agg #[.slice p n c, .int .i64 sy] := hV.get 9 (by decide +kernel)
      obtain rfl := hG.2.2.1 rfl
      refine ⟨(w.drew.alloc (.cells #[.slice none 0 0, .int .i64 0] 63)).setRow w.heap.size #[.slice p n c, .int .i64 sy], wanted_free rfl, exec_store_row 63 (.tmp 3) (.tmp 9) rfl w.heap.size h3 63 _ _ h9 (heap_alloc_new w.drew (.cells #[.slice none 0 0, .int .i64 0] 63)) rfl HI.out HV.out, ?_, (fun h => absurd h (by omega)), (fun h => absurd h (by omega)), fun _ => rfl⟩
      exact ((((Mod.refl (fun _ => False) w).drew.alloc _).setRow (g := w.heap.size) _).to_below (Nat.le_refl _) (by rintro k hk (h | h); exact h; omega))
    exact OweAllC.nil
    ) ?_
  intro f wz xz hG hx hv
  have e3 : f 3 = .pointer (some ⟨w.heap.size, 0, none⟩) := hv 6 _ 3 rfl rfl
  first | (rename_i hK; refine hK _ _ ?_; clear hK) | (rename_i hK _; refine hK _ _ ?_; clear hK) | (rename_i hK _ _; refine hK _ _ ?_; clear hK) | (rename_i hK _ _ _; refine hK _ _ ?_; clear hK)
  clear hv hx
  simp only [dsts, puts, List.filterMap_cons, List.filterMap_nil, List.foldl_cons, List.foldl_nil, Act.put, List.setIfInBounds_toArray, List.set_cons_succ, List.set_cons_zero, e3]
  clear e3
  obtain ⟨hB1, _, _, hE1⟩ := hG
  have hW1 := hE1 rfl
  have hrow : wz.heap[w.heap.size]? = some (.cells #[.slice p n c, .int .i64 sy] 63 (0, 0)) := by rw [hW1]; exact setRow_heap (w.drew.alloc (.cells #[.slice none 0 0, .int .i64 0] 63)) w.heap.size _ _ 63 (0, 0) (heap_alloc_new _ _)
  have cS := CS.out wz hB1
  have HR1 := Lib.hid (HR.out wz hB1)
  have cg : wz.cell? ⟨w.heap.size, 0, none⟩ = some (.slice p n c) := by unfold World.cell?; rw [hrow]; rfl
  have HB1 := Lib.hid hB1
  have HRW := Lib.hid hrow
  have HLN : Hid (n + s.length ≤ 100000000000) := Lib.hid (by omega)
  clear hE1 hW1 hB1 hrow HR HG0 hlen hs
  generalize hgw : w.heap.size = g at *
  have HGW := Lib.hid hgw
  clear hgw
  go_upto_region 2 with (at_builtin; refine wpList_pushS rfl (.tmp 11) (.tmp 12) 50 5 9 (.int .u8 0) rfl Tryd.underlying50 (by kernel_rfl) rfl Tryd.underlying9 p c n B HNN.out.symm rfl HR1.out s rfl HLN.out ?_; intro q c2 w4 hP4; have hr4 : w4.heap[g]? = some (.cells #[.slice p n c, .int .i64 sy] 63 (0, 0)) := (hP4.2.1.block g (Array.getElem?_eq_some_iff.1 HRW.out).1 (by rintro ⟨a, e, h⟩; have := HQ.out a e; omega)).trans HRW.out; have f4 := frozen_of_row w4 g 0 _ 63 hr4; have c4 : w4.cell? ⟨g, 0, none⟩ = some (.slice p n c) := (by unfold World.cell?; rw [hr4]; rfl); have HP4 := Lib.hid hP4; have HR4 := Lib.hid hr4; clear hP4 hr4 cg cS; go_frame)
  have hm5 : Mod (fun i => ∃ a, p = some a ∧ i = a.block) w (w4.setCell ⟨g, 0, none⟩ (.slice q (n + s.length) c2)) := by
    have h1 : Mod (fun _ => False) w wz := (Mod.of_below HB1.out).mono (fun i hi h => by have := HGW.out; omega)
    exact ((h1.mono (fun _ _ h => h.elim)).trans HP4.out.2.1 (fun _ _ h => h)).setCell (fun h => by have := HGW.out; simp at h; omega) _
  have hr5 : (w4.setCell ⟨g, 0, none⟩ (.slice q (n + s.length) c2)).heap[g]? = some (.cells #[.slice q (n + s.length) c2, .int .i64 sy] 63 (0, 0)) := by rw [heap_setCell_same w4 g 0 _ 63 _ HR4.out]; rfl
  have hq5 : Rw encY 5 (w4.setCell ⟨g, 0, none⟩ (.slice q (n + s.length) c2)) q c2 (B ++ s) := HP4.out.1.kept ((Mod.refl (fun i => i = g) w4).setCell (fun _ => rfl) _) (fun a e => by
    have hgl := (Array.getElem?_eq_some_iff.1 HRW.out).1
    rcases HP4.out.2.2 a e with h | h
    · have := HQ.out a h; omega
    · omega)
  have hor5 : ∀ a, q = some a → p = some a ∨ g ≤ a.block := by
    intro a e
    rcases HP4.out.2.2 a e with h | h
    · exact .inl h
    · have := (Array.getElem?_eq_some_iff.1 HRW.out).1; exact .inr (by omega)
  have c5d : (w4.setCell ⟨g, 0, none⟩ (.slice q (n + s.length) c2)).cell? ⟨gd, 0, none⟩ = some (.pointer (some ⟨d, 0, none⟩)) := (bd.kept hm5 (fun h => ng gd (.inl rfl) (HF.out _ h))).cell
  have c5k : (w4.setCell ⟨g, 0, none⟩ (.slice q (n + s.length) c2)).cell? ⟨gk, 0, none⟩ = some (.string ⟨k.toArray⟩) := (bk.kept hm5 (fun h => ng gk (.inr (.inl rfl)) (HF.out _ h))).cell
  have hput := HP.out _ q c2 hm5 hq5 hor5
  generalize w4.setCell ⟨g, 0, none⟩ (.slice q (n + s.length) c2) = W5 at hr5 c5d c5k hput ⊢
  have HPUT := Lib.hid hput
  have c50 : W5.cell? ⟨g, 0, none⟩ = some (.slice q (n + s.length) c2) := by unfold World.cell?; rw [hr5]; rfl
  have c51 : W5.cell? ⟨g, 1, none⟩ = some (.int .i64 sy) := by unfold World.cell?; rw [hr5]; rfl
  clear hput hm5 hq5 hor5 hr5
  go_wp2_with fail
  refine HPUT.out.mono ?_
  rintro r w6 ⟨rfl, hE⟩
  have HE := Lib.hid hE
  clear hE
  go_wp2_with fail
  go_end0
  exact ⟨rfl, HE.out⟩
end Go.Proofs.YtippakeemfldfaaDoor

namespace Go.Proofs.YtippakeemfldfaaDoor
open Go.RowKit

theorem at_put {w : World} {d b : Nat} {S : St} {L : List Fl} {F : Nat → Prop} (h : DK w d b S L) (hF : ∀ i, inD d b L i → F i) (hl : ∀ i, F i → i < w.heap.size) (k : List UInt8) (n s' : Nat) (hs : s' ≤ ((atF k L).b.take n).length) (hk : k.length ≤ 1000000) (hnl : L.length ≤ 1000000) (w1 : World) (hb : Below w.heap.size w w1) :
    Calls Tryd.prog 41 #[.pointer (some ⟨d, 0, none⟩), .string ⟨k.toArray⟩, .agg #[.slice (atF k L).p ((atF k L).b.take n).length (atF k L).c, .int .i64 (s' : Int)]] w1 fun e w' => e = .returned (.tuple #[]) ∧ Eff w w' d { S with X := withX (k, (fiX k S.X).2.1.take n, s') S.X } F := by
  have hx := atF_x h k
  rw [show (fiX k S.X).2.1 = (atF k L).b by rw [← hx]; rfl]
  have h1 := h.old hb
  exact put_eff h hF hl ⟨k, (atF k L).b.take n, s', (atF k L).p, (atF k L).c⟩ (h1.toX k) ((h1.at k).1.cutY n) hs (fun a e => ⟨(at_ok h k e).2.1, (at_ok h k e).2.2, h.alone k e, .inl (inD_at h k e)⟩)
    (fun g hg a e => .inr (.inr ⟨g, hg, a, e, rfl⟩)) ((Mod.of_below hb).mono (fun i hi h => by omega)) hk hnl
set_option maxRecDepth 20000 in
set_option maxHeartbeats 1000000 in
theorem dksync1_any {w : World} {d : Nat} {S : St} {F : Nat → Prop} (h : DA w d S F) (gd gk : Nat) (k : List UInt8) (bd : Bx w gd (.pointer (some ⟨d, 0, none⟩))) (bk : Bx w gk (.string ⟨k.toArray⟩)) (hk : k.length ≤ 1000000) (hn : S.X.length ≤ 1000000) :
    Calls Tryd.prog 61 #[.pointer (some ⟨gd, 0, none⟩), .pointer (some ⟨gk, 0, none⟩)] w fun e w' => e = .returned (.tuple #[]) ∧ Eff w w' d { S with X := withX (k, (fiX k S.X).2.1, (fiX k S.X).2.1.length) S.X } F := by
  obtain ⟨b, L, h, hF, hl⟩ := h
  have hx := atF_x h k
  have hat := h.at k
  have hal := fun a e => h.alone k (a := a) e
  have CD : Hid (∀ w1, Below w.heap.size w w1 → w1.cell? ⟨gd, 0, none⟩ = some (.pointer (some ⟨d, 0, none⟩))) := Lib.hid (fun w1 hb => (bd.old hb).cell)
  have CK : Hid (∀ w1, Below w.heap.size w w1 → w1.cell? ⟨gk, 0, none⟩ = some (.string ⟨k.toArray⟩)) := Lib.hid (fun w1 hb => (bk.old hb).cell)
  have CM : Hid (∀ w1, Below w.heap.size w w1 → w1.cell? ⟨d, 1, none⟩ = some (.map (some b))) := Lib.hid (fun w1 hb => (h.old hb).c1)
  have CL : Hid (∀ w1, Below w.heap.size w w1 → (Instr.lookup 54 (.map (some b)) (.string ⟨k.toArray⟩) false).run Tryd.prog w1 = .ok (atF k L).v w1) := Lib.hid (fun w1 hb => (h.old hb).look k (by unfold maxLen; omega))
  have HI : Hid ((Tryd.prog.info? 63).map (·.size) = some 2) := Lib.hid (by kernel_rfl)
  have HZ : Hid (∀ w, (zeroValue 63).run Tryd.prog w = .ok (.agg #[.slice none 0 0, .int .i64 0]) w) := Lib.hid (fun w => by kernel_rfl)
  have hnl : L.length ≤ 1000000 := by rw [h.len]; exact hn
  have HSU := Lib.hid (fun w1 => dfsure_any (atF k L) w1)
  have HPUT := Lib.hid (fun w1 hb => at_put h hF hl k (atF k L).b.length (atF k L).b.length (by rw [List.take_length]; exact Nat.le_refl _) hk hnl w1 hb)
  rw [show (fiX k S.X).2.1 = (atF k L).b by rw [← hx]; rfl] at HPUT ⊢
  rw [List.take_length] at HPUT
  unfold Fl.v at HSU
  generalize hXX : withX (k, (atF k L).b, (atF k L).b.length) S.X = XX at HPUT ⊢
  unfold Fl.v at CL
  generalize hp : (atF k L).p = p at *
  generalize hc : (atF k L).c = c at *
  generalize hbb : (atF k L).b.length = n at *
  generalize hsyy : ((atF k L).s : Int) = sy at *
  have HG0 : Hid ((fun (j : Nat) (_ : Value) (w' : World) => (j = 0 → Below w.heap.size w w') ∧ (j = 1 → Eff w w' d { S with X := XX } F)) 0 undef w.drew) := Lib.hid ⟨fun _ => (Below.refl _ w).drew, (fun h => absurd h (by omega))⟩
  clear hp hc hbb hsyy hx hat hal hF h hl hXX
  go_enter Tryd.func61, Tryd.ntmps61
  go_upto_region 0 with fail
  refine wp_region_chain (fun t v => match t with
    | 2 => v = .pointer (some ⟨d, 0, none⟩)
    | 3 => v = .string ⟨k.toArray⟩
    | 4 => v = .pointer (some ⟨d, 0, none⟩)
    | 5 => v = .pointer (some ⟨d, 0, none⟩)
    | 6 => v = .pointer (some ⟨d, 1, none⟩)
    | 7 => v = .map (some b)
    | 8 => v = .string ⟨k.toArray⟩
    | 9 => v = .agg #[.slice p n c, .int .i64 sy]
    | 10 => v = .agg #[.slice p n c, .int .i64 (n : Int)]
    | _ => True) (fun (j : Nat) (_ : Value) (w' : World) => (j = 0 → Below w.heap.size w w') ∧ (j = 1 → Eff w w' d { S with X := XX } F)) [9] 12 (by kernel_rfl) (by decide +kernel) rfl (by decide +kernel) (by decide) (by decide) HG0.out (by
    refine OweAllC.cons (owesC_val 0 (by decide +kernel) (by decide) rfl rfl fun k' a w1 x hk ha hG hV => ?_) ?_
    · skip
      have h0 := ha.outer 0 (by decide +kernel)
      simp only [Act.eval] at h0
      have hb := hG.1 (by omega)
      have cc := CD.out w1 hb
      exact ⟨.pointer (some ⟨d, 0, none⟩), wanted_free rfl, by simp [execOp, go_sem, h0, cc], rfl⟩
    refine OweAllC.cons (owesC_val 0 (by decide +kernel) (by decide) rfl rfl fun k' a w1 x hk ha hG hV => ?_) ?_
    · skip
      have h1 := ha.outer 1 (by decide +kernel)
      simp only [Act.eval] at h1
      have hb := hG.1 (by omega)
      have cc := CK.out w1 hb
      exact ⟨.string ⟨k.toArray⟩, wanted_free rfl, by simp [execOp, go_sem, h1, cc], rfl⟩
    refine OweAllC.cons (owesC_val 0 (by decide +kernel) (by decide) rfl rfl fun k' a w1 x hk ha hG hV => ?_) ?_
    · skip
      have h0 := ha.outer 0 (by decide +kernel)
      simp only [Act.eval] at h0
      have hb := hG.1 (by omega)
      have cc := CD.out w1 hb
      exact ⟨.pointer (some ⟨d, 0, none⟩), wanted_free rfl, by simp [execOp, go_sem, h0, cc], rfl⟩
    refine OweAllC.cons (owesC_val 0 (by decide +kernel) (by decide) rfl rfl fun k' a w1 x hk ha hG hV => ?_) ?_
    · skip
      have h4 : a.tmps.getD 4 undef = .pointer (some ⟨d, 0, none⟩) := hV.get 4 (by decide +kernel)
      exact ⟨.pointer (some ⟨d, 0, none⟩), wanted_free rfl, by simp [execOp, go_sem, h4], rfl⟩
    refine OweAllC.cons (owesC_val 0 (by decide +kernel) (by decide) rfl rfl fun k' a w1 x hk ha hG hV => ?_) ?_
    · skip
      have h5 : a.tmps.getD 5 undef = .pointer (some ⟨d, 0, none⟩) := hV.get 5 (by decide +kernel)
      exact ⟨.pointer (some ⟨d, 1, none⟩), wanted_free rfl, by simp [execOp, go_sem, h5], rfl⟩
    refine OweAllC.cons (owesC_val 0 (by decide +kernel) (by decide) rfl rfl fun k' a w1 x hk ha hG hV => ?_) ?_
    · skip
      have h6 : a.tmps.getD 6 undef = .pointer (some ⟨d, 1, none⟩) := hV.get 6 (by decide +kernel)
      have hb := hG.1 (by omega)
      have cc := CM.out w1 hb
      exact ⟨.map (some b), wanted_free rfl, by simp [execOp, go_sem, h6, cc], rfl⟩
    refine OweAllC.cons (owesC_val 0 (by decide +kernel) (by decide) rfl rfl fun k' a w1 x hk ha hG hV => ?_) ?_
    · skip
      have h1 := ha.outer 1 (by decide +kernel)
      simp only [Act.eval] at h1
      have hb := hG.1 (by omega)
      have cc := CK.out w1 hb
      exact ⟨.string ⟨k.toArray⟩, wanted_free rfl, by simp [execOp, go_sem, h1, cc], rfl⟩
    refine OweAllC.cons (owesC_val 0 (by decide +kernel) (by decide) rfl rfl fun k' a w1 x hk ha hG hV => ?_) ?_
    · skip
      have h7 : a.tmps.getD 7 undef = .map (some b) := hV.get 7 (by decide +kernel)
      have h8 : a.tmps.getD 8 undef = .string ⟨k.toArray⟩ := hV.get 8 (by decide +kernel)
      have hb := hG.1 (by omega)
      have cc := CL.out w1 hb
      exact ⟨.agg #[.slice p n c, .int .i64 sy], wanted_free rfl, by simp [execOp, go_sem, h7, h8, cc], rfl⟩
    refine OweAllC.cons (owesC_side 0 (by decide +kernel) (by decide) rfl rfl 43 fun k' a w1 x hk ha hG hV => ?_) ?_
    · skip
      have h9 : a.tmps.getD 9 undef = .agg #[.slice p n c, .int .i64 sy] := hV.get 9 (by decide +kernel)
      refine ⟨#[.agg #[.slice p n c, .int .i64 sy]], wanted_free rfl, by simp [execOp, resolve, invoke, go_sem, h9], ?_⟩
      refine (HSU.out w1).mono ?_
      rintro r' u2 ⟨rfl, hb2⟩; exact ⟨_, rfl, rfl, (fun h => (hG.1 h).trans (hb2.mono (hG.1 h).size)), (fun h => absurd h (by omega))⟩
    refine OweAllC.cons (owesC_call 0 rfl rfl rfl 41 fun a w1 x ha hG hx hV => ?_) ?_
    · skip
      have h2 : a.tmps.getD 2 undef = .pointer (some ⟨d, 0, none⟩) := hV.get 2 (by decide +kernel)
      have h3 : a.tmps.getD 3 undef = .string ⟨k.toArray⟩ := hV.get 3 (by decide +kernel)
      have h10 : a.tmps.getD 10 undef = .agg #[.slice p n c, .int .i64 (n : Int)] := hV.get 10 (by decide +kernel)
      refine ⟨#[.pointer (some ⟨d, 0, none⟩), .string ⟨k.toArray⟩, .agg #[.slice p n c, .int .i64 (n : Int)]], wanted_free rfl, by simp [execOp, resolve, invoke, go_sem, h2, h3, h10], ?_⟩
      refine (HPUT.out w1 (hG.1 (by omega))).mono ?_
      rintro r u2 ⟨rfl, hE⟩; exact ⟨_, rfl, trivial, (fun h => absurd h (by omega)), fun _ => hE⟩
    exact OweAllC.nil
    ) ?_
  intro f wz xz hG hx hv
  clear hv hx
  have HE := Lib.hid (hG.2 rfl)
  clear hG
  go_end0
  exact ⟨rfl, HE.out⟩
set_option maxRecDepth 20000 in
set_option maxHeartbeats 1000000 in
theorem dkcut1_any {w : World} {d : Nat} {S : St} {F : Nat → Prop} (h : DA w d S F) (gd gk : Nat) (k : List UInt8) (bd : Bx w gd (.pointer (some ⟨d, 0, none⟩))) (bk : Bx w gk (.string ⟨k.toArray⟩)) (gn : Nat) (m : Nat) (bn : Bx w gn (.int .i64 (m : Int))) (hm : m ≤ (fiX k S.X).2.1.length) (hk : k.length ≤ 1000000) (hn : S.X.length ≤ 1000000) :
    Calls Tryd.prog 71 #[.pointer (some ⟨gd, 0, none⟩), .pointer (some ⟨gk, 0, none⟩), .pointer (some ⟨gn, 0, none⟩)] w fun e w' => e = .returned (.tuple #[]) ∧ Eff w w' d { S with X := withX (k, (fiX k S.X).2.1.take m, min (fiX k S.X).2.2 m) S.X } F := by
  obtain ⟨b, L, h, hF, hl⟩ := h
  have hx := atF_x h k
  have hat := h.at k
  have hal := fun a e => h.alone k (a := a) e
  have CD : Hid (∀ w1, Below w.heap.size w w1 → w1.cell? ⟨gd, 0, none⟩ = some (.pointer (some ⟨d, 0, none⟩))) := Lib.hid (fun w1 hb => (bd.old hb).cell)
  have CK : Hid (∀ w1, Below w.heap.size w w1 → w1.cell? ⟨gk, 0, none⟩ = some (.string ⟨k.toArray⟩)) := Lib.hid (fun w1 hb => (bk.old hb).cell)
  have CM : Hid (∀ w1, Below w.heap.size w w1 → w1.cell? ⟨d, 1, none⟩ = some (.map (some b))) := Lib.hid (fun w1 hb => (h.old hb).c1)
  have CL : Hid (∀ w1, Below w.heap.size w w1 → (Instr.lookup 54 (.map (some b)) (.string ⟨k.toArray⟩) false).run Tryd.prog w1 = .ok (atF k L).v w1) := Lib.hid (fun w1 hb => (h.old hb).look k (by unfold maxLen; omega))
  have HI : Hid ((Tryd.prog.info? 63).map (·.size) = some 2) := Lib.hid (by kernel_rfl)
  have HZ : Hid (∀ w, (zeroValue 63).run Tryd.prog w = .ok (.agg #[.slice none 0 0, .int .i64 0]) w) := Lib.hid (fun w => by kernel_rfl)
  have hnl : L.length ≤ 1000000 := by rw [h.len]; exact hn
  have hfb : (fiX k S.X).2.1 = (atF k L).b := by rw [← hx]; rfl
  rw [show (fiX k S.X).2.2 = (atF k L).s by rw [← hx]; rfl]
  have hlt : ((atF k L).b.take m).length = m := by rw [List.length_take]; rw [hfb] at hm; omega
  have HSU := Lib.hid (fun w1 => dffirst_any (atF k L) m w1 (by rw [← hfb]; exact hm) hat.1.cap_le)
  have HPUT := Lib.hid (fun w1 hb => at_put h hF hl k m (min (atF k L).s m) (by rw [hlt]; exact Nat.min_le_right _ _) hk hnl w1 hb)
  have CN : Hid (∀ w1, Below w.heap.size w w1 → w1.cell? ⟨gn, 0, none⟩ = some (.int .i64 (m : Int))) := Lib.hid (fun w1 hb => (bn.old hb).cell)
  unfold Fl.v at HSU
  simp only [hlt] at HPUT HSU
  generalize hXX : withX (k, (fiX k S.X).2.1.take m, min (atF k L).s m) S.X = XX at HPUT ⊢
  generalize hsm : ((min (atF k L).s m : Nat) : Int) = sm at *
  unfold Fl.v at CL
  generalize hp : (atF k L).p = p at *
  generalize hc : (atF k L).c = c at *
  generalize hbb : (atF k L).b.length = n at *
  generalize hsyy : ((atF k L).s : Int) = sy at *
  have HG0 : Hid ((fun (j : Nat) (_ : Value) (w' : World) => (j = 0 → Below w.heap.size w w') ∧ (j = 1 → Eff w w' d { S with X := XX } F)) 0 undef w.drew) := Lib.hid ⟨fun _ => (Below.refl _ w).drew, (fun h => absurd h (by omega))⟩
  clear hp hc hbb hsyy hx hat hal hF h hl hXX hsm hlt hfb hm
  go_enter Tryd.func71, Tryd.ntmps71
  go_upto_region 0 with fail
  refine wp_region_chain (fun t v => match t with
    | 3 => v = .pointer (some ⟨d, 0, none⟩)
    | 4 => v = .string ⟨k.toArray⟩
    | 5 => v = .pointer (some ⟨d, 0, none⟩)
    | 6 => v = .pointer (some ⟨d, 0, none⟩)
    | 7 => v = .pointer (some ⟨d, 1, none⟩)
    | 8 => v = .map (some b)
    | 9 => v = .string ⟨k.toArray⟩
    | 10 => v = .agg #[.slice p n c, .int .i64 sy]
    | 11 => v = .int .i64 (m : Int)
    | 12 => v = .agg #[.slice p m c, .int .i64 sm]
    | _ => True) (fun (j : Nat) (_ : Value) (w' : World) => (j = 0 → Below w.heap.size w w') ∧ (j = 1 → Eff w w' d { S with X := XX } F)) [10] 14 (by kernel_rfl) (by decide +kernel) rfl (by decide +kernel) (by decide) (by decide) HG0.out (by
    refine OweAllC.cons (owesC_val 0 (by decide +kernel) (by decide) rfl rfl fun k' a w1 x hk ha hG hV => ?_) ?_
    · skip
      have h0 := ha.outer 0 (by decide +kernel)
      simp only [Act.eval] at h0
      have hb := hG.1 (by omega)
      have cc := CD.out w1 hb
      exact ⟨.pointer (some ⟨d, 0, none⟩), wanted_free rfl, by simp [execOp, go_sem, h0, cc], rfl⟩
    refine OweAllC.cons (owesC_val 0 (by decide +kernel) (by decide) rfl rfl fun k' a w1 x hk ha hG hV => ?_) ?_
    · skip
      have h1 := ha.outer 1 (by decide +kernel)
      simp only [Act.eval] at h1
      have hb := hG.1 (by omega)
      have cc := CK.out w1 hb
      exact ⟨.string ⟨k.toArray⟩, wanted_free rfl, by simp [execOp, go_sem, h1, cc], rfl⟩
    refine OweAllC.cons (owesC_val 0 (by decide +kernel) (by decide) rfl rfl fun k' a w1 x hk ha hG hV => ?_) ?_
    · skip
      have h0 := ha.outer 0 (by decide +kernel)
      simp only [Act.eval] at h0
      have hb := hG.1 (by omega)
      have cc := CD.out w1 hb
      exact ⟨.pointer (some ⟨d, 0, none⟩), wanted_free rfl, by simp [execOp, go_sem, h0, cc], rfl⟩
    refine OweAllC.cons (owesC_val 0 (by decide +kernel) (by decide) rfl rfl fun k' a w1 x hk ha hG hV => ?_) ?_
    · skip
      have h5 : a.tmps.getD 5 undef = .pointer (some ⟨d, 0, none⟩) := hV.get 5 (by decide +kernel)
      exact ⟨.pointer (some ⟨d, 0, none⟩), wanted_free rfl, by simp [execOp, go_sem, h5], rfl⟩
    refine OweAllC.cons (owesC_val 0 (by decide +kernel) (by decide) rfl rfl fun k' a w1 x hk ha hG hV => ?_) ?_
    · skip
      have h6 : a.tmps.getD 6 undef = .pointer (some ⟨d, 0, none⟩) := hV.get 6 (by decide +kernel)
      exact ⟨.pointer (some ⟨d, 1, none⟩), wanted_free rfl, by simp [execOp, go_sem, h6], rfl⟩
    refine OweAllC.cons (owesC_val 0 (by decide +kernel) (by decide) rfl rfl fun k' a w1 x hk ha hG hV => ?_) ?_
    · skip
      have h7 : a.tmps.getD 7 undef = .pointer (some ⟨d, 1, none⟩) := hV.get 7 (by decide +kernel)
      have hb := hG.1 (by omega)
      have cc := CM.out w1 hb
      exact ⟨.map (some b), wanted_free rfl, by simp [execOp, go_sem, h7, cc], rfl⟩
    refine OweAllC.cons (owesC_val 0 (by decide +kernel) (by decide) rfl rfl fun k' a w1 x hk ha hG hV => ?_) ?_
    · skip
      have h1 := ha.outer 1 (by decide +kernel)
      simp only [Act.eval] at h1
      have hb := hG.1 (by omega)
      have cc := CK.out w1 hb
      exact ⟨.string ⟨k.toArray⟩, wanted_free rfl, by simp [execOp, go_sem, h1, cc], rfl⟩
    refine OweAllC.cons (owesC_val 0 (by decide +kernel) (by decide) rfl rfl fun k' a w1 x hk ha hG hV => ?_) ?_
    · skip
      have h8 : a.tmps.getD 8 undef = .map (some b) := hV.get 8 (by decide +kernel)
      have h9 : a.tmps.getD 9 undef = .string ⟨k.toArray⟩ := hV.get 9 (by decide +kernel)
      have hb := hG.1 (by omega)
      have cc := CL.out w1 hb
      exact ⟨.agg #[.slice p n c, .int .i64 sy], wanted_free rfl, by simp [execOp, go_sem, h8, h9, cc], rfl⟩
    refine OweAllC.cons (owesC_val 0 (by decide +kernel) (by decide) rfl rfl fun k' a w1 x hk ha hG hV => ?_) ?_
    · skip
      have h2 := ha.outer 2 (by decide +kernel)
      simp only [Act.eval] at h2
      have hb := hG.1 (by omega)
      have cc := CN.out w1 hb
      exact ⟨.int .i64 (m : Int), wanted_free rfl, by simp [execOp, go_sem, h2, cc], rfl⟩
    refine OweAllC.cons (owesC_side 0 (by decide +kernel) (by decide) rfl rfl 42 fun k' a w1 x hk ha hG hV => ?_) ?_
    · skip
      have h10 : a.tmps.getD 10 undef = .agg #[.slice p n c, .int .i64 sy] := hV.get 10 (by decide +kernel)
      have h11 : a.tmps.getD 11 undef = .int .i64 (m : Int) := hV.get 11 (by decide +kernel)
      refine ⟨#[.agg #[.slice p n c, .int .i64 sy], .int .i64 (m : Int)], wanted_free rfl, by simp [execOp, resolve, invoke, go_sem, h10, h11], ?_⟩
      refine (HSU.out w1).mono ?_
      rintro r' u2 ⟨rfl, hb2⟩; exact ⟨_, rfl, rfl, (fun h => (hG.1 h).trans (hb2.mono (hG.1 h).size)), (fun h => absurd h (by omega))⟩
    refine OweAllC.cons (owesC_call 0 rfl rfl rfl 41 fun a w1 x ha hG hx hV => ?_) ?_
    · skip
      have h3 : a.tmps.getD 3 undef = .pointer (some ⟨d, 0, none⟩) := hV.get 3 (by decide +kernel)
      have h4 : a.tmps.getD 4 undef = .string ⟨k.toArray⟩ := hV.get 4 (by decide +kernel)
      have h12 : a.tmps.getD 12 undef = .agg #[.slice p m c, .int .i64 sm] := hV.get 12 (by decide +kernel)
      refine ⟨#[.pointer (some ⟨d, 0, none⟩), .string ⟨k.toArray⟩, .agg #[.slice p m c, .int .i64 sm]], wanted_free rfl, by simp [execOp, resolve, invoke, go_sem, h3, h4, h12], ?_⟩
      refine (HPUT.out w1 (hG.1 (by omega))).mono ?_
      rintro r u2 ⟨rfl, hE⟩; exact ⟨_, rfl, trivial, (fun h => absurd h (by omega)), fun _ => hE⟩
    exact OweAllC.nil
    ) ?_
  intro f wz xz hG hx hv
  clear hv hx
  have HE := Lib.hid (hG.2 rfl)
  clear hG
  go_end0
  exact ⟨rfl, HE.out⟩
set_option maxRecDepth 20000 in
set_option maxHeartbeats 1000000 in
theorem dkremove1_any {w : World} {d : Nat} {S : St} {F : Nat → Prop} (h : DA w d S F) (gd gk : Nat) (k : List UInt8) (bd : Bx w gd (.pointer (some ⟨d, 0, none⟩))) (bk : Bx w gk (.string ⟨k.toArray⟩)) (hk : k.length ≤ 1000000) (hn : S.X.length ≤ 1000000) :
    Calls Tryd.prog 70 #[.pointer (some ⟨gd, 0, none⟩), .pointer (some ⟨gk, 0, none⟩)] w fun e w' => e = .returned (.tuple #[]) ∧ Eff w w' d { S with X := wo k S.X } F := by
  obtain ⟨b, L, h, hF, hl⟩ := h
  have hx := atF_x h k
  have hat := h.at k
  have hal := fun a e => h.alone k (a := a) e
  have CD : Hid (∀ w1, Below w.heap.size w w1 → w1.cell? ⟨gd, 0, none⟩ = some (.pointer (some ⟨d, 0, none⟩))) := Lib.hid (fun w1 hb => (bd.old hb).cell)
  have CK : Hid (∀ w1, Below w.heap.size w w1 → w1.cell? ⟨gk, 0, none⟩ = some (.string ⟨k.toArray⟩)) := Lib.hid (fun w1 hb => (bk.old hb).cell)
  have CM : Hid (∀ w1, Below w.heap.size w w1 → w1.cell? ⟨d, 1, none⟩ = some (.map (some b))) := Lib.hid (fun w1 hb => (h.old hb).c1)
  have CL : Hid (∀ w1, Below w.heap.size w w1 → (Instr.lookup 54 (.map (some b)) (.string ⟨k.toArray⟩) false).run Tryd.prog w1 = .ok (atF k L).v w1) := Lib.hid (fun w1 hb => (h.old hb).look k (by unfold maxLen; omega))
  have HI : Hid ((Tryd.prog.info? 63).map (·.size) = some 2) := Lib.hid (by kernel_rfl)
  have HZ : Hid (∀ w, (zeroValue 63).run Tryd.prog w = .ok (.agg #[.slice none 0 0, .int .i64 0]) w) := Lib.hid (fun w => by kernel_rfl)
  have hnl : L.length ≤ 1000000 := by rw [h.len]; exact hn
  have HS : Hid (∀ w1, Below w.heap.size w w1 → ∃ w2, (∀ ty, (Builtin.delete_ #[54, 9] ty #[.map (some b), .string ⟨k.toArray⟩]).run Tryd.prog w1 = .ok (.tuple #[]) w2) ∧ DK w2 d b { S with X := wo k S.X } (woF k L) ∧ Mod (fun i => i = b) w1 w2) := Lib.hid (fun w1 hb => (h.old hb).drop k (by unfold maxLen; omega))
  have HX : Hid (∀ w1 w2, Below w.heap.size w w1 → DK w2 d b { S with X := wo k S.X } (woF k L) → Mod (fun i => i = b) w1 w2 → Eff w w2 d { S with X := wo k S.X } F) := Lib.hid (by
    intro w1 w2 hb hD hm
    exact Eff.mk h hF hl hD (fun f hf a e => .inl (inD_wo hf e)) (((Mod.of_below hb).mono (fun i hi h => by omega)).trans hm (fun i _ e => .inr (.inl e))))
  have HG0 : Hid ((fun (j : Nat) (_ : Value) (w' : World) => (j = 0 → Below w.heap.size w w') ∧ (j = 1 → ∃ w1, Below w.heap.size w w1 ∧ DK w' d b { S with X := wo k S.X } (woF k L) ∧ Mod (fun i => i = b) w1 w')) 0 undef w.drew) := Lib.hid ⟨fun _ => (Below.refl _ w).drew, (fun h => absurd h (by omega))⟩
  clear hx hat hal hF h hl CL
  go_enter Tryd.func70, Tryd.ntmps70
  go_upto_region 0 with fail
  refine wp_region_chain (fun t v => match t with
    | 2 => v = .pointer (some ⟨d, 0, none⟩)
    | 3 => v = .pointer (some ⟨d, 0, none⟩)
    | 4 => v = .pointer (some ⟨d, 1, none⟩)
    | 5 => v = .map (some b)
    | 6 => v = .string ⟨k.toArray⟩
    | _ => True) (fun (j : Nat) (_ : Value) (w' : World) => (j = 0 → Below w.heap.size w w') ∧ (j = 1 → ∃ w1, Below w.heap.size w w1 ∧ DK w' d b { S with X := wo k S.X } (woF k L) ∧ Mod (fun i => i = b) w1 w')) [5] 7 (by kernel_rfl) (by decide +kernel) rfl (by decide +kernel) (by decide) (by decide) HG0.out (by
    refine OweAllC.cons (owesC_val 0 (by decide +kernel) (by decide) rfl rfl fun k' a w1 x hk ha hG hV => ?_) ?_
    · skip
      have h0 := ha.outer 0 (by decide +kernel)
      simp only [Act.eval] at h0
      have hb := hG.1 (by omega)
      have cc := CD.out w1 hb
      exact ⟨.pointer (some ⟨d, 0, none⟩), wanted_free rfl, by simp [execOp, go_sem, h0, cc], rfl⟩
    refine OweAllC.cons (owesC_val 0 (by decide +kernel) (by decide) rfl rfl fun k' a w1 x hk ha hG hV => ?_) ?_
    · skip
      have h2 : a.tmps.getD 2 undef = .pointer (some ⟨d, 0, none⟩) := hV.get 2 (by decide +kernel)
      exact ⟨.pointer (some ⟨d, 0, none⟩), wanted_free rfl, by simp [execOp, go_sem, h2], rfl⟩
    refine OweAllC.cons (owesC_val 0 (by decide +kernel) (by decide) rfl rfl fun k' a w1 x hk ha hG hV => ?_) ?_
    · skip
      have h3 : a.tmps.getD 3 undef = .pointer (some ⟨d, 0, none⟩) := hV.get 3 (by decide +kernel)
      exact ⟨.pointer (some ⟨d, 1, none⟩), wanted_free rfl, by simp [execOp, go_sem, h3], rfl⟩
    refine OweAllC.cons (owesC_val 0 (by decide +kernel) (by decide) rfl rfl fun k' a w1 x hk ha hG hV => ?_) ?_
    · skip
      have h4 : a.tmps.getD 4 undef = .pointer (some ⟨d, 1, none⟩) := hV.get 4 (by decide +kernel)
      have hb := hG.1 (by omega)
      have cc := CM.out w1 hb
      exact ⟨.map (some b), wanted_free rfl, by simp [execOp, go_sem, h4, cc], rfl⟩
    refine OweAllC.cons (owesC_val 0 (by decide +kernel) (by decide) rfl rfl fun k' a w1 x hk ha hG hV => ?_) ?_
    · skip
      have h1 := ha.outer 1 (by decide +kernel)
      simp only [Act.eval] at h1
      have hb := hG.1 (by omega)
      have cc := CK.out w1 hb
      exact ⟨.string ⟨k.toArray⟩, wanted_free rfl, by simp [execOp, go_sem, h1, cc], rfl⟩
    refine OweAllC.cons (owesC_eff 0 rfl rfl rfl fun a w1 x ha hG hx hV => ?_) ?_
    · skip
      have h5 : a.tmps.getD 5 undef = .map (some b) := hV.get 5 (by decide +kernel)
      have h6 : a.tmps.getD 6 undef = .string ⟨k.toArray⟩ := hV.get 6 (by decide +kernel)
      have hb := hG.1 (by omega)
      obtain ⟨w2, hr, hm, hmd⟩ := HS.out w1 hb
      exact ⟨.tuple #[], w2, wanted_free rfl, by simp [go_sem, h5, h6, hr], (fun h => absurd h (by omega)), fun _ => ⟨w1, hb, hm, hmd⟩⟩
    exact OweAllC.nil
    ) ?_
  intro f wz xz hG hx hv
  clear hv hx
  have HE := Lib.hid (hG.2 rfl)
  clear hG
  go_end0
  obtain ⟨w1, hb, hD, hm⟩ := HE.out
  exact ⟨rfl, HX.out w1 _ hb hD hm⟩
end Go.Proofs.YtippakeemfldfaaDoor

namespace Go.Proofs.YtippakeemfldfaaDoor
open Go.RowKit

set_option maxRecDepth 20000 in
set_option maxHeartbeats 1000000 in
theorem dkrename1_any {w : World} {d : Nat} {S : St} {F : Nat → Prop} (h : DA w d S F) (gd gk : Nat) (k : List UInt8) (bd : Bx w gd (.pointer (some ⟨d, 0, none⟩))) (bk : Bx w gk (.string ⟨k.toArray⟩)) (gs : Nat) (t : List UInt8) (bs : Bx w gs (.string ⟨t.toArray⟩)) (ng : ∀ i, i = gd ∨ i = gk ∨ i = gs → ¬ F i) (hk : k.length ≤ 1000000) (ht : t.length ≤ 1000000) (hn : S.X.length ≤ 1000000) :
    Calls Tryd.prog 62 #[.pointer (some ⟨gd, 0, none⟩), .pointer (some ⟨gk, 0, none⟩), .pointer (some ⟨gs, 0, none⟩)] w fun e w' => e = .returned (.tuple #[]) ∧ Eff w w' d { S with X := withX (t, (fiX k S.X).2.1, (fiX k S.X).2.2) (wo k S.X) } F := by
  obtain ⟨b, L, h, hF, hl⟩ := h
  have hx := atF_x h k
  have hat := h.at k
  have hal := fun a e => h.alone k (a := a) e
  have CD : Hid (∀ w1, Below w.heap.size w w1 → w1.cell? ⟨gd, 0, none⟩ = some (.pointer (some ⟨d, 0, none⟩))) := Lib.hid (fun w1 hb => (bd.old hb).cell)
  have CK : Hid (∀ w1, Below w.heap.size w w1 → w1.cell? ⟨gk, 0, none⟩ = some (.string ⟨k.toArray⟩)) := Lib.hid (fun w1 hb => (bk.old hb).cell)
  have CM : Hid (∀ w1, Below w.heap.size w w1 → w1.cell? ⟨d, 1, none⟩ = some (.map (some b))) := Lib.hid (fun w1 hb => (h.old hb).c1)
  have CL : Hid (∀ w1, Below w.heap.size w w1 → (Instr.lookup 54 (.map (some b)) (.string ⟨k.toArray⟩) false).run Tryd.prog w1 = .ok (atF k L).v w1) := Lib.hid (fun w1 hb => (h.old hb).look k (by unfold maxLen; omega))
  have HI : Hid ((Tryd.prog.info? 63).map (·.size) = some 2) := Lib.hid (by kernel_rfl)
  have HZ : Hid (∀ w, (zeroValue 63).run Tryd.prog w = .ok (.agg #[.slice none 0 0, .int .i64 0]) w) := Lib.hid (fun w => by kernel_rfl)
  have hnl : L.length ≤ 1000000 := by rw [h.len]; exact hn
  have HSD : Hid (∀ w1, Below w.heap.size w w1 → ∃ w2, (∀ ty, (Builtin.delete_ #[54, 9] ty #[.map (some b), .string ⟨k.toArray⟩]).run Tryd.prog w1 = .ok (.tuple #[]) w2) ∧ DK w2 d b { S with X := wo k S.X } (woF k L) ∧ Mod (fun i => i = b) w1 w2) := Lib.hid (fun w1 hb => (h.old hb).drop k (by unfold maxLen; omega))
  have HB : Hid (d ≠ b ∧ F b ∧ b < w.heap.size) := Lib.hid ⟨h.ne, hF b (.inr (.inl rfl)), h.map.lt⟩
  have HP : Hid (∀ w1 w2, Below w.heap.size w w1 → DK w2 d b { S with X := wo k S.X } (woF k L) → Mod (fun i => i = b) w1 w2 →
      Calls Tryd.prog 41 #[.pointer (some ⟨d, 0, none⟩), .string ⟨t.toArray⟩, .agg #[.slice (atF k L).p (atF k L).b.length (atF k L).c, .int .i64 ((atF k L).s : Int)]] w2 fun e w' => e = .returned (.tuple #[]) ∧ Eff w w' d { S with X := withX (t, (fiX k S.X).2.1, (fiX k S.X).2.2) (wo k S.X) } F) := Lib.hid (by
    intro w1 w2 hb hD hm
    have hxx := hx
    rw [show (fiX k S.X).2.1 = (atF k L).b by rw [← hxx]; rfl, show (fiX k S.X).2.2 = (atF k L).s by rw [← hxx]; rfl]
    exact put_eff h hF hl ⟨t, (atF k L).b, (atF k L).s, (atF k L).p, (atF k L).c⟩ (hD.toX t) ((hat.1.old hb).kept hm (fun a e => (at_ok h k e).2.2)) hat.2.1
      (fun a e => ⟨(at_ok h k e).2.1, (at_ok h k e).2.2, fun g hg a' e' => h.alone k e g (List.mem_filter.1 hg).1 a' e', .inl (inD_at h k e)⟩)
      (fun g hg a e => inD_wo hg e) (((Mod.of_below hb).mono (fun i hi h => by omega)).trans hm (fun i _ e => .inr (.inl e))) ht (Nat.le_trans (List.length_filter_le _ _) hnl))
  unfold Fl.v at CL
  generalize hp : (atF k L).p = p at *
  generalize hc : (atF k L).c = c at *
  generalize hbb : (atF k L).b.length = n at *
  generalize hsyy : ((atF k L).s : Int) = sy at *
  have HV : Hid (∀ v ∈ (#[.slice p n c, .int .i64 sy] : Array Value).toList, v.oneCell' = true) := Lib.hid (by intro v hv; simp at hv; rcases hv with rfl | rfl <;> rfl)
  have HG0 : Hid ((fun (j : Nat) (_ : Value) (w1 : World) => Below w.heap.size w w1 ∧ (j = 0 → w1 = w.drew) ∧ (j = 1 → w1 = w.drew.alloc (.cells #[.slice none 0 0, .int .i64 0] 63)) ∧ (j = 2 → w1 = (w.drew.alloc (.cells #[.slice none 0 0, .int .i64 0] 63)).setRow w.heap.size #[.slice p n c, .int .i64 sy])) 0 undef w.drew) := Lib.hid ⟨(Below.refl _ w).drew, fun _ => rfl, (fun h => absurd h (by omega)), (fun h => absurd h (by omega))⟩
  clear hp hc hbb hsyy hx hat hal hF h hl
  go_enter Tryd.func62, Tryd.ntmps62
  go_upto_region 0 with fail
  refine wp_region_chain (fun t v => match t with
    | 4 => v = .pointer (some ⟨d, 0, none⟩)
    | 5 => v = .pointer (some ⟨d, 0, none⟩)
    | 6 => v = .pointer (some ⟨d, 1, none⟩)
    | 7 => v = .map (some b)
    | 8 => v = .string ⟨k.toArray⟩
    | 9 => v = .agg #[.slice p n c, .int .i64 sy]
    | 3 => v = .pointer (some ⟨w.heap.size, 0, none⟩)
    | _ => True) (fun (j : Nat) (_ : Value) (w1 : World) => Below w.heap.size w w1 ∧ (j = 0 → w1 = w.drew) ∧ (j = 1 → w1 = w.drew.alloc (.cells #[.slice none 0 0, .int .i64 0] 63)) ∧ (j = 2 → w1 = (w.drew.alloc (.cells #[.slice none 0 0, .int .i64 0] 63)).setRow w.heap.size #[.slice p n c, .int .i64 sy])) [6, 7] 19 (by kernel_rfl) (by decide +kernel) rfl (by decide +kernel) (by decide) (by decide) HG0.out (by
    refine OweAllC.cons (owesC_val 1 (by decide +kernel) (by decide) rfl rfl fun k' a w1 x hk ha hG hV => ?_) ?_
    · skip
      have h0 := ha.outer 0 (by decide +kernel)
      simp only [Act.eval] at h0
      have hb := hG.1
      have cc := CD.out w1 hb
      exact ⟨.pointer (some ⟨d, 0, none⟩), wanted_free rfl, by simp [execOp, go_sem, h0, cc], rfl⟩
    refine OweAllC.cons (owesC_val 1 (by decide +kernel) (by decide) rfl rfl fun k' a w1 x hk ha hG hV => ?_) ?_
    · skip
      have h4 : a.tmps.getD 4 undef = .pointer (some ⟨d, 0, none⟩) := hV.get 4 (by decide +kernel)
      exact ⟨.pointer (some ⟨d, 0, none⟩), wanted_free rfl, by simp [execOp, go_sem, h4], rfl⟩
    refine OweAllC.cons (owesC_val 1 (by decide +kernel) (by decide) rfl rfl fun k' a w1 x hk ha hG hV => ?_) ?_
    · skip
      have h5 : a.tmps.getD 5 undef = .pointer (some ⟨d, 0, none⟩) := hV.get 5 (by decide +kernel)
      exact ⟨.pointer (some ⟨d, 1, none⟩), wanted_free rfl, by simp [execOp, go_sem, h5], rfl⟩
    refine OweAllC.cons (owesC_val 1 (by decide +kernel) (by decide) rfl rfl fun k' a w1 x hk ha hG hV => ?_) ?_
    · skip
      have h6 : a.tmps.getD 6 undef = .pointer (some ⟨d, 1, none⟩) := hV.get 6 (by decide +kernel)
      have hb := hG.1
      have cc := CM.out w1 hb
      exact ⟨.map (some b), wanted_free rfl, by simp [execOp, go_sem, h6, cc], rfl⟩
    refine OweAllC.cons (owesC_val 1 (by decide +kernel) (by decide) rfl rfl fun k' a w1 x hk ha hG hV => ?_) ?_
    · skip
      have h1 := ha.outer 1 (by decide +kernel)
      simp only [Act.eval] at h1
      have hb := hG.1
      have cc := CK.out w1 hb
      exact ⟨.string ⟨k.toArray⟩, wanted_free rfl, by simp [execOp, go_sem, h1, cc], rfl⟩
    refine OweAllC.cons (owesC_val 1 (by decide +kernel) (by decide) rfl rfl fun k' a w1 x hk ha hG hV => ?_) ?_
    · skip
      have h7 : a.tmps.getD 7 undef = .map (some b) := hV.get 7 (by decide +kernel)
      have h8 : a.tmps.getD 8 undef = .string ⟨k.toArray⟩ := hV.get 8 (by decide +kernel)
      have hb := hG.1
      have cc := CL.out w1 hb
      exact ⟨.agg #[.slice p n c, .int .i64 sy], wanted_free rfl, by simp [execOp, go_sem, h7, h8, cc], rfl⟩
    refine OweAllC.cons (owesC_mem 0 rfl rfl rfl fun a w1 x ha hG hx hV => ?_) ?_
    · skip
      obtain rfl := hG.2.1 rfl
      refine ⟨.pointer (some ⟨w.heap.size, 0, none⟩), w.drew.alloc (.cells #[.slice none 0 0, .int .i64 0] 63), wanted_free rfl, by simp [execOp, go_sem, HZ.out], rfl, hG.1.alloc (Nat.le_refl _) _, (fun h => absurd h (by omega)), fun _ => rfl, (fun h => absurd h (by omega))⟩
    refine OweAllC.cons (owesC_store 1 rfl rfl rfl fun a w1 x ha hG hx hV => ?_) ?_
    · skip
      have h3 : a.tmps.getD 3 undef = .pointer (some ⟨w.heap.size, 0, none⟩) := hV.get 3 (by decide +kernel)
      have h9 : a.tmps.getD 9 undef = .agg #[.slice p n c, .int .i64 sy] := hV.get 9 (by decide +kernel)
      obtain rfl := hG.2.2.1 rfl
      refine ⟨(w.drew.alloc (.cells #[.slice none 0 0, .int .i64 0] 63)).setRow w.heap.size #[.slice p n c, .int .i64 sy], wanted_free rfl, exec_store_row 63 (.tmp 3) (.tmp 9) rfl w.heap.size h3 63 _ _ h9 (heap_alloc_new w.drew (.cells #[.slice none 0 0, .int .i64 0] 63)) rfl HI.out HV.out, ?_, (fun h => absurd h (by omega)), (fun h => absurd h (by omega)), fun _ => rfl⟩
      exact ((((Mod.refl (fun _ => False) w).drew.alloc _).setRow (g := w.heap.size) _).to_below (Nat.le_refl _) (by rintro k hk (h | h); exact h; omega))
    exact OweAllC.nil
    ) ?_
  intro f wz xz hG hx hv
  have e3 : f 3 = .pointer (some ⟨w.heap.size, 0, none⟩) := hv 6 _ 3 rfl rfl
  first | (rename_i hK; refine hK _ _ ?_; clear hK) | (rename_i hK _; refine hK _ _ ?_; clear hK) | (rename_i hK _ _; refine hK _ _ ?_; clear hK) | (rename_i hK _ _ _; refine hK _ _ ?_; clear hK)
  clear hv hx
  simp only [dsts, puts, List.filterMap_cons, List.filterMap_nil, List.foldl_cons, List.foldl_nil, Act.put, List.setIfInBounds_toArray, List.set_cons_succ, List.set_cons_zero, e3]
  clear e3
  obtain ⟨hB1, _, _, hE1⟩ := hG
  have hW1 := hE1 rfl
  have hrow : wz.heap[w.heap.size]? = some (.cells #[.slice p n c, .int .i64 sy] 63 (0, 0)) := by rw [hW1]; exact setRow_heap (w.drew.alloc (.cells #[.slice none 0 0, .int .i64 0] 63)) w.heap.size _ _ 63 (0, 0) (heap_alloc_new _ _)
  have HB1 := Lib.hid hB1
  have HRW := Lib.hid hrow
  clear hE1 hW1 hB1 hrow HG0
  generalize hgw : w.heap.size = g at *
  have HGW := Lib.hid hgw
  clear hgw
  obtain ⟨W1, hW1⟩ : ∃ W1, W1 = wz := ⟨_, rfl⟩
  rw [← hW1]
  rw [← hW1] at HB1 HRW
  clear hW1
  have CD0 := CD
  have CK0 := CK
  have CM0 := CM
  clear CD CK CM
  have hle : ∀ w1, Below W1.heap.size W1 w1 → Below g w w1 := fun w1 hb => HB1.out.trans (hb.mono (by have := HB1.out.size; have := HGW.out; omega))
  have CD : Hid (∀ w1, Below W1.heap.size W1 w1 → w1.cell? ⟨gd, 0, none⟩ = some (.pointer (some ⟨d, 0, none⟩))) := Lib.hid (fun w1 hb => CD0.out w1 (hle w1 hb))
  have CK : Hid (∀ w1, Below W1.heap.size W1 w1 → w1.cell? ⟨gk, 0, none⟩ = some (.string ⟨k.toArray⟩)) := Lib.hid (fun w1 hb => CK0.out w1 (hle w1 hb))
  have CM : Hid (∀ w1, Below W1.heap.size W1 w1 → w1.cell? ⟨d, 1, none⟩ = some (.map (some b))) := Lib.hid (fun w1 hb => CM0.out w1 (hle w1 hb))
  have HS := Lib.hid (fun w1 hb => HSD.out w1 (hle w1 hb))
  have HLE := Lib.hid hle
  have HG0 : Hid ((fun (j : Nat) (_ : Value) (w' : World) => (j = 0 → Below W1.heap.size W1 w') ∧ (j = 1 → ∃ w1, Below W1.heap.size W1 w1 ∧ DK w' d b { S with X := wo k S.X } (woF k L) ∧ Mod (fun i => i = b) w1 w')) 0 undef W1.drew) := Lib.hid ⟨fun _ => (Below.refl _ W1).drew, (fun h => absurd h (by omega))⟩
  clear hle CD0 CK0 CM0 CL HZ HI HV
  go_upto_region 1 with fail
  refine wp_region_chain (fun t v => match t with
    | 10 => v = .pointer (some ⟨d, 0, none⟩)
    | 11 => v = .pointer (some ⟨d, 0, none⟩)
    | 12 => v = .pointer (some ⟨d, 1, none⟩)
    | 13 => v = .map (some b)
    | 14 => v = .string ⟨k.toArray⟩
    | _ => True) (fun (j : Nat) (_ : Value) (w' : World) => (j = 0 → Below W1.heap.size W1 w') ∧ (j = 1 → ∃ w1, Below W1.heap.size W1 w1 ∧ DK w' d b { S with X := wo k S.X } (woF k L) ∧ Mod (fun i => i = b) w1 w')) [5] 19 (by kernel_rfl) (by decide +kernel) rfl (by decide +kernel) (by decide) (by decide) HG0.out (by
    refine OweAllC.cons (owesC_val 0 (by decide +kernel) (by decide) rfl rfl fun k' a w1 x hk ha hG hV => ?_) ?_
    · skip
      have h0 := ha.outer 0 (by decide +kernel)
      simp only [Act.eval] at h0
      have hb := hG.1 (by omega)
      have cc := CD.out w1 hb
      exact ⟨.pointer (some ⟨d, 0, none⟩), wanted_free rfl, by simp [execOp, go_sem, h0, cc], rfl⟩
    refine OweAllC.cons (owesC_val 0 (by decide +kernel) (by decide) rfl rfl fun k' a w1 x hk ha hG hV => ?_) ?_
    · skip
      have h10 : a.tmps.getD 10 undef = .pointer (some ⟨d, 0, none⟩) := hV.get 10 (by decide +kernel)
      exact ⟨.pointer (some ⟨d, 0, none⟩), wanted_free rfl, by simp [execOp, go_sem, h10], rfl⟩
    refine OweAllC.cons (owesC_val 0 (by decide +kernel) (by decide) rfl rfl fun k' a w1 x hk ha hG hV => ?_) ?_
    · skip
      have h11 : a.tmps.getD 11 undef = .pointer (some ⟨d, 0, none⟩) := hV.get 11 (by decide +kernel)
      exact ⟨.pointer (some ⟨d, 1, none⟩), wanted_free rfl, by simp [execOp, go_sem, h11], rfl⟩
    refine OweAllC.cons (owesC_val 0 (by decide +kernel) (by decide) rfl rfl fun k' a w1 x hk ha hG hV => ?_) ?_
    · skip
      have h12 : a.tmps.getD 12 undef = .pointer (some ⟨d, 1, none⟩) := hV.get 12 (by decide +kernel)
      have hb := hG.1 (by omega)
      have cc := CM.out w1 hb
      exact ⟨.map (some b), wanted_free rfl, by simp [execOp, go_sem, h12, cc], rfl⟩
    refine OweAllC.cons (owesC_val 0 (by decide +kernel) (by decide) rfl rfl fun k' a w1 x hk ha hG hV => ?_) ?_
    · skip
      have h1 := ha.outer 1 (by decide +kernel)
      simp only [Act.eval] at h1
      have hb := hG.1 (by omega)
      have cc := CK.out w1 hb
      exact ⟨.string ⟨k.toArray⟩, wanted_free rfl, by simp [execOp, go_sem, h1, cc], rfl⟩
    refine OweAllC.cons (owesC_eff 0 rfl rfl rfl fun a w1 x ha hG hx hV => ?_) ?_
    · skip
      have h13 : a.tmps.getD 13 undef = .map (some b) := hV.get 13 (by decide +kernel)
      have h14 : a.tmps.getD 14 undef = .string ⟨k.toArray⟩ := hV.get 14 (by decide +kernel)
      have hb := hG.1 (by omega)
      obtain ⟨w2, hr, hm, hmd⟩ := HS.out w1 hb
      exact ⟨.tuple #[], w2, wanted_free rfl, by simp [go_sem, h13, h14, hr], (fun h => absurd h (by omega)), fun _ => ⟨w1, hb, hm, hmd⟩⟩
    exact OweAllC.nil
    ) ?_
  intro f W2 xz hG hx hv
  first | (rename_i hK; refine hK _ _ ?_; clear hK) | (rename_i hK _; refine hK _ _ ?_; clear hK) | (rename_i hK _ _; refine hK _ _ ?_; clear hK) | (rename_i hK _ _ _; refine hK _ _ ?_; clear hK)
  clear hv hx
  simp only [dsts, puts, List.filterMap_cons, List.filterMap_nil, List.foldl_cons, List.foldl_nil, Act.put, List.setIfInBounds_toArray, List.set_cons_succ, List.set_cons_zero]
  obtain ⟨w5, hb5, hD5, hm5⟩ := hG.2 rfl
  have hbw := HLE.out w5 hb5
  have hgl := (Array.getElem?_eq_some_iff.1 HRW.out).1
  have hr5 : W2.heap[g]? = some (.cells #[.slice p n c, .int .i64 sy] 63 (0, 0)) := (hm5.block g (Nat.lt_of_lt_of_le hgl hb5.size) (by have := HB.out.2.2; have := HGW.out; omega)).trans ((hb5.block g hgl).trans HRW.out)
  have c5d := ((bd.old (by rw [HGW.out]; exact hbw)).kept hm5 (fun e => ng gd (.inl rfl) (e ▸ HB.out.2.1))).cell
  have c5s := ((bs.old (by rw [HGW.out]; exact hbw)).kept hm5 (fun e => ng gs (.inr (.inr rfl)) (e ▸ HB.out.2.1))).cell
  have c50 : W2.cell? ⟨g, 0, none⟩ = some (.slice p n c) := by unfold World.cell?; rw [hr5]; rfl
  have c51 : W2.cell? ⟨g, 1, none⟩ = some (.int .i64 sy) := by unfold World.cell?; rw [hr5]; rfl
  have HPUT := Lib.hid (HP.out w5 _ hbw hD5 hm5)
  clear hG hm5 hD5 hbw hb5 hr5 HS HSD HG0
  go_wp2_with fail
  refine HPUT.out.mono ?_
  rintro r w6 ⟨rfl, hE⟩
  have HE := Lib.hid hE
  clear hE
  go_wp2_with fail
  go_end0
  exact ⟨rfl, HE.out⟩
end Go.Proofs.YtippakeemfldfaaDoor

namespace Go.Proofs.YtippakeemfldfaaDoor
open Go.RowKit Go.Sort Go.Maps

theorem keyed9 : Keyed Tryd.prog 9 := string_keyed Tryd.underlying9
theorem rgs_same {w w' : World} {b r n cnt : Nat} {D : DataW Value} {left : Lit → Bool} (h : w.ranges Tryd.prog 9 RV b r n D left cnt) (hb : w'.heap[b]? = w.heap[b]?) (hr : w'.heap[r]? = w.heap[r]?) : w'.ranges Tryd.prog 9 RV b r n D left cnt := by
  obtain ⟨es, clock, since, seen, c0, h1, h2, h3, h4, h5, h6⟩ := h
  exact ⟨es, clock, since, seen, c0, hb.trans h1, h2, h3, h4, hr.trans h5, h6⟩
theorem fiX_self {X : List FX} (h : SrtX X) {x : FX} (hx : x ∈ X) : fiX x.1 X = x := by
  have hp := srt_ne h
  unfold fiX
  have : ∀ {A : List FX}, A.Pairwise (fun x y => x.1 ≠ y.1) → x ∈ A → A.find? (fun y => y.1 == x.1) = some x := by
    intro A
    induction A with
    | nil => intro _ hx; cases hx
    | cons y l ih =>
      intro h hx
      obtain ⟨h1, h2⟩ := List.pairwise_cons.1 h
      rcases List.mem_cons.1 hx with rfl | hx
      · rw [List.find?_cons_of_pos (by simp)]
      · rw [List.find?_cons_of_neg (by have := h1 x hx; simpa using this)]
        exact ih h2 hx
  rw [this hp hx]
theorem fiX_none {X : List FX} {k : List UInt8} (h : hasX k X = false) : fiX k X = (k, [], 0) := by
  unfold fiX
  have : X.find? (fun x => x.1 == k) = none := by
    rw [List.find?_eq_none]
    intro x hx e
    unfold hasX at h
    rw [List.any_eq_false] at h
    exact h x hx e
  rw [this]
theorem fiX_key (k : List UInt8) (X : List FX) : (fiX k X).1 = k := by
  unfold fiX
  cases h : X.find? (fun x => x.1 == k) with
  | none => rfl
  | some x => have := List.find?_some h; simpa using this
theorem fiX_mem {X : List FX} {k : List UInt8} (h : hasX k X = true) : fiX k X ∈ X := by
  unfold fiX
  cases hf : X.find? (fun x => x.1 == k) with
  | none =>
    rw [List.find?_eq_none] at hf
    unfold hasX at h
    rw [List.any_eq_true] at h
    obtain ⟨x, hx, e⟩ := h
    exact absurd e (hf x hx)
  | some x => exact List.mem_of_find?_eq_some hf
theorem fiX_len {X : List FX} {B : Nat} (hu : ∀ x ∈ X, x.2.1.length ≤ B) (k : List UInt8) : (fiX k X).2.1.length ≤ B := by
  cases h : hasX k X with
  | true => exact hu _ (fiX_mem h)
  | false => rw [fiX_none h]; simp
theorem map_fiX {X : List FX} (h : SrtX X) : (X.map fun x => fiX x.1 X) = X := by
  have : ∀ A : List FX, (∀ x ∈ A, x ∈ X) → (A.map fun x => fiX x.1 X) = A := by
    intro A
    induction A with
    | nil => intro _; rfl
    | cons x l ih => intro hA; rw [List.map_cons, fiX_self h (hA x (List.mem_cons_self ..)), ih (fun y hy => hA y (List.mem_cons_of_mem _ hy))]
  exact this X (fun _ hx => hx)
theorem usedX_app (A B : List FX) : usedX (A ++ B) = usedX A + usedX B := by
  induction A with
  | nil => simp [usedX]
  | cons x l ih => simp only [List.cons_append, usedX, ih]; omega
theorem usedX_le {X : List FX} {B : Nat} (hu : ∀ x ∈ X, x.2.1.length ≤ B) : usedX X ≤ X.length * B := by
  induction X with
  | nil => simp [usedX]
  | cons x l ih =>
    have h1 := hu x (List.mem_cons_self ..)
    have h2 := ih (fun y hy => hu y (List.mem_cons_of_mem _ hy))
    simp only [usedX, List.length_cons, Nat.add_mul]
    omega
/-- A loop over the disk's map. -/
structure RngD (w wr : World) (b ri : Nat) (L : List Fl) (left : Lit → Bool) (cnt : Nat) (ks : List (List UInt8)) : Prop where
  rg : wr.ranges Tryd.prog 9 RV b ri L.length (dOf (L.map entD)) left cnt
  co : Collected (dOf (L.map entD)) left ks
  le : ks.length + cnt ≤ L.length
  m : Below w.heap.size w wr
section
variable {w : World} {d b : Nat} {S : St} {L : List Fl}
theorem DK.keys (h : DK w d b S L) {wr : World} {ri n cnt : Nat} {left : Lit → Bool} {ks : List (List UInt8)} (co : Collected (dOf (L.map entD)) left ks) (rg : wr.ranges Tryd.prog 9 RV b ri n (dOf (L.map entD)) left cnt) (hl : ∀ kl, left kl = false) : ks.Perm (S.X.map (·.1)) := by
  have hp := co.perm rg.owns keyed9 Tryd.underlying9 hl
  refine hp.trans ((strKeys_dOf _).trans ?_)
  rw [List.map_map]
  have := h.pm.map (·.1)
  rw [List.map_map] at this
  exact this
theorem DK.val (h : DK w d b S L) {x : List UInt8} {v : Value} (hat : ∀ zd, (dOf (L.map entD)).atKey (.string x) zd = .held v) : v = (atF x L).v ∧ hasX x S.X = true := by
  have h1 := hat (.held (noFl x).v)
  rw [atKey_dOf h.map.ap, get_entD] at h1
  refine ⟨by injection h1 with h1; exact h1.symm, ?_⟩
  have hh := Maps.has_true_of_atKey hat
  rw [has_dOf, has_entD, hasL_eq h] at hh
  exact hh
end
set_option maxRecDepth 20000 in
set_option maxHeartbeats 2000000 in
theorem dkused_any {w : World} {d : Nat} {S : St} {F : Nat → Prop} (h : DA w d S F) (hn : S.X.length ≤ 1000000) (hu : ∀ x ∈ S.X, x.2.1.length ≤ 2000000000) :
    Calls Tryd.prog 10 #[.pointer (some ⟨d, 0, none⟩)] w fun e w' => e = .returned (.int .i64 (usedX S.X : Nat)) ∧ Below w.heap.size w w' := by
  obtain ⟨b, L, h, _, _⟩ := h
  have c1 := h.c1
  have hown := h.map.own
  rw [List.length_map] at hown
  have hnl : L.length ≤ 1000000 := by rw [h.len]; exact hn
  have HE : Hid (∀ wr ri cnt left ks, RngD w wr b ri L left cnt ks → (∀ kl, left kl = false) → usedX (ks.map fun k => fiX k S.X) = usedX S.X) := Lib.hid (by
    intro wr ri cnt left ks hR hl
    have hp := (h.keys hR.co hR.rg hl).map fun k => fiX k S.X
    rw [List.map_map] at hp
    rw [usedX_perm hp]
    congr 1
    exact map_fiX h.so)
  have HV : Hid (∀ x v, (∀ zd, (dOf (L.map entD)).atKey (.string x) zd = .held v) → ∃ p n c sy, v = .agg #[.slice p n c, .int .i64 sy] ∧ n = (fiX x S.X).2.1.length ∧ n ≤ 2000000000) := Lib.hid (by
    intro x v hat
    obtain ⟨rfl, _⟩ := h.val hat
    refine ⟨_, _, _, _, rfl, ?_, ?_⟩
    · rw [← atF_x h]; rfl
    · have := fiX_len hu x; rw [← atF_x h] at this; exact this)
  have HU : Hid (∀ ks : List (List UInt8), usedX (ks.map fun k => fiX k S.X) ≤ ks.length * 2000000000) := Lib.hid (by
    intro ks
    have := usedX_le (X := ks.map fun k => fiX k S.X) (B := 2000000000) (by intro y hy; obtain ⟨k, _, rfl⟩ := List.mem_map.1 hy; exact fiX_len hu k)
    rwa [List.length_map] at this)
  have HNL := Lib.hid hnl
  have HI : Hid ((Tryd.prog.info? 63).map (·.size) = some 2) := Lib.hid (by kernel_rfl)
  have HBL := Lib.hid h.map.lt
  clear h hn hu hnl
  go_enter Tryd.func10, Tryd.ntmps10
  go_wp2_with (first
    | (at_range; refine wpList_range_own _ rfl _ 54 rfl 9 63 keyed9 Tryd.underlying54 _ b L.length _ rfl hown ?_; intro w0 hrg0 hg0 hs0)
    | go_in)
  go_frame
  have HK0 : Hid (RngD w w0 b w.heap.size L (Maps.has (dOf (L.map entD))) (Maps.size (dOf (L.map entD))) []) := Lib.hid
    ⟨hrg0, Collected.start _, by rw [size_dOf]; simp, (Below.refl _ w).grown hg0 (by simp) (fun j hj => by cases hj)⟩
  clear hrg0 hg0 hs0 hown c1
  generalize hri : w.heap.size = ri at HK0 HBL ⊢
  have HRI := Lib.hid hri
  clear hri
  go_loopw [3, 5] (fun s3 _ wr => ∃ n : Nat, s3 = .int .i64 (n : Int) ∧ Hid (∃ left cnt ks, n = usedX (ks.map fun k => fiX k S.X) ∧ RngD w wr b ri L left cnt ks)) (fun _ _ wr => wr.rangeLeft b ri)
  case atStart => exact ⟨0, rfl, Lib.hid ⟨_, _, [], rfl, HK0.out⟩⟩
  case round =>
    obtain ⟨n, rfl, hR⟩ := hrel
    obtain ⟨left, cnt, ks, hn, hR⟩ := hR.out
    have hrg := hR.rg
    have HR := Lib.hid hR
    have HNN := Lib.hid hn
    clear hR hn HK0
    go_wp2_with (first
      | (at_next; refine wpList_next_ranges _ rfl _ rfl 9 keyed9 RV encStr (fun v : Value => v) (fun key kl hk => by obtain ⟨x, hx, _⟩ := Maps.keyOf_str Tryd.underlying9 hk; exact ⟨x, hx⟩) (fun v y hv => ⟨v, rfl⟩) b ri L.length _ _ _ rfl hrg ?_ ?_)
      | go_in)
    · intro hc0 hl0
      have hfin := HE.out wr ri cnt left ks HR.out hl0
      rw [← HNN.out] at hfin
      have HB := Lib.hid HR.out.m
      subst hfin
      clear hrg hl0 hc0
      go_wp2_with fail
      go_ret
      exact ⟨rfl, HB.out⟩
    · intro x v kl yd yp w1 cnt1 hkey hlk hv hv2 hat hrg1 hlt hg1 hs1 hen
      obtain ⟨x', ex, rfl, _⟩ := Maps.keyOf_str Tryd.underlying9 hkey
      obtain rfl : x = x' := encStr_inj ex
      subst hv
      obtain ⟨p, m, c, sy, rfl, hm1, hm2⟩ := HV.out x v hat
      have HC1 := Lib.hid (HR.out.co.step hlk hat)
      have hb1 : Below w.heap.size w w1 := HR.out.m.grown hg1 HR.out.m.size (fun j e => by cases e; have := HRI.out; omega)
      have hrl := hrg1.lt
      have hsum : usedX ((ks ++ [x]).map fun k => fiX k S.X) = n + m := by rw [List.map_append, usedX_app, ← HNN.out, hm1]; simp [usedX]
      have hbnd : n + m ≤ 3000000000000000 := by
        have h1 := HU.out (ks ++ [x])
        rw [hsum] at h1
        have h2 := HR.out.le
        have h3 := HNL.out
        rw [List.length_append, List.length_singleton, Nat.add_mul] at h1
        have h4 : ks.length * 2000000000 ≤ 1000000 * 2000000000 := Nat.mul_le_mul_right _ (by omega)
        omega
      have hwr : IntKind.i64.wrap ((n : Int) + (m : Int)) = (n + m : Nat) := by rw [IntKind.wrap_i64]; omega
      have hr1 : (w1.alloc (.cells #[.slice none 0 0, .int .i64 0] 63)).heap[w1.heap.size]? = some (.cells #[.slice none 0 0, .int .i64 0] 63 (0, 0)) := heap_alloc_new _ _
      have hV : ∀ u ∈ (#[.slice p m c, .int .i64 sy] : Array Value).toList, u.oneCell' = true := by intro u hu; simp at hu; rcases hu with rfl | rfl <;> rfl
      have HSUM := Lib.hid hsum
      have HRG := Lib.hid hrg1
      have HB1 := Lib.hid hb1
      have HLT := Lib.hid hlt
      have HRL := Lib.hid hrl
      have HOLD := Lib.hid hrg
      have HI2 := HI.out
      clear hkey hlk hv2 hat hrg1 hlt hg1 hs1 ex hrg hb1 hrl hsum hm1 hm2 hbnd
      go_upto_region 5 with (refine wpList_store_row rfl rfl 63 (.tmp 5) (.tmp 14) rfl w1.heap.size rfl 63 _ #[.slice p m c, .int .i64 sy] rfl hr1 rfl HI2 hV ?_)
      obtain ⟨W, hW⟩ : ∃ W, W = (w1.alloc (.cells #[.slice none 0 0, .int .i64 0] 63)).setRow w1.heap.size #[.slice p m c, .int .i64 sy] := ⟨_, rfl⟩
      have hbW : Below w1.heap.size w1 W := by rw [hW]; exact (((Mod.refl (fun _ => False) w1).alloc _).setRow (g := w1.heap.size) _).to_below (Nat.le_refl _) (by rintro k hk (h | h); exact h; omega)
      have hcW : W.cell? ⟨w1.heap.size, 0, none⟩ = some (.slice p m c) := by rw [hW]; unfold World.cell?; rw [setRow_heap _ _ _ _ 63 (0, 0) hr1]; rfl
      rw [← hW]
      have HBW := Lib.hid hbW
      clear hW hbW hr1 hV
      go_wp2_with fail
      go_roundw
      case rel =>
        have hK : RngD w W b ri L (fun z => left z && !z.sameKey (.string x)) cnt1 (ks ++ [x]) → ∃ n' : Nat, Value.int .i64 ((n + m : Nat) : Int) = .int .i64 (n' : Int) ∧ Hid (∃ left cnt ks, n' = usedX (ks.map fun k => fiX k S.X) ∧ RngD w W b ri L left cnt ks) :=
          fun h => ⟨n + m, rfl, Lib.hid ⟨_, cnt1, ks ++ [x], HSUM.out.symm, h⟩⟩
        exact hK ⟨rgs_same HRG.out (HBW.out.block b (by have := HBL.out; have := HRL.out; omega)) (HBW.out.block ri HRL.out), HC1.out, by have := HR.out.le; have := HLT.out; rw [List.length_append]; simp; omega, HB1.out.trans (HBW.out.mono HB1.out.size)⟩
      case measure =>
        rw [(rgs_same HRG.out (HBW.out.block b (by have := HBL.out; have := HRL.out; omega)) (HBW.out.block ri HRL.out)).left_eq, HOLD.out.left_eq]
        exact HLT.out
end Go.Proofs.YtippakeemfldfaaDoor

namespace Go.Proofs.YtippakeemfldfaaDoor
open Go.RowKit

/-- What a disk's numbers may be. -/
structure Ok (S : St) : Prop where
  n : S.X.length ≤ 100000
  f : ∀ x ∈ S.X, x.2.1.length ≤ 2000000000
  k : ∀ x ∈ S.X, x.1.length ≤ 1000000
  r0 : 0 ≤ S.rm
  r1 : S.rm ≤ 2000000000
  d0 : 0 ≤ S.dd
  d1 : S.dd ≤ 1000000000000
  l0 : -1 ≤ S.lf
  l1 : S.lf ≤ 9223372036854775807
def wrN (S : St) (k : List UInt8) : Int := if hasX k S.X then 0 else 7
def wrA (S : St) (s : List UInt8) : Int := if ((s.length : Int) > S.rm - (usedX S.X : Nat)) then 5 else 0
def apX (S : St) (k s : List UInt8) : List FX := withX (k, (fiX k S.X).2.1 ++ s, (fiX k S.X).2.2) S.X
def syX (S : St) (k : List UInt8) : List FX := withX (k, (fiX k S.X).2.1, (fiX k S.X).2.1.length) S.X
def rnX (S : St) (k t : List UInt8) : List FX := withX (t, (fiX k S.X).2.1, (fiX k S.X).2.2) (wo k S.X)
theorem DA.lt {w : World} {d : Nat} {S : St} {F : Nat → Prop} (h : DA w d S F) : ∀ i, F i → i < w.heap.size := by
  obtain ⟨b, L, _, _, hl⟩ := h
  exact hl
theorem boxes2 (w : World) (v1 v2 : Value) (T1 T2 : TypeId) : ∃ W0, W0 = (w.alloc (.cells #[v1] T1)).alloc (.cells #[v2] T2) ∧ Bx W0 w.heap.size v1 ∧ Bx W0 (w.heap.size + 1) v2 ∧ Below w.heap.size w W0 := by
  have e : (w.alloc (.cells #[v1] T1)).heap.size = w.heap.size + 1 := by simp
  have h2 := Bx.new (w.alloc (.cells #[v1] T1)) v2 T2
  rw [e] at h2
  exact ⟨_, rfl, (Bx.new w v1 T1).old ((Below.refl _ _).alloc (Nat.le_refl _) _), h2, ((Below.refl _ w).alloc (Nat.le_refl _) _).alloc (by simp) _⟩
theorem boxes3 (w : World) (v1 v2 v3 : Value) (T1 T2 T3 : TypeId) : ∃ W0, W0 = ((w.alloc (.cells #[v1] T1)).alloc (.cells #[v2] T2)).alloc (.cells #[v3] T3) ∧ Bx W0 w.heap.size v1 ∧ Bx W0 (w.heap.size + 1) v2 ∧ Bx W0 (w.heap.size + 2) v3 ∧ Below w.heap.size w W0 := by
  obtain ⟨W, hW, b1, b2, hb⟩ := boxes2 w v1 v2 T1 T2
  have e : W.heap.size = w.heap.size + 2 := by rw [hW]; simp
  have h3 := Bx.new W v3 T3
  rw [e] at h3
  have hb' : Below W.heap.size W (W.alloc (.cells #[v3] T3)) := (Below.refl _ _).alloc (Nat.le_refl _) _
  exact ⟨W.alloc (.cells #[v3] T3), by rw [hW], b1.old hb', b2.old hb', h3, hb.trans (hb'.mono hb.size)⟩
set_option maxRecDepth 20000 in
set_option maxHeartbeats 1000000 in
theorem dksync_any {w : World} {d : Nat} {S : St} {F : Nat → Prop} (h : DA w d S F) (ok : Ok S) (k : List UInt8) (hk : k.length ≤ 1000000) :
    Calls Tryd.prog 34 #[.pointer (some ⟨d, 0, none⟩), .string ⟨k.toArray⟩] w fun e w' => e = .returned (.int .i64 (dedR S (wrN S k))) ∧ Eff w w' d (dedS S (wrN S k) (syX S k)) F := by
  unfold wrN
  obtain ⟨W0, hW0, bd, bk, hb0⟩ := boxes2 w (.pointer (some ⟨d, 0, none⟩)) (.string ⟨k.toArray⟩) 24 9
  have h0 := h.old hb0
  have hlt := h.lt
  have hm0 : Mod F w W0 := (Mod.of_below hb0).mono (fun i hi h => by omega)
  have CD : Hid (∀ w1, Below W0.heap.size W0 w1 → w1.cell? ⟨w.heap.size, 0, none⟩ = some (.pointer (some ⟨d, 0, none⟩))) := Lib.hid (fun w1 hb => (bd.old hb).cell)
  have CK : Hid (∀ w1, Below W0.heap.size W0 w1 → w1.cell? ⟨w.heap.size + 1, 0, none⟩ = some (.string ⟨k.toArray⟩)) := Lib.hid (fun w1 hb => (bk.old hb).cell)
  have HTH : Hid (∀ w1, Below W0.heap.size W0 w1 → Calls Tryd.prog 48 #[.pointer (some ⟨d, 0, none⟩), .string ⟨k.toArray⟩] w1 fun e w' => e = .returned (.int .i64 (if hasX k S.X then 0 else 7)) ∧ Below w1.heap.size w1 w') := Lib.hid (fun w1 hb => dkthere_any (h0.old hb) k (by unfold maxLen; omega))
  generalize (if hasX k S.X then (0 : Int) else 7) = wr at HTH ⊢
  have HDE : Hid (∀ w1, Below W0.heap.size W0 w1 → Calls Tryd.prog 46 #[.pointer (some ⟨d, 0, none⟩), .int .i64 wr, .func (.func 61) #[] #[.pointer (some ⟨w.heap.size, 0, none⟩), .pointer (some ⟨w.heap.size + 1, 0, none⟩)]] w1 fun e w' => e = .returned (.int .i64 (dedR S wr)) ∧ Eff w w' d (dedS S wr (syX S k)) F) := Lib.hid (fun w1 hb => by
    have hkeep : ∀ {g : Nat} {v : Value} {w2 : World}, Bx W0 g v → ¬ F g → Mod (fun i => i = d) w1 w2 → Bx w2 g v := fun hB hg hm => (hB.old hb).kept hm (fun e => hg (e ▸ h.self))
    refine (dkdeed_any (h0.old hb) wr 61 #[.pointer (some ⟨w.heap.size, 0, none⟩), .pointer (some ⟨w.heap.size + 1, 0, none⟩)] (syX S k) ok.d0 ok.d1 ok.l0 ok.l1 (fun w => enters_of Tryd.func61 (by kernel_rfl) rfl _ w) ?_).mono ?_
    · intro hdn hwr w2 lf' hA hm
      exact dksync1_any hA _ _ k (hkeep bd (fun hf => by have := hlt _ hf; omega) hm) (hkeep bk (fun hf => by have := hlt _ hf; omega) hm) hk (Nat.le_trans ok.n (by decide))
    · rintro r w' ⟨rfl, hE⟩
      exact ⟨rfl, Eff.trans (hm0.trans ((Mod.of_below hb).mono (fun i hi h => by omega)) (fun _ _ h => h)) hE⟩)
  generalize dedR S wr = R at HDE ⊢
  generalize dedS S wr (syX S k) = S' at HDE ⊢
  have HG0 : Hid ((fun (j : Nat) (_ : Value) (w' : World) => (j = 0 → Below W0.heap.size W0 w') ∧ (j = 1 → Eff w w' d S' F)) 0 undef W0.drew) := Lib.hid ⟨fun _ => (Below.refl _ W0).drew, (fun h => absurd h (by omega))⟩
  clear h h0 hm0 hlt bd bk ok hk hb0
  go_enter Tryd.func34, Tryd.ntmps34
  go_upto_region 1 with fail
  rw [← hW0]
  clear hW0
  refine wp_region_chain (fun t v => match t with
    | 5 => v = .pointer (some ⟨d, 0, none⟩)
    | 6 => v = .pointer (some ⟨d, 0, none⟩)
    | 7 => v = .string ⟨k.toArray⟩
    | 8 => v = .int .i64 wr
    | 9 => v = .func (.func 61) #[] #[.pointer (some ⟨w.heap.size, 0, none⟩), .pointer (some ⟨w.heap.size + 1, 0, none⟩)]
    | 10 => v = .int .i64 R
    | 4 => v = .int .i64 R
    | _ => True) (fun (j : Nat) (_ : Value) (w' : World) => (j = 0 → Below W0.heap.size W0 w') ∧ (j = 1 → Eff w w' d S' F)) [5] 11 (by kernel_rfl) (by decide +kernel) rfl (by decide +kernel) (by decide) (by decide) HG0.out (by
    refine OweAllC.cons (owesC_val 0 (by decide +kernel) (by decide) rfl rfl fun k' a w1 x hk ha hG hV => ?_) ?_
    · skip
      have h2 := ha.outer 2 (by decide +kernel)
      simp only [Act.eval] at h2
      have hb := hG.1 (by omega)
      have cc := CD.out w1 hb
      exact ⟨.pointer (some ⟨d, 0, none⟩), wanted_free rfl, by simp [execOp, go_sem, h2, cc], rfl⟩
    refine OweAllC.cons (owesC_val 0 (by decide +kernel) (by decide) rfl rfl fun k' a w1 x hk ha hG hV => ?_) ?_
    · skip
      have h2 := ha.outer 2 (by decide +kernel)
      simp only [Act.eval] at h2
      have hb := hG.1 (by omega)
      have cc := CD.out w1 hb
      exact ⟨.pointer (some ⟨d, 0, none⟩), wanted_free rfl, by simp [execOp, go_sem, h2, cc], rfl⟩
    refine OweAllC.cons (owesC_val 0 (by decide +kernel) (by decide) rfl rfl fun k' a w1 x hk ha hG hV => ?_) ?_
    · skip
      have h3 := ha.outer 3 (by decide +kernel)
      simp only [Act.eval] at h3
      have hb := hG.1 (by omega)
      have cc := CK.out w1 hb
      exact ⟨.string ⟨k.toArray⟩, wanted_free rfl, by simp [execOp, go_sem, h3, cc], rfl⟩
    refine OweAllC.cons (owesC_side 0 (by decide +kernel) (by decide) rfl rfl 48 fun k' a w1 x hk ha hG hV => ?_) ?_
    · skip
      have h6 : a.tmps.getD 6 undef = .pointer (some ⟨d, 0, none⟩) := hV.get 6 (by decide +kernel)
      have h7 : a.tmps.getD 7 undef = .string ⟨k.toArray⟩ := hV.get 7 (by decide +kernel)
      refine ⟨#[.pointer (some ⟨d, 0, none⟩), .string ⟨k.toArray⟩], wanted_free rfl, by simp [execOp, resolve, invoke, go_sem, h6, h7], ?_⟩
      refine (HTH.out w1 (hG.1 (by omega))).mono ?_
      rintro r' u2 ⟨rfl, hb2⟩; exact ⟨_, rfl, rfl, (fun h => (hG.1 h).trans (hb2.mono (hG.1 h).size)), (fun h => absurd h (by omega))⟩
    refine OweAllC.cons (owesC_val 0 (by decide +kernel) (by decide) rfl rfl fun k' a w1 x hk ha hG hV => ?_) ?_
    · skip
      have h2 := ha.outer 2 (by decide +kernel)
      simp only [Act.eval] at h2
      have h3 := ha.outer 3 (by decide +kernel)
      simp only [Act.eval] at h3
      have g2 : a.tmps[2]?.getD undef = .pointer (some ⟨w.heap.size, 0, none⟩) := by simpa using h2
      have g3 : a.tmps[3]?.getD undef = .pointer (some ⟨w.heap.size + 1, 0, none⟩) := by simpa using h3
      exact ⟨.func (.func 61) #[] #[.pointer (some ⟨w.heap.size, 0, none⟩), .pointer (some ⟨w.heap.size + 1, 0, none⟩)], wanted_free rfl, by simp [execOp, go_sem, h2, h3, g2, g3], rfl⟩
    refine OweAllC.cons (owesC_call 0 rfl rfl rfl 46 fun a w1 x ha hG hx hV => ?_) ?_
    · skip
      have h5 : a.tmps.getD 5 undef = .pointer (some ⟨d, 0, none⟩) := hV.get 5 (by decide +kernel)
      have h8 : a.tmps.getD 8 undef = .int .i64 wr := hV.get 8 (by decide +kernel)
      have h9 : a.tmps.getD 9 undef = .func (.func 61) #[] #[.pointer (some ⟨w.heap.size, 0, none⟩), .pointer (some ⟨w.heap.size + 1, 0, none⟩)] := hV.get 9 (by decide +kernel)
      refine ⟨#[.pointer (some ⟨d, 0, none⟩), .int .i64 wr, .func (.func 61) #[] #[.pointer (some ⟨w.heap.size, 0, none⟩), .pointer (some ⟨w.heap.size + 1, 0, none⟩)]], wanted_free rfl, by simp [execOp, resolve, invoke, go_sem, h5, h8, h9], ?_⟩
      refine (HDE.out w1 (hG.1 (by omega))).mono ?_
      rintro r u2 ⟨rfl, hE⟩; exact ⟨_, rfl, rfl, (fun h => absurd h (by omega)), fun _ => hE⟩
    refine OweAllC.cons (owesC_val 1 (by decide +kernel) (by decide) rfl rfl fun k' a w1 x hk ha hG hV => ?_) ?_
    · skip
      have h10 : a.tmps.getD 10 undef = .int .i64 R := hV.get 10 (by decide +kernel)
      exact ⟨.int .i64 R, wanted_free rfl, by simp [execOp, go_sem, h10], rfl⟩
    exact OweAllC.nil
    ) ?_
  intro f wz xz hG hx hv
  have e4 : f 4 = .int .i64 R := hv 6 _ 4 rfl rfl
  first | (rename_i hK; refine hK _ _ ?_; clear hK) | (rename_i hK _; refine hK _ _ ?_; clear hK) | (rename_i hK _ _; refine hK _ _ ?_; clear hK) | (rename_i hK _ _ _; refine hK _ _ ?_; clear hK)
  clear hv hx
  simp only [dsts, puts, List.filterMap_cons, List.filterMap_nil, List.foldl_cons, List.foldl_nil, Act.put, List.setIfInBounds_toArray, List.set_cons_succ, List.set_cons_zero, e4]
  clear e4
  have HE := Lib.hid (hG.2 rfl)
  clear hG
  go_wp2_with fail
  go_ret
  exact ⟨rfl, HE.out⟩
set_option maxRecDepth 20000 in
set_option maxHeartbeats 1000000 in
theorem dkremove_any {w : World} {d : Nat} {S : St} {F : Nat → Prop} (h : DA w d S F) (ok : Ok S) (k : List UInt8) (hk : k.length ≤ 1000000) :
    Calls Tryd.prog 52 #[.pointer (some ⟨d, 0, none⟩), .string ⟨k.toArray⟩] w fun e w' => e = .returned (.int .i64 (dedR S (wrN S k))) ∧ Eff w w' d (dedS S (wrN S k) (wo k S.X)) F := by
  unfold wrN
  obtain ⟨W0, hW0, bd, bk, hb0⟩ := boxes2 w (.pointer (some ⟨d, 0, none⟩)) (.string ⟨k.toArray⟩) 24 9
  have h0 := h.old hb0
  have hlt := h.lt
  have hm0 : Mod F w W0 := (Mod.of_below hb0).mono (fun i hi h => by omega)
  have CD : Hid (∀ w1, Below W0.heap.size W0 w1 → w1.cell? ⟨w.heap.size, 0, none⟩ = some (.pointer (some ⟨d, 0, none⟩))) := Lib.hid (fun w1 hb => (bd.old hb).cell)
  have CK : Hid (∀ w1, Below W0.heap.size W0 w1 → w1.cell? ⟨w.heap.size + 1, 0, none⟩ = some (.string ⟨k.toArray⟩)) := Lib.hid (fun w1 hb => (bk.old hb).cell)
  have HTH : Hid (∀ w1, Below W0.heap.size W0 w1 → Calls Tryd.prog 48 #[.pointer (some ⟨d, 0, none⟩), .string ⟨k.toArray⟩] w1 fun e w' => e = .returned (.int .i64 (if hasX k S.X then 0 else 7)) ∧ Below w1.heap.size w1 w') := Lib.hid (fun w1 hb => dkthere_any (h0.old hb) k (by unfold maxLen; omega))
  generalize (if hasX k S.X then (0 : Int) else 7) = wr at HTH ⊢
  have HDE : Hid (∀ w1, Below W0.heap.size W0 w1 → Calls Tryd.prog 46 #[.pointer (some ⟨d, 0, none⟩), .int .i64 wr, .func (.func 70) #[] #[.pointer (some ⟨w.heap.size, 0, none⟩), .pointer (some ⟨w.heap.size + 1, 0, none⟩)]] w1 fun e w' => e = .returned (.int .i64 (dedR S wr)) ∧ Eff w w' d (dedS S wr (wo k S.X)) F) := Lib.hid (fun w1 hb => by
    have hkeep : ∀ {g : Nat} {v : Value} {w2 : World}, Bx W0 g v → ¬ F g → Mod (fun i => i = d) w1 w2 → Bx w2 g v := fun hB hg hm => (hB.old hb).kept hm (fun e => hg (e ▸ h.self))
    refine (dkdeed_any (h0.old hb) wr 70 #[.pointer (some ⟨w.heap.size, 0, none⟩), .pointer (some ⟨w.heap.size + 1, 0, none⟩)] (wo k S.X) ok.d0 ok.d1 ok.l0 ok.l1 (fun w => enters_of Tryd.func70 (by kernel_rfl) rfl _ w) ?_).mono ?_
    · intro hdn hwr w2 lf' hA hm
      exact dkremove1_any hA _ _ k (hkeep bd (fun hf => by have := hlt _ hf; omega) hm) (hkeep bk (fun hf => by have := hlt _ hf; omega) hm) hk (Nat.le_trans ok.n (by decide))
    · rintro r w' ⟨rfl, hE⟩
      exact ⟨rfl, Eff.trans (hm0.trans ((Mod.of_below hb).mono (fun i hi h => by omega)) (fun _ _ h => h)) hE⟩)
  generalize dedR S wr = R at HDE ⊢
  generalize dedS S wr (wo k S.X) = S' at HDE ⊢
  have HG0 : Hid ((fun (j : Nat) (_ : Value) (w' : World) => (j = 0 → Below W0.heap.size W0 w') ∧ (j = 1 → Eff w w' d S' F)) 0 undef W0.drew) := Lib.hid ⟨fun _ => (Below.refl _ W0).drew, (fun h => absurd h (by omega))⟩
  clear h h0 hm0 hlt bd bk ok hk hb0
  go_enter Tryd.func52, Tryd.ntmps52
  go_upto_region 1 with fail
  rw [← hW0]
  clear hW0
  refine wp_region_chain (fun t v => match t with
    | 5 => v = .pointer (some ⟨d, 0, none⟩)
    | 6 => v = .pointer (some ⟨d, 0, none⟩)
    | 7 => v = .string ⟨k.toArray⟩
    | 8 => v = .int .i64 wr
    | 9 => v = .func (.func 70) #[] #[.pointer (some ⟨w.heap.size, 0, none⟩), .pointer (some ⟨w.heap.size + 1, 0, none⟩)]
    | 10 => v = .int .i64 R
    | 4 => v = .int .i64 R
    | _ => True) (fun (j : Nat) (_ : Value) (w' : World) => (j = 0 → Below W0.heap.size W0 w') ∧ (j = 1 → Eff w w' d S' F)) [5] 11 (by kernel_rfl) (by decide +kernel) rfl (by decide +kernel) (by decide) (by decide) HG0.out (by
    refine OweAllC.cons (owesC_val 0 (by decide +kernel) (by decide) rfl rfl fun k' a w1 x hk ha hG hV => ?_) ?_
    · skip
      have h2 := ha.outer 2 (by decide +kernel)
      simp only [Act.eval] at h2
      have hb := hG.1 (by omega)
      have cc := CD.out w1 hb
      exact ⟨.pointer (some ⟨d, 0, none⟩), wanted_free rfl, by simp [execOp, go_sem, h2, cc], rfl⟩
    refine OweAllC.cons (owesC_val 0 (by decide +kernel) (by decide) rfl rfl fun k' a w1 x hk ha hG hV => ?_) ?_
    · skip
      have h2 := ha.outer 2 (by decide +kernel)
      simp only [Act.eval] at h2
      have hb := hG.1 (by omega)
      have cc := CD.out w1 hb
      exact ⟨.pointer (some ⟨d, 0, none⟩), wanted_free rfl, by simp [execOp, go_sem, h2, cc], rfl⟩
    refine OweAllC.cons (owesC_val 0 (by decide +kernel) (by decide) rfl rfl fun k' a w1 x hk ha hG hV => ?_) ?_
    · skip
      have h3 := ha.outer 3 (by decide +kernel)
      simp only [Act.eval] at h3
      have hb := hG.1 (by omega)
      have cc := CK.out w1 hb
      exact ⟨.string ⟨k.toArray⟩, wanted_free rfl, by simp [execOp, go_sem, h3, cc], rfl⟩
    refine OweAllC.cons (owesC_side 0 (by decide +kernel) (by decide) rfl rfl 48 fun k' a w1 x hk ha hG hV => ?_) ?_
    · skip
      have h6 : a.tmps.getD 6 undef = .pointer (some ⟨d, 0, none⟩) := hV.get 6 (by decide +kernel)
      have h7 : a.tmps.getD 7 undef = .string ⟨k.toArray⟩ := hV.get 7 (by decide +kernel)
      refine ⟨#[.pointer (some ⟨d, 0, none⟩), .string ⟨k.toArray⟩], wanted_free rfl, by simp [execOp, resolve, invoke, go_sem, h6, h7], ?_⟩
      refine (HTH.out w1 (hG.1 (by omega))).mono ?_
      rintro r' u2 ⟨rfl, hb2⟩; exact ⟨_, rfl, rfl, (fun h => (hG.1 h).trans (hb2.mono (hG.1 h).size)), (fun h => absurd h (by omega))⟩
    refine OweAllC.cons (owesC_val 0 (by decide +kernel) (by decide) rfl rfl fun k' a w1 x hk ha hG hV => ?_) ?_
    · skip
      have h2 := ha.outer 2 (by decide +kernel)
      simp only [Act.eval] at h2
      have h3 := ha.outer 3 (by decide +kernel)
      simp only [Act.eval] at h3
      have g2 : a.tmps[2]?.getD undef = .pointer (some ⟨w.heap.size, 0, none⟩) := by simpa using h2
      have g3 : a.tmps[3]?.getD undef = .pointer (some ⟨w.heap.size + 1, 0, none⟩) := by simpa using h3
      exact ⟨.func (.func 70) #[] #[.pointer (some ⟨w.heap.size, 0, none⟩), .pointer (some ⟨w.heap.size + 1, 0, none⟩)], wanted_free rfl, by simp [execOp, go_sem, h2, h3, g2, g3], rfl⟩
    refine OweAllC.cons (owesC_call 0 rfl rfl rfl 46 fun a w1 x ha hG hx hV => ?_) ?_
    · skip
      have h5 : a.tmps.getD 5 undef = .pointer (some ⟨d, 0, none⟩) := hV.get 5 (by decide +kernel)
      have h8 : a.tmps.getD 8 undef = .int .i64 wr := hV.get 8 (by decide +kernel)
      have h9 : a.tmps.getD 9 undef = .func (.func 70) #[] #[.pointer (some ⟨w.heap.size, 0, none⟩), .pointer (some ⟨w.heap.size + 1, 0, none⟩)] := hV.get 9 (by decide +kernel)
      refine ⟨#[.pointer (some ⟨d, 0, none⟩), .int .i64 wr, .func (.func 70) #[] #[.pointer (some ⟨w.heap.size, 0, none⟩), .pointer (some ⟨w.heap.size + 1, 0, none⟩)]], wanted_free rfl, by simp [execOp, resolve, invoke, go_sem, h5, h8, h9], ?_⟩
      refine (HDE.out w1 (hG.1 (by omega))).mono ?_
      rintro r u2 ⟨rfl, hE⟩; exact ⟨_, rfl, rfl, (fun h => absurd h (by omega)), fun _ => hE⟩
    refine OweAllC.cons (owesC_val 1 (by decide +kernel) (by decide) rfl rfl fun k' a w1 x hk ha hG hV => ?_) ?_
    · skip
      have h10 : a.tmps.getD 10 undef = .int .i64 R := hV.get 10 (by decide +kernel)
      exact ⟨.int .i64 R, wanted_free rfl, by simp [execOp, go_sem, h10], rfl⟩
    exact OweAllC.nil
    ) ?_
  intro f wz xz hG hx hv
  have e4 : f 4 = .int .i64 R := hv 6 _ 4 rfl rfl
  first | (rename_i hK; refine hK _ _ ?_; clear hK) | (rename_i hK _; refine hK _ _ ?_; clear hK) | (rename_i hK _ _; refine hK _ _ ?_; clear hK) | (rename_i hK _ _ _; refine hK _ _ ?_; clear hK)
  clear hv hx
  simp only [dsts, puts, List.filterMap_cons, List.filterMap_nil, List.foldl_cons, List.foldl_nil, Act.put, List.setIfInBounds_toArray, List.set_cons_succ, List.set_cons_zero, e4]
  clear e4
  have HE := Lib.hid (hG.2 rfl)
  clear hG
  go_wp2_with fail
  go_ret
  exact ⟨rfl, HE.out⟩
set_option maxRecDepth 20000 in
set_option maxHeartbeats 1000000 in
theorem dkrename_any {w : World} {d : Nat} {S : St} {F : Nat → Prop} (h : DA w d S F) (ok : Ok S) (k t : List UInt8) (hk : k.length ≤ 1000000) (ht : t.length ≤ 1000000) :
    Calls Tryd.prog 36 #[.pointer (some ⟨d, 0, none⟩), .string ⟨k.toArray⟩, .string ⟨t.toArray⟩] w fun e w' => e = .returned (.int .i64 (dedR S (wrN S k))) ∧ Eff w w' d (dedS S (wrN S k) (rnX S k t)) F := by
  unfold wrN
  obtain ⟨W0, hW0, bd, bk, bs, hb0⟩ := boxes3 w (.pointer (some ⟨d, 0, none⟩)) (.string ⟨k.toArray⟩) (.string ⟨t.toArray⟩) 24 9 9
  have h0 := h.old hb0
  have hlt := h.lt
  have hm0 : Mod F w W0 := (Mod.of_below hb0).mono (fun i hi h => by omega)
  have ng : ∀ i, i = w.heap.size ∨ i = w.heap.size + 1 ∨ i = w.heap.size + 2 → ¬ F i := by intro i hi hf; have := hlt i hf; omega
  have CD : Hid (∀ w1, Below W0.heap.size W0 w1 → w1.cell? ⟨w.heap.size, 0, none⟩ = some (.pointer (some ⟨d, 0, none⟩))) := Lib.hid (fun w1 hb => (bd.old hb).cell)
  have CK : Hid (∀ w1, Below W0.heap.size W0 w1 → w1.cell? ⟨w.heap.size + 1, 0, none⟩ = some (.string ⟨k.toArray⟩)) := Lib.hid (fun w1 hb => (bk.old hb).cell)
  have HTH : Hid (∀ w1, Below W0.heap.size W0 w1 → Calls Tryd.prog 48 #[.pointer (some ⟨d, 0, none⟩), .string ⟨k.toArray⟩] w1 fun e w' => e = .returned (.int .i64 (if hasX k S.X then 0 else 7)) ∧ Below w1.heap.size w1 w') := Lib.hid (fun w1 hb => dkthere_any (h0.old hb) k (by unfold maxLen; omega))
  generalize (if hasX k S.X then (0 : Int) else 7) = wr at HTH ⊢
  have HDE : Hid (∀ w1, Below W0.heap.size W0 w1 → Calls Tryd.prog 46 #[.pointer (some ⟨d, 0, none⟩), .int .i64 wr, .func (.func 62) #[] #[.pointer (some ⟨w.heap.size, 0, none⟩), .pointer (some ⟨w.heap.size + 1, 0, none⟩), .pointer (some ⟨w.heap.size + 2, 0, none⟩)]] w1 fun e w' => e = .returned (.int .i64 (dedR S wr)) ∧ Eff w w' d (dedS S wr (rnX S k t)) F) := Lib.hid (fun w1 hb => by
    have hkeep : ∀ {g : Nat} {v : Value} {w2 : World}, Bx W0 g v → ¬ F g → Mod (fun i => i = d) w1 w2 → Bx w2 g v := fun hB hg hm => (hB.old hb).kept hm (fun e => hg (e ▸ h.self))
    refine (dkdeed_any (h0.old hb) wr 62 #[.pointer (some ⟨w.heap.size, 0, none⟩), .pointer (some ⟨w.heap.size + 1, 0, none⟩), .pointer (some ⟨w.heap.size + 2, 0, none⟩)] (rnX S k t) ok.d0 ok.d1 ok.l0 ok.l1 (fun w => enters_of Tryd.func62 (by kernel_rfl) rfl _ w) ?_).mono ?_
    · intro hdn hwr w2 lf' hA hm
      exact dkrename1_any hA _ _ k (hkeep bd (fun hf => by have := hlt _ hf; omega) hm) (hkeep bk (fun hf => by have := hlt _ hf; omega) hm) _ t (hkeep bs (fun hf => by have := hlt _ hf; omega) hm) ng hk ht (Nat.le_trans ok.n (by decide))
    · rintro r w' ⟨rfl, hE⟩
      exact ⟨rfl, Eff.trans (hm0.trans ((Mod.of_below hb).mono (fun i hi h => by omega)) (fun _ _ h => h)) hE⟩)
  generalize dedR S wr = R at HDE ⊢
  generalize dedS S wr (rnX S k t) = S' at HDE ⊢
  have HG0 : Hid ((fun (j : Nat) (_ : Value) (w' : World) => (j = 0 → Below W0.heap.size W0 w') ∧ (j = 1 → Eff w w' d S' F)) 0 undef W0.drew) := Lib.hid ⟨fun _ => (Below.refl _ W0).drew, (fun h => absurd h (by omega))⟩
  clear h h0 hm0 hlt bd bk bs ok hk ht hb0 ng
  go_enter Tryd.func36, Tryd.ntmps36
  go_upto_region 1 with fail
  rw [← hW0]
  clear hW0
  refine wp_region_chain (fun t v => match t with
    | 7 => v = .pointer (some ⟨d, 0, none⟩)
    | 8 => v = .pointer (some ⟨d, 0, none⟩)
    | 9 => v = .string ⟨k.toArray⟩
    | 10 => v = .int .i64 wr
    | 11 => v = .func (.func 62) #[] #[.pointer (some ⟨w.heap.size, 0, none⟩), .pointer (some ⟨w.heap.size + 1, 0, none⟩), .pointer (some ⟨w.heap.size + 2, 0, none⟩)]
    | 12 => v = .int .i64 R
    | 6 => v = .int .i64 R
    | _ => True) (fun (j : Nat) (_ : Value) (w' : World) => (j = 0 → Below W0.heap.size W0 w') ∧ (j = 1 → Eff w w' d S' F)) [5] 13 (by kernel_rfl) (by decide +kernel) rfl (by decide +kernel) (by decide) (by decide) HG0.out (by
    refine OweAllC.cons (owesC_val 0 (by decide +kernel) (by decide) rfl rfl fun k' a w1 x hk ha hG hV => ?_) ?_
    · skip
      have h3 := ha.outer 3 (by decide +kernel)
      simp only [Act.eval] at h3
      have hb := hG.1 (by omega)
      have cc := CD.out w1 hb
      exact ⟨.pointer (some ⟨d, 0, none⟩), wanted_free rfl, by simp [execOp, go_sem, h3, cc], rfl⟩
    refine OweAllC.cons (owesC_val 0 (by decide +kernel) (by decide) rfl rfl fun k' a w1 x hk ha hG hV => ?_) ?_
    · skip
      have h3 := ha.outer 3 (by decide +kernel)
      simp only [Act.eval] at h3
      have hb := hG.1 (by omega)
      have cc := CD.out w1 hb
      exact ⟨.pointer (some ⟨d, 0, none⟩), wanted_free rfl, by simp [execOp, go_sem, h3, cc], rfl⟩
    refine OweAllC.cons (owesC_val 0 (by decide +kernel) (by decide) rfl rfl fun k' a w1 x hk ha hG hV => ?_) ?_
    · skip
      have h4 := ha.outer 4 (by decide +kernel)
      simp only [Act.eval] at h4
      have hb := hG.1 (by omega)
      have cc := CK.out w1 hb
      exact ⟨.string ⟨k.toArray⟩, wanted_free rfl, by simp [execOp, go_sem, h4, cc], rfl⟩
    refine OweAllC.cons (owesC_side 0 (by decide +kernel) (by decide) rfl rfl 48 fun k' a w1 x hk ha hG hV => ?_) ?_
    · skip
      have h8 : a.tmps.getD 8 undef = .pointer (some ⟨d, 0, none⟩) := hV.get 8 (by decide +kernel)
      have h9 : a.tmps.getD 9 undef = .string ⟨k.toArray⟩ := hV.get 9 (by decide +kernel)
      refine ⟨#[.pointer (some ⟨d, 0, none⟩), .string ⟨k.toArray⟩], wanted_free rfl, by simp [execOp, resolve, invoke, go_sem, h8, h9], ?_⟩
      refine (HTH.out w1 (hG.1 (by omega))).mono ?_
      rintro r' u2 ⟨rfl, hb2⟩; exact ⟨_, rfl, rfl, (fun h => (hG.1 h).trans (hb2.mono (hG.1 h).size)), (fun h => absurd h (by omega))⟩
    refine OweAllC.cons (owesC_val 0 (by decide +kernel) (by decide) rfl rfl fun k' a w1 x hk ha hG hV => ?_) ?_
    · skip
      have h3 := ha.outer 3 (by decide +kernel)
      simp only [Act.eval] at h3
      have h4 := ha.outer 4 (by decide +kernel)
      simp only [Act.eval] at h4
      have h5 := ha.outer 5 (by decide +kernel)
      simp only [Act.eval] at h5
      have g3 : a.tmps[3]?.getD undef = .pointer (some ⟨w.heap.size, 0, none⟩) := by simpa using h3
      have g4 : a.tmps[4]?.getD undef = .pointer (some ⟨w.heap.size + 1, 0, none⟩) := by simpa using h4
      have g5 : a.tmps[5]?.getD undef = .pointer (some ⟨w.heap.size + 2, 0, none⟩) := by simpa using h5
      exact ⟨.func (.func 62) #[] #[.pointer (some ⟨w.heap.size, 0, none⟩), .pointer (some ⟨w.heap.size + 1, 0, none⟩), .pointer (some ⟨w.heap.size + 2, 0, none⟩)], wanted_free rfl, by simp [execOp, go_sem, h3, h4, h5, g3, g4, g5], rfl⟩
    refine OweAllC.cons (owesC_call 0 rfl rfl rfl 46 fun a w1 x ha hG hx hV => ?_) ?_
    · skip
      have h7 : a.tmps.getD 7 undef = .pointer (some ⟨d, 0, none⟩) := hV.get 7 (by decide +kernel)
      have h10 : a.tmps.getD 10 undef = .int .i64 wr := hV.get 10 (by decide +kernel)
      have h11 : a.tmps.getD 11 undef = .func (.func 62) #[] #[.pointer (some ⟨w.heap.size, 0, none⟩), .pointer (some ⟨w.heap.size + 1, 0, none⟩), .pointer (some ⟨w.heap.size + 2, 0, none⟩)] := hV.get 11 (by decide +kernel)
      refine ⟨#[.pointer (some ⟨d, 0, none⟩), .int .i64 wr, .func (.func 62) #[] #[.pointer (some ⟨w.heap.size, 0, none⟩), .pointer (some ⟨w.heap.size + 1, 0, none⟩), .pointer (some ⟨w.heap.size + 2, 0, none⟩)]], wanted_free rfl, by simp [execOp, resolve, invoke, go_sem, h7, h10, h11], ?_⟩
      refine (HDE.out w1 (hG.1 (by omega))).mono ?_
      rintro r u2 ⟨rfl, hE⟩; exact ⟨_, rfl, rfl, (fun h => absurd h (by omega)), fun _ => hE⟩
    refine OweAllC.cons (owesC_val 1 (by decide +kernel) (by decide) rfl rfl fun k' a w1 x hk ha hG hV => ?_) ?_
    · skip
      have h12 : a.tmps.getD 12 undef = .int .i64 R := hV.get 12 (by decide +kernel)
      exact ⟨.int .i64 R, wanted_free rfl, by simp [execOp, go_sem, h12], rfl⟩
    exact OweAllC.nil
    ) ?_
  intro f wz xz hG hx hv
  have e6 : f 6 = .int .i64 R := hv 6 _ 6 rfl rfl
  first | (rename_i hK; refine hK _ _ ?_; clear hK) | (rename_i hK _; refine hK _ _ ?_; clear hK) | (rename_i hK _ _; refine hK _ _ ?_; clear hK) | (rename_i hK _ _ _; refine hK _ _ ?_; clear hK)
  clear hv hx
  simp only [dsts, puts, List.filterMap_cons, List.filterMap_nil, List.foldl_cons, List.foldl_nil, Act.put, List.setIfInBounds_toArray, List.set_cons_succ, List.set_cons_zero, e6]
  clear e6
  have HE := Lib.hid (hG.2 rfl)
  clear hG
  go_wp2_with fail
  go_ret
  exact ⟨rfl, HE.out⟩
set_option maxRecDepth 20000 in
set_option maxHeartbeats 1000000 in
theorem dkappend_any {w : World} {d : Nat} {S : St} {F : Nat → Prop} (h : DA w d S F) (ok : Ok S) (k s : List UInt8) (hk : k.length ≤ 1000000) (hs : s.length ≤ 1000000000) :
    Calls Tryd.prog 21 #[.pointer (some ⟨d, 0, none⟩), .string ⟨k.toArray⟩, .string ⟨s.toArray⟩] w fun e w' => e = .returned (.int .i64 (dedR S (wrA S s))) ∧ Eff w w' d (dedS S (wrA S s) (apX S k s)) F := by
  obtain ⟨W0, hW0, bd, bk, bs, hb0⟩ := boxes3 w (.pointer (some ⟨d, 0, none⟩)) (.string ⟨k.toArray⟩) (.string ⟨s.toArray⟩) 24 9 9
  have h0 := h.old hb0
  have hlt := h.lt
  have hm0 : Mod F w W0 := (Mod.of_below hb0).mono (fun i hi h => by omega)
  have ng : ∀ i, i = w.heap.size ∨ i = w.heap.size + 1 ∨ i = w.heap.size + 2 → ¬ F i := by intro i hi hf; have := hlt i hf; omega
  have CD : Hid (∀ w1, Below W0.heap.size W0 w1 → w1.cell? ⟨w.heap.size, 0, none⟩ = some (.pointer (some ⟨d, 0, none⟩))) := Lib.hid (fun w1 hb => (bd.old hb).cell)
  have CK : Hid (∀ w1, Below W0.heap.size W0 w1 → w1.cell? ⟨w.heap.size + 1, 0, none⟩ = some (.string ⟨k.toArray⟩)) := Lib.hid (fun w1 hb => (bk.old hb).cell)
  have CS : Hid (∀ w1, Below W0.heap.size W0 w1 → w1.cell? ⟨w.heap.size + 2, 0, none⟩ = some (.string ⟨s.toArray⟩)) := Lib.hid (fun w1 hb => (bs.old hb).cell)
  have CR : Hid (∀ w1, Below W0.heap.size W0 w1 → w1.cell? ⟨d, 0, none⟩ = some (.int .i64 S.rm)) := Lib.hid (fun w1 hb => (h0.old hb).cells.2.2.2.1)
  have HU : Hid (∀ w1, Below W0.heap.size W0 w1 → Calls Tryd.prog 10 #[.pointer (some ⟨d, 0, none⟩)] w1 fun e w' => e = .returned (.int .i64 (usedX S.X : Nat)) ∧ Below w1.heap.size w1 w') := Lib.hid (fun w1 hb => dkused_any (h0.old hb) (Nat.le_trans ok.n (by decide)) ok.f)
  have HDE : Hid (∀ w1, Below W0.heap.size W0 w1 → Calls Tryd.prog 46 #[.pointer (some ⟨d, 0, none⟩), .int .i64 (wrA S s), .func (.func 47) #[] #[.pointer (some ⟨w.heap.size, 0, none⟩), .pointer (some ⟨w.heap.size + 1, 0, none⟩), .pointer (some ⟨w.heap.size + 2, 0, none⟩)]] w1 fun e w' => e = .returned (.int .i64 (dedR S (wrA S s))) ∧ Eff w w' d (dedS S (wrA S s) (apX S k s)) F) := Lib.hid (fun w1 hb => by
    have hkeep : ∀ {g : Nat} {v : Value} {w2 : World}, Bx W0 g v → ¬ F g → Mod (fun i => i = d) w1 w2 → Bx w2 g v := fun hB hg hm => (hB.old hb).kept hm (fun e => hg (e ▸ h.self))
    refine (dkdeed_any (h0.old hb) (wrA S s) 47 #[.pointer (some ⟨w.heap.size, 0, none⟩), .pointer (some ⟨w.heap.size + 1, 0, none⟩), .pointer (some ⟨w.heap.size + 2, 0, none⟩)] (apX S k s) ok.d0 ok.d1 ok.l0 ok.l1 (fun w => enters_of Tryd.func47 (by kernel_rfl) rfl _ w) ?_).mono ?_
    · intro hdn hwr w2 lf' hA hm
      exact dkapp1_any hA _ _ _ k s (hkeep bd (fun hf => by have := hlt _ hf; omega) hm) (hkeep bk (fun hf => by have := hlt _ hf; omega) hm) (hkeep bs (fun hf => by have := hlt _ hf; omega) hm) ng hk hs (Nat.le_trans ok.n (by decide)) (fiX_len ok.f k)
    · rintro r w' ⟨rfl, hE⟩
      exact ⟨rfl, Eff.trans (hm0.trans ((Mod.of_below hb).mono (fun i hi h => by omega)) (fun _ _ h => h)) hE⟩)
  have hwr : IntKind.i64.wrap (S.rm - ((usedX S.X : Nat) : Int)) = S.rm - (usedX S.X : Nat) := by
    have h1 := usedX_le ok.f
    have h2 := ok.n
    have h3 := ok.r0
    have h4 := ok.r1
    have h5 : S.X.length * 2000000000 ≤ 100000 * 2000000000 := Nat.mul_le_mul_right _ h2
    rw [IntKind.wrap_i64]; omega
  generalize dedR S (wrA S s) = R at HDE ⊢
  generalize dedS S (wrA S s) (apX S k s) = S' at HDE ⊢
  have hA : wrA S s = if ((s.length : Int) > S.rm - (usedX S.X : Nat)) then 5 else 0 := rfl
  rw [hA] at HDE
  clear hA
  generalize S.rm = rm at *
  generalize usedX S.X = u at *
  clear h h0 hm0 hlt bd bk bs ok hk hs hb0 ng
  by_cases hbg : (s.length : Int) > rm - (u : Int)
  · rw [if_pos hbg] at HDE
    have hbig : decide ((s.length : Int) > rm - (u : Int)) = true := decide_eq_true hbg
    have hbig2 : rm - (u : Int) < (s.length : Int) := hbg
    clear hbg
    go_enter Tryd.func21, Tryd.ntmps21
    go_upto_region 2 with fail
    rw [← hW0]
    clear hW0
    refine wp_region_puts (fun t v w => VK (match t with
      | 8 => .eq (.string ⟨s.toArray⟩)
      | 9 => .eq (.int .i64 (s.length : Int))
      | 10 => .eq (.pointer (some ⟨d, 0, none⟩))
      | 11 => .eq (.pointer (some ⟨d, 0, none⟩))
      | 12 => .eq (.pointer (some ⟨d, 0, none⟩))
      | 13 => .eq (.int .i64 rm)
      | 14 => .eq (.pointer (some ⟨d, 0, none⟩))
      | 15 => .eq (.int .i64 (u : Int))
      | 16 => .eq (.int .i64 (rm - (u : Int)))
      | 17 => .eq (Value.bool true)
      | _ => .any) v w) (fun w' => Below W0.heap.size W0 w') 22 (by kernel_rfl) (by decide +kernel) rfl (Below.refl _ _).drew (by
      refine OweAll.cons (owesK rfl rfl fun a w1 ha hG hV => ?_) ?_
      · skip
        have h5 := ha.outer 5 (by decide +kernel)
        simp only [Act.eval] at h5
        have cc := CS.out w1 hG
        exact ⟨.string ⟨s.toArray⟩, w1, wanted_free rfl, by simp [execOp, go_sem, h5, cc], Below.refl _ _, rfl⟩
      refine OweAll.cons (owesK rfl rfl fun a w1 ha hG hV => ?_) ?_
      · skip
        have h8 : a.tmps.getD 8 undef = .string ⟨s.toArray⟩ := hV.get 8 (by decide +kernel)
        exact ⟨.int .i64 (s.length : Int), w1, wanted_free rfl, by simp [execOp, go_sem, h8], Below.refl _ _, rfl⟩
      refine OweAll.cons (owesK rfl rfl fun a w1 ha hG hV => ?_) ?_
      · skip
        have h3 := ha.outer 3 (by decide +kernel)
        simp only [Act.eval] at h3
        have cc := CD.out w1 hG
        exact ⟨.pointer (some ⟨d, 0, none⟩), w1, wanted_free rfl, by simp [execOp, go_sem, h3, cc], Below.refl _ _, rfl⟩
      refine OweAll.cons (owesK rfl rfl fun a w1 ha hG hV => ?_) ?_
      · skip
        have h10 : a.tmps.getD 10 undef = .pointer (some ⟨d, 0, none⟩) := hV.get 10 (by decide +kernel)
        exact ⟨.pointer (some ⟨d, 0, none⟩), w1, wanted_free rfl, by simp [execOp, go_sem, h10], Below.refl _ _, rfl⟩
      refine OweAll.cons (owesK rfl rfl fun a w1 ha hG hV => ?_) ?_
      · skip
        have h11 : a.tmps.getD 11 undef = .pointer (some ⟨d, 0, none⟩) := hV.get 11 (by decide +kernel)
        exact ⟨.pointer (some ⟨d, 0, none⟩), w1, wanted_free rfl, by simp [execOp, go_sem, h11], Below.refl _ _, rfl⟩
      refine OweAll.cons (owesK rfl rfl fun a w1 ha hG hV => ?_) ?_
      · skip
        have h12 : a.tmps.getD 12 undef = .pointer (some ⟨d, 0, none⟩) := hV.get 12 (by decide +kernel)
        have cc := CR.out w1 hG
        exact ⟨.int .i64 rm, w1, wanted_free rfl, by simp [execOp, go_sem, h12, cc], Below.refl _ _, rfl⟩
      refine OweAll.cons (owesK rfl rfl fun a w1 ha hG hV => ?_) ?_
      · skip
        have h3 := ha.outer 3 (by decide +kernel)
        simp only [Act.eval] at h3
        have cc := CD.out w1 hG
        exact ⟨.pointer (some ⟨d, 0, none⟩), w1, wanted_free rfl, by simp [execOp, go_sem, h3, cc], Below.refl _ _, rfl⟩
      refine OweAll.cons (owesK_call rfl rfl 10 fun a w1 ha hG hV => ?_) ?_
      · skip
        have h14 : a.tmps.getD 14 undef = .pointer (some ⟨d, 0, none⟩) := hV.get 14 (by decide +kernel)
        refine ⟨#[.pointer (some ⟨d, 0, none⟩)], wanted_free rfl, by simp [execOp, resolve, invoke, go_sem, h14], ?_⟩
        refine (HU.out w1 hG).mono ?_
        rintro r' u2 ⟨rfl, hb2⟩; exact ⟨_, rfl, rfl, hb2⟩
      refine OweAll.cons (owesK rfl rfl fun a w1 ha hG hV => ?_) ?_
      · skip
        have h13 : a.tmps.getD 13 undef = .int .i64 rm := hV.get 13 (by decide +kernel)
        have h15 : a.tmps.getD 15 undef = .int .i64 (u : Int) := hV.get 15 (by decide +kernel)
        exact ⟨.int .i64 (rm - (u : Int)), w1, wanted_free rfl, by simp [execOp, go_sem, h13, h15, hwr], Below.refl _ _, rfl⟩
      refine OweAll.cons (owesK rfl rfl fun a w1 ha hG hV => ?_) ?_
      · skip
        have h9 : a.tmps.getD 9 undef = .int .i64 (s.length : Int) := hV.get 9 (by decide +kernel)
        have h16 : a.tmps.getD 16 undef = .int .i64 (rm - (u : Int)) := hV.get 16 (by decide +kernel)
        exact ⟨Value.bool true, w1, wanted_free rfl, by simp [execOp, go_sem, h9, h16, hbig], Below.refl _ _, rfl⟩
      exact OweAll.nil
      ) ?_
    intro f wz hG hv
    have e17 : f 17 = Value.bool true := hv 9 _ 17 rfl rfl
    rename_i hK
    refine hK _ _ ?_
    clear hK hv
    simp only [dsts, puts, List.filterMap_cons, List.filterMap_nil, List.foldl_cons, List.foldl_nil, Act.put, List.setIfInBounds_toArray, List.set_cons_succ, List.set_cons_zero, e17]
    clear e17
    have cd := CD.out wz hG
    have HDD := Lib.hid (HDE.out wz hG)
    clear hG
    go_wp2_with fail
    refine HDD.out.mono ?_
    rintro r w6 ⟨rfl, hE⟩
    have HE := Lib.hid hE
    clear hE
    go_wp2_with fail
    go_ret
    exact ⟨rfl, HE.out⟩
  · rw [if_neg hbg] at HDE
    have hbig : decide ((s.length : Int) > rm - (u : Int)) = false := decide_eq_false hbg
    have hbig2 : (s.length : Int) ≤ rm - (u : Int) := by omega
    clear hbg
    go_enter Tryd.func21, Tryd.ntmps21
    go_upto_region 2 with fail
    rw [← hW0]
    clear hW0
    refine wp_region_puts (fun t v w => VK (match t with
      | 8 => .eq (.string ⟨s.toArray⟩)
      | 9 => .eq (.int .i64 (s.length : Int))
      | 10 => .eq (.pointer (some ⟨d, 0, none⟩))
      | 11 => .eq (.pointer (some ⟨d, 0, none⟩))
      | 12 => .eq (.pointer (some ⟨d, 0, none⟩))
      | 13 => .eq (.int .i64 rm)
      | 14 => .eq (.pointer (some ⟨d, 0, none⟩))
      | 15 => .eq (.int .i64 (u : Int))
      | 16 => .eq (.int .i64 (rm - (u : Int)))
      | 17 => .eq (Value.bool false)
      | _ => .any) v w) (fun w' => Below W0.heap.size W0 w') 22 (by kernel_rfl) (by decide +kernel) rfl (Below.refl _ _).drew (by
      refine OweAll.cons (owesK rfl rfl fun a w1 ha hG hV => ?_) ?_
      · skip
        have h5 := ha.outer 5 (by decide +kernel)
        simp only [Act.eval] at h5
        have cc := CS.out w1 hG
        exact ⟨.string ⟨s.toArray⟩, w1, wanted_free rfl, by simp [execOp, go_sem, h5, cc], Below.refl _ _, rfl⟩
      refine OweAll.cons (owesK rfl rfl fun a w1 ha hG hV => ?_) ?_
      · skip
        have h8 : a.tmps.getD 8 undef = .string ⟨s.toArray⟩ := hV.get 8 (by decide +kernel)
        exact ⟨.int .i64 (s.length : Int), w1, wanted_free rfl, by simp [execOp, go_sem, h8], Below.refl _ _, rfl⟩
      refine OweAll.cons (owesK rfl rfl fun a w1 ha hG hV => ?_) ?_
      · skip
        have h3 := ha.outer 3 (by decide +kernel)
        simp only [Act.eval] at h3
        have cc := CD.out w1 hG
        exact ⟨.pointer (some ⟨d, 0, none⟩), w1, wanted_free rfl, by simp [execOp, go_sem, h3, cc], Below.refl _ _, rfl⟩
      refine OweAll.cons (owesK rfl rfl fun a w1 ha hG hV => ?_) ?_
      · skip
        have h10 : a.tmps.getD 10 undef = .pointer (some ⟨d, 0, none⟩) := hV.get 10 (by decide +kernel)
        exact ⟨.pointer (some ⟨d, 0, none⟩), w1, wanted_free rfl, by simp [execOp, go_sem, h10], Below.refl _ _, rfl⟩
      refine OweAll.cons (owesK rfl rfl fun a w1 ha hG hV => ?_) ?_
      · skip
        have h11 : a.tmps.getD 11 undef = .pointer (some ⟨d, 0, none⟩) := hV.get 11 (by decide +kernel)
        exact ⟨.pointer (some ⟨d, 0, none⟩), w1, wanted_free rfl, by simp [execOp, go_sem, h11], Below.refl _ _, rfl⟩
      refine OweAll.cons (owesK rfl rfl fun a w1 ha hG hV => ?_) ?_
      · skip
        have h12 : a.tmps.getD 12 undef = .pointer (some ⟨d, 0, none⟩) := hV.get 12 (by decide +kernel)
        have cc := CR.out w1 hG
        exact ⟨.int .i64 rm, w1, wanted_free rfl, by simp [execOp, go_sem, h12, cc], Below.refl _ _, rfl⟩
      refine OweAll.cons (owesK rfl rfl fun a w1 ha hG hV => ?_) ?_
      · skip
        have h3 := ha.outer 3 (by decide +kernel)
        simp only [Act.eval] at h3
        have cc := CD.out w1 hG
        exact ⟨.pointer (some ⟨d, 0, none⟩), w1, wanted_free rfl, by simp [execOp, go_sem, h3, cc], Below.refl _ _, rfl⟩
      refine OweAll.cons (owesK_call rfl rfl 10 fun a w1 ha hG hV => ?_) ?_
      · skip
        have h14 : a.tmps.getD 14 undef = .pointer (some ⟨d, 0, none⟩) := hV.get 14 (by decide +kernel)
        refine ⟨#[.pointer (some ⟨d, 0, none⟩)], wanted_free rfl, by simp [execOp, resolve, invoke, go_sem, h14], ?_⟩
        refine (HU.out w1 hG).mono ?_
        rintro r' u2 ⟨rfl, hb2⟩; exact ⟨_, rfl, rfl, hb2⟩
      refine OweAll.cons (owesK rfl rfl fun a w1 ha hG hV => ?_) ?_
      · skip
        have h13 : a.tmps.getD 13 undef = .int .i64 rm := hV.get 13 (by decide +kernel)
        have h15 : a.tmps.getD 15 undef = .int .i64 (u : Int) := hV.get 15 (by decide +kernel)
        exact ⟨.int .i64 (rm - (u : Int)), w1, wanted_free rfl, by simp [execOp, go_sem, h13, h15, hwr], Below.refl _ _, rfl⟩
      refine OweAll.cons (owesK rfl rfl fun a w1 ha hG hV => ?_) ?_
      · skip
        have h9 : a.tmps.getD 9 undef = .int .i64 (s.length : Int) := hV.get 9 (by decide +kernel)
        have h16 : a.tmps.getD 16 undef = .int .i64 (rm - (u : Int)) := hV.get 16 (by decide +kernel)
        exact ⟨Value.bool false, w1, wanted_free rfl, by simp [execOp, go_sem, h9, h16, hbig], Below.refl _ _, rfl⟩
      exact OweAll.nil
      ) ?_
    intro f wz hG hv
    have e17 : f 17 = Value.bool false := hv 9 _ 17 rfl rfl
    rename_i hK
    refine hK _ _ ?_
    clear hK hv
    simp only [dsts, puts, List.filterMap_cons, List.filterMap_nil, List.foldl_cons, List.foldl_nil, Act.put, List.setIfInBounds_toArray, List.set_cons_succ, List.set_cons_zero, e17]
    clear e17
    have cd := CD.out wz hG
    have HDD := Lib.hid (HDE.out wz hG)
    clear hG
    go_wp2_with fail
    refine HDD.out.mono ?_
    rintro r w6 ⟨rfl, hE⟩
    have HE := Lib.hid hE
    clear hE
    go_wp2_with fail
    go_ret
    exact ⟨rfl, HE.out⟩
end Go.Proofs.YtippakeemfldfaaDoor

namespace Go.Proofs.YtippakeemfldfaaDoor
open Go.RowKit

def wrC (S : St) (k : List UInt8) (m : Int) : Int := if hasX k S.X then (if m < 0 ∨ ((fiX k S.X).2.1.length : Int) < m then 1 else 0) else 7
def cuX (S : St) (k : List UInt8) (m : Nat) : List FX := withX (k, (fiX k S.X).2.1.take m, min (fiX k S.X).2.2 m) S.X
set_option maxRecDepth 20000 in
set_option maxHeartbeats 1000000 in
theorem dkcut_any {w : World} {d : Nat} {S : St} {F : Nat → Prop} (h : DA w d S F) (ok : Ok S) (k : List UInt8) (m : Int) (hk : k.length ≤ 1000000) :
    Calls Tryd.prog 54 #[.pointer (some ⟨d, 0, none⟩), .string ⟨k.toArray⟩, .int .i64 m] w fun e w' => e = .returned (.int .i64 (dedR S (wrC S k m))) ∧ Eff w w' d (dedS S (wrC S k m) (cuX S k m.toNat)) F := by
  obtain ⟨W0, hW0, bd, bk, bs, hb0⟩ := boxes3 w (.pointer (some ⟨d, 0, none⟩)) (.string ⟨k.toArray⟩) (.int .i64 m) 24 9 3
  have h0 := h.old hb0
  have hlt := h.lt
  have hm0 : Mod F w W0 := (Mod.of_below hb0).mono (fun i hi h => by omega)
  have ng : ∀ i, i = w.heap.size ∨ i = w.heap.size + 1 ∨ i = w.heap.size + 2 → ¬ F i := by intro i hi hf; have := hlt i hf; omega
  have CD : Hid (∀ w1, Below W0.heap.size W0 w1 → w1.cell? ⟨w.heap.size, 0, none⟩ = some (.pointer (some ⟨d, 0, none⟩))) := Lib.hid (fun w1 hb => (bd.old hb).cell)
  have CK : Hid (∀ w1, Below W0.heap.size W0 w1 → w1.cell? ⟨w.heap.size + 1, 0, none⟩ = some (.string ⟨k.toArray⟩)) := Lib.hid (fun w1 hb => (bk.old hb).cell)
  have CS : Hid (∀ w1, Below W0.heap.size W0 w1 → w1.cell? ⟨w.heap.size + 2, 0, none⟩ = some (.int .i64 m)) := Lib.hid (fun w1 hb => (bs.old hb).cell)
  have HTH : Hid (∀ w1, Below W0.heap.size W0 w1 → Calls Tryd.prog 48 #[.pointer (some ⟨d, 0, none⟩), .string ⟨k.toArray⟩] w1 fun e w' => e = .returned (.int .i64 (if hasX k S.X then 0 else 7)) ∧ Below w1.heap.size w1 w') := Lib.hid (fun w1 hb => dkthere_any (h0.old hb) k (by unfold maxLen; omega))
  have HDE : Hid (∀ w1, Below W0.heap.size W0 w1 → Calls Tryd.prog 46 #[.pointer (some ⟨d, 0, none⟩), .int .i64 (wrC S k m), .func (.func 71) #[] #[.pointer (some ⟨w.heap.size, 0, none⟩), .pointer (some ⟨w.heap.size + 1, 0, none⟩), .pointer (some ⟨w.heap.size + 2, 0, none⟩)]] w1 fun e w' => e = .returned (.int .i64 (dedR S (wrC S k m))) ∧ Eff w w' d (dedS S (wrC S k m) (cuX S k m.toNat)) F) := Lib.hid (fun w1 hb => by
    have hkeep : ∀ {g : Nat} {v : Value} {w2 : World}, Bx W0 g v → ¬ F g → Mod (fun i => i = d) w1 w2 → Bx w2 g v := fun hB hg hm => (hB.old hb).kept hm (fun e => hg (e ▸ h.self))
    refine (dkdeed_any (h0.old hb) (wrC S k m) 71 #[.pointer (some ⟨w.heap.size, 0, none⟩), .pointer (some ⟨w.heap.size + 1, 0, none⟩), .pointer (some ⟨w.heap.size + 2, 0, none⟩)] (cuX S k m.toNat) ok.d0 ok.d1 ok.l0 ok.l1 (fun w => enters_of Tryd.func71 (by kernel_rfl) rfl _ w) ?_).mono ?_
    · intro hdn hwr w2 lf' hA hm
      have hmm : 0 ≤ m ∧ m ≤ ((fiX k S.X).2.1.length : Int) := by
        unfold wrC at hwr
        split at hwr
        · split at hwr
          · cases hwr
          · omega
        · cases hwr
      have e : (m.toNat : Int) = m := Int.toNat_of_nonneg hmm.1
      exact dkcut1_any hA _ _ k (hkeep bd (fun hf => by have := hlt _ hf; omega) hm) (hkeep bk (fun hf => by have := hlt _ hf; omega) hm) _ m.toNat (by rw [e]; exact hkeep bs (fun hf => by have := hlt _ hf; omega) hm) (by simp only; omega) hk (Nat.le_trans ok.n (by decide))
    · rintro r w' ⟨rfl, hE⟩
      exact ⟨rfl, Eff.trans (hm0.trans ((Mod.of_below hb).mono (fun i hi h => by omega)) (fun _ _ h => h)) hE⟩)
  have HN : Hid (∀ w1, Below W0.heap.size W0 w1 → ∃ b p c sy, w1.cell? ⟨d, 1, none⟩ = some (.map (some b)) ∧ ∀ n, (Instr.lookup 54 (.map (some b)) (.string ⟨k.toArray⟩) false).run Tryd.prog (w1.drewN n) = .ok (.agg #[.slice p (fiX k S.X).2.1.length c, .int .i64 sy]) (w1.drewN n)) := Lib.hid (by
    intro w1 hb
    obtain ⟨b, L, h, _, _⟩ := h0.old hb
    have e : (fiX k S.X).2.1.length = (atF k L).b.length := by rw [← atF_x h]; rfl
    rw [e]
    exact ⟨b, _, _, _, h.c1, fun n => (h.kept ((Mod.refl (fun _ => False) w1).drewN n) (fun _ _ h => h)).look k (by unfold maxLen; omega)⟩)
  generalize dedR S (wrC S k m) = R at HDE ⊢
  generalize dedS S (wrC S k m) (cuX S k m.toNat) = S' at HDE ⊢
  have hA : wrC S k m = if hasX k S.X then (if m < 0 ∨ ((fiX k S.X).2.1.length : Int) < m then 1 else 0) else 7 := rfl
  rw [hA] at HDE
  clear hA
  generalize hasX k S.X = B at *
  generalize (fiX k S.X).2.1.length = n at *
  have HB0 := Lib.hid hb0
  clear h h0 hm0 hlt bd bk bs ok hk hb0 ng
  have hf : ∀ (p : Option Addr) (c : Nat) (sy : Int) (w1 : World), (Instr.field 63 (.agg #[.slice p n c, .int .i64 sy]) 0).run Tryd.prog w1 = .ok (.slice p n c) w1 := fun p c sy w1 => by kernel_rfl
  have HF := Lib.hid hf
  clear hf
  cases B
  · simp only [Bool.false_eq_true, if_false] at HDE HTH
    go_enter Tryd.func54, Tryd.ntmps54
    go_upto_region 1 with fail
    rw [← hW0]
    clear hW0
    have cd := CD.out W0 (Below.refl _ W0)
    have ck := CK.out W0 (Below.refl _ W0)
    go_wp2_with fail
    refine (HTH.out _ (Below.refl _ W0)).mono ?_
    rintro r w1 ⟨rfl, hb⟩
    have HB1 := Lib.hid hb
    clear hb
    clear cd ck
    have hb1 := HB1.out
    go_upto_region 2 with fail
    have cd := CD.out w1 hb1
    have ck := CK.out w1 hb1
    have cs : w1.cell? ⟨w.heap.size + 1 + 1, 0, none⟩ = _ := CS.out w1 hb1
    obtain ⟨b, p, c, sy, cm, hlk⟩ := HN.out w1 hb1
    have hf := fun w => HF.out p c sy w
    go_quiet (fail)
    have hb2 : Below W0.heap.size W0 (w1.drewN nq) := Mod.to_below ((Mod.of_below hb1).drewN nq) (Nat.le_refl _) (fun _ _ h => by omega)
    have HDD := Lib.hid (HDE.out _ hb2)
    have cd := CD.out _ hb2
    generalize w1.drewN nq = w2 at cd HDD ⊢
    clear hb2
    clear hb1
    go_wp2_with fail
    refine HDD.out.mono ?_
    rintro r w6 ⟨rfl, hE⟩
    have HE := Lib.hid hE
    clear hE
    go_wp2_with fail
    go_ret
    exact ⟨rfl, HE.out⟩
  · simp only [if_true] at HDE HTH
    by_cases h1 : m < 0
    · simp only [h1, true_or, if_true] at HDE
      have b1 : decide (m < 0) = true := decide_eq_true h1
      go_enter Tryd.func54, Tryd.ntmps54
      go_upto_region 1 with fail
      rw [← hW0]
      clear hW0
      have cd := CD.out W0 (Below.refl _ W0)
      have ck := CK.out W0 (Below.refl _ W0)
      go_wp2_with fail
      refine (HTH.out _ (Below.refl _ W0)).mono ?_
      rintro r w1 ⟨rfl, hb⟩
      have HB1 := Lib.hid hb
      clear hb
      clear cd ck
      have hb1 := HB1.out
      go_upto_region 2 with fail
      have cd := CD.out w1 hb1
      have ck := CK.out w1 hb1
      have cs : w1.cell? ⟨w.heap.size + 1 + 1, 0, none⟩ = _ := CS.out w1 hb1
      obtain ⟨b, p, c, sy, cm, hlk⟩ := HN.out w1 hb1
      have hf := fun w => HF.out p c sy w
      go_quiet (fail)
      have hb2 : Below W0.heap.size W0 (w1.drewN nq) := Mod.to_below ((Mod.of_below hb1).drewN nq) (Nat.le_refl _) (fun _ _ h => by omega)
      have HDD := Lib.hid (HDE.out _ hb2)
      have cd := CD.out _ hb2
      generalize w1.drewN nq = w2 at cd HDD ⊢
      clear hb2
      clear hb1
      go_wp2_with fail
      refine HDD.out.mono ?_
      rintro r w6 ⟨rfl, hE⟩
      have HE := Lib.hid hE
      clear hE
      go_wp2_with fail
      go_ret
      exact ⟨rfl, HE.out⟩
    · have b1 : decide (m < 0) = false := decide_eq_false h1
      by_cases h2 : (n : Int) < m
      · simp only [h2, or_true, if_true] at HDE
        have b2 : decide ((n : Int) < m) = true := decide_eq_true h2
        clear h1 h2
        go_enter Tryd.func54, Tryd.ntmps54
        go_upto_region 1 with fail
        rw [← hW0]
        clear hW0
        have cd := CD.out W0 (Below.refl _ W0)
        have ck := CK.out W0 (Below.refl _ W0)
        go_wp2_with fail
        refine (HTH.out _ (Below.refl _ W0)).mono ?_
        rintro r w1 ⟨rfl, hb⟩
        have HB1 := Lib.hid hb
        clear hb
        clear cd ck
        have hb1 := HB1.out
        go_upto_region 2 with fail
        have cd := CD.out w1 hb1
        have ck := CK.out w1 hb1
        have cs : w1.cell? ⟨w.heap.size + 1 + 1, 0, none⟩ = _ := CS.out w1 hb1
        obtain ⟨b, p, c, sy, cm, hlk⟩ := HN.out w1 hb1
        have hf := fun w => HF.out p c sy w
        go_quiet (fail)
        have hb2 : Below W0.heap.size W0 (w1.drewN nq) := Mod.to_below ((Mod.of_below hb1).drewN nq) (Nat.le_refl _) (fun _ _ h => by omega)
        have HDD := Lib.hid (HDE.out _ hb2)
        have cd := CD.out _ hb2
        generalize w1.drewN nq = w2 at cd HDD ⊢
        clear hb2
        clear hb1
        go_wp2_with fail
        refine HDD.out.mono ?_
        rintro r w6 ⟨rfl, hE⟩
        have HE := Lib.hid hE
        clear hE
        go_wp2_with fail
        go_ret
        exact ⟨rfl, HE.out⟩
      · simp only [h1, h2, or_self, if_false] at HDE
        have b2 : decide ((n : Int) < m) = false := decide_eq_false h2
        clear h1 h2
        go_enter Tryd.func54, Tryd.ntmps54
        go_upto_region 1 with fail
        rw [← hW0]
        clear hW0
        have cd := CD.out W0 (Below.refl _ W0)
        have ck := CK.out W0 (Below.refl _ W0)
        go_wp2_with fail
        refine (HTH.out _ (Below.refl _ W0)).mono ?_
        rintro r w1 ⟨rfl, hb⟩
        have HB1 := Lib.hid hb
        clear hb
        clear cd ck
        have hb1 := HB1.out
        go_upto_region 2 with fail
        have cd := CD.out w1 hb1
        have ck := CK.out w1 hb1
        have cs : w1.cell? ⟨w.heap.size + 1 + 1, 0, none⟩ = _ := CS.out w1 hb1
        obtain ⟨b, p, c, sy, cm, hlk⟩ := HN.out w1 hb1
        have hf := fun w => HF.out p c sy w
        go_quiet (fail)
        have hb2 : Below W0.heap.size W0 (w1.drewN nq) := Mod.to_below ((Mod.of_below hb1).drewN nq) (Nat.le_refl _) (fun _ _ h => by omega)
        have HDD := Lib.hid (HDE.out _ hb2)
        have cd := CD.out _ hb2
        generalize w1.drewN nq = w2 at cd HDD ⊢
        clear hb2
        clear hb1
        go_wp2_with fail
        refine HDD.out.mono ?_
        rintro r w6 ⟨rfl, hE⟩
        have HE := Lib.hid hE
        clear hE
        go_wp2_with fail
        go_ret
        exact ⟨rfl, HE.out⟩
end Go.Proofs.YtippakeemfldfaaDoor
