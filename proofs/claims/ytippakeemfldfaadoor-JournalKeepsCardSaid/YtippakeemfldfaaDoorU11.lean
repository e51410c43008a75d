/- Texts 11: what the laws lean on. -/
import Derived.Test.YtippakeemfldfaaDoorU10
namespace Go.Proofs.YtippakeemfldfaaDoor
open Go.RowKit

section
variable {w0 w w' : World} {d j n : Nat} {S S' : St} {F F' : Nat → Prop} {R R' : List TR} {g : Nat} {O : Obj}
theorem JVf.stepF (h : JVf w0 w d j S F R) (hA' : DA w' d S' F') (hF' : ∀ i, F' i → F i ∨ w.heap.size ≤ i) (hm : Mod F w w') : JVf w0 w' d j S' F' R := by
  have hE2 : Eff w w' d S' F := ⟨F', hA', hF', hm⟩
  refine ⟨hA', fun i hi => (hF' i hi).elim (h.f i) (fun q => Nat.le_trans h.b.size q), h.b.trans (hm.to_below h.b.size (fun k hk q => by have := h.f k q; omega)), hE2.bx h.x h.nj, fun hf => ?_, h.lj, fun x hx => ⟨(h.r x hx).1.kept hm (fun a e => (h.r x hx).2 a e), fun a e hf => ?_⟩⟩
  · rcases hF' j hf with q | q
    · exact h.nj q
    · have := h.x.lt; omega
  · rcases hF' _ hf with q | q
    · exact (h.r x hx).2 a e q
    · have h1 := (h.r x hx).1
      rw [e] at h1
      have := h1.lt; omega
/-- .. with a block beside it, too. -/
def JK (w0 w : World) (d j : Nat) (S : St) (R : List TR) (g : Nat) (O : Obj) : Prop := ∃ F, JVf w0 w d j S F R ∧ w.heap[g]? = some O ∧ ¬ F g
theorem JK.jv (h : JK w0 w d j S R g O) : JV w0 w d j S R := by obtain ⟨F, h, _⟩ := h; exact ⟨F, h⟩
theorem JK.b (h : JK w0 w d j S R g O) : Below w0.heap.size w0 w := h.jv.b
theorem JK.at (h : JK w0 w d j S R g O) : w.heap[g]? = some O := by obtain ⟨F, _, h, _⟩ := h; exact h
theorem JK.lt (h : JK w0 w d j S R g O) : g < w.heap.size := (Array.getElem?_eq_some_iff.1 h.at).1
theorem JV.alloc (h : JV w0 w d j S R) (O : Obj) (hb : Below w.heap.size w w') (hO : w'.heap[w.heap.size]? = some O) : JK w0 w' d j S R w.heap.size O := by
  obtain ⟨F, h⟩ := h
  refine ⟨F, ⟨h.a.old hb, h.f, h.b.trans (hb.mono h.b.size), h.x.old hb, h.nj, h.lj, fun x hx => ⟨(h.r x hx).1.old hb, (h.r x hx).2⟩⟩, hO, fun hf => ?_⟩
  have := h.a.lt _ hf; omega
theorem JK.step (h : JVf w0 w d j S F R) (hg : w.heap[g]? = some O) (hn : ¬ F g) (hE : Eff w w' d S' F) : JK w0 w' d j S' R g O := by
  have hrow := hE.row hg hn
  obtain ⟨F', hA', hF', hm⟩ := hE
  refine ⟨F', h.stepF hA' hF' hm, hrow, fun hf => ?_⟩
  rcases hF' g hf with q | q
  · exact hn q
  · have := (Array.getElem?_eq_some_iff.1 hg).1; omega
theorem JK.old (h : JK w0 w d j S R g O) (hb : Below w.heap.size w w') : JK w0 w' d j S R g O := by
  have hl := h.lt
  obtain ⟨F, h, h2, h3⟩ := h
  exact ⟨F, ⟨h.a.old hb, h.f, h.b.trans (hb.mono h.b.size), h.x.old hb, h.nj, h.lj, fun x hx => ⟨(h.r x hx).1.old hb, (h.r x hx).2⟩⟩, (hb.block _ hl).trans h2, h3⟩
theorem JK.made (h : JK w0 w d j S R g O) (hb : Below w.heap.size w w') {p : Option Addr} {c : Nat} {L : List (List UInt8)} (hR : Rw encS 9 w' p c L) (hp : ∀ a, p = some a → w.heap.size ≤ a.block) : JK w0 w' d j S ((p, c, L) :: R) g O := by
  have hl := h.lt
  obtain ⟨F, h, h2, h3⟩ := h
  refine ⟨F, ⟨h.a.old hb, h.f, h.b.trans (hb.mono h.b.size), h.x.old hb, h.nj, h.lj, fun x hx => ?_⟩, (hb.block _ hl).trans h2, h3⟩
  rcases List.mem_cons.1 hx with rfl | hx
  · exact ⟨hR, fun a e hf => by have := h.a.lt _ hf; have := hp a e; omega⟩
  · exact ⟨(h.r x hx).1.old hb, (h.r x hx).2⟩
theorem JK.sub (h : JK w0 w d j S R g O) (hs : ∀ x ∈ R', x ∈ R) : JK w0 w d j S R' g O := by
  obtain ⟨F, h, h2, h3⟩ := h; exact ⟨F, ⟨h.a, h.f, h.b, h.x, h.nj, h.lj, fun x hx => h.r x (hs x hx)⟩, h2, h3⟩
theorem JK.append (h : JK w0 w d j S R g O) (gd : Gd S n) (hn : n ≤ 90000) (s : List UInt8) (hs : s.length ≤ 1000000000) (hT : TabAt w0) :
    Calls Tryd.prog 13 #[.pointer (some ⟨j, 0, none⟩), .string ⟨s.toArray⟩] w fun e w' => e = .returned (.int .i64 (apdX S s).1) ∧ JK w0 w' d j (apdX S s).2 R g O := by
  obtain ⟨F, h, h2, h3⟩ := h
  exact (jappend_any h.a gd hn j h.x h.nj s hs (TabJ.old hT h.b)).mono (by rintro e w' ⟨rfl, hE⟩; exact ⟨rfl, JK.step h h2 h3 hE⟩)
theorem JK.rewrite (h : JK w0 w d j S R g O) (gd : Gd S n) (hn : n ≤ 90000) {p : Option Addr} {c : Nat} {L : List (List UInt8)} (hR : Rw encS 9 w p c L) (hlen : L.length ≤ 900) (hT : TabAt w0) :
    Calls Tryd.prog 12 #[.pointer (some ⟨j, 0, none⟩), .slice p L.length c] w fun e w' => e = .returned (.int .i64 (rwtX S L).1) ∧ JK w0 w' d j (rwtX S L).2 R g O := by
  obtain ⟨F, h, h2, h3⟩ := h
  exact (jrewrite_any h.a gd hn j h.x h.nj p c L (Rw.strs hR rfl) hlen (TabJ.old hT h.b)).mono (by rintro e w' ⟨rfl, hE⟩; exact ⟨rfl, JK.step h h2 h3 hE⟩)
theorem JK.halt (h : JK w0 w d j S R g O) (m : Int) :
    Calls Tryd.prog 9 #[.pointer (some ⟨d, 0, none⟩), .int .i64 m] w fun e w' => e = .returned (.tuple #[]) ∧ JK w0 w' d j { S with lf := max m (-1) } R g O := by
  obtain ⟨F, h, h2, h3⟩ := h
  exact (dkhalt_any h.a m).mono (by rintro e w' ⟨rfl, hE⟩; exact ⟨rfl, JK.step h h2 h3 hE⟩)
theorem JK.used (h : JK w0 w d j S R g O) (ok : Ok S) : Calls Tryd.prog 10 #[.pointer (some ⟨d, 0, none⟩)] w fun e w' => e = .returned (.int .i64 (usedX S.X : Nat)) ∧ JK w0 w' d j S R g O := by
  have h2 := h
  obtain ⟨F, h, _, _⟩ := h
  exact (dkused_any h.a (Nat.le_trans ok.n (by decide)) ok.f).mono (by rintro e w' ⟨rfl, hE⟩; exact ⟨rfl, h2.old hE⟩)
theorem JK.crash (h : JK w0 w d j S R g O) (ok : Ok S) (cp : Option Addr) (cc : Nat) (ch : List Int) (hcc : ch.length ≤ cc) (hrd : Rd encI w cp ch) (hcp : ch ≠ [] → ∀ a, cp = some a → a.block < w0.heap.size) :
    Calls Tryd.prog 14 #[.pointer (some ⟨d, 0, none⟩), .slice cp ch.length cc] w fun e w' => e = .returned (.tuple #[]) ∧ JK w0 w' d j { S with X := crX ch S.X, lf := -1, dn := false } R g O := by
  obtain ⟨F, h, h2, h3⟩ := h
  exact (dkcrash_any h.a ok cp cc ch hcc hrd (fun he a e hf => by have := hcp he a e; have := h.f _ hf; omega)).mono (by rintro e w' ⟨rfl, hE⟩; exact ⟨rfl, JK.step h h2 h3 hE⟩)
theorem JK.jopenX (h : JK w0 w d j S R g O) (gd : Gd S n) (hn : n ≤ 90000) (hT : TabAt w0) :
    Calls Tryd.prog 8 #[.pointer (some ⟨d, 0, none⟩)] w fun e w' => (∃ a b c, e = .returned (.tuple #[a, b, c])) ∧ JK w0 w' d j (opnX S).2.2 R g O := by
  obtain ⟨F, h, h2, h3⟩ := h
  refine (jopen_any h.a gd hn (TabJ.old hT h.b)).mono ?_
  intro e w' hP
  have hE := hP.eff
  obtain ⟨F', _, _, _, hp⟩ := hP
  refine ⟨?_, JK.step h h2 h3 hE⟩
  cases ho : (opnX S).1 with
  | none => rw [ho] at hp; exact ⟨_, _, _, hp.1⟩
  | some L =>
    rw [ho] at hp
    obtain ⟨j2, p, c, rfl, _⟩ := hp
    exact ⟨_, _, _, rfl⟩
/-- Opened for the first time. -/
theorem Dk.jopenV (h : Dk w0 w d S) (gd : Gd S n) (hn : n ≤ 90000) (hT : TabAt w0) (L : List (List UInt8)) (S' : St) (ho : opnX S = (some L, 0, S')) :
    Calls Tryd.prog 8 #[.pointer (some ⟨d, 0, none⟩)] w fun e w' => ∃ j2 p c, e = .returned (.tuple #[.pointer (some ⟨j2, 0, none⟩), .slice p L.length c, .int .i64 0]) ∧ JV w0 w' d j2 S' [(p, c, L)] := by
  obtain ⟨F, hA, hf, hb⟩ := h
  refine (jopen_any hA gd hn (TabJ.old hT hb)).mono ?_
  rintro e w' ⟨F', hA', hF', hm, hp⟩
  rw [ho] at hp hA'
  obtain ⟨j2, p, c, rfl, hx, hjl, hj, hR, hpn⟩ := hp
  refine ⟨j2, p, c, rfl, F', hA', fun i hi => (hF' i hi).elim (hf i) (fun q => Nat.le_trans hb.size q), hb.trans (hm.to_below hb.size (fun k hk q => by have := hf k q; omega)), hx, hj, Nat.le_trans hb.size hjl, fun x hx => ?_⟩
  rw [List.mem_singleton.1 hx]
  exact ⟨hR, fun a e => (hpn a e).2⟩
end
/-- Up, with these texts. -/
def UpK (rm : Int) (l : List (List UInt8)) (S : St) : Prop := ∃ dd lf a, S = ⟨rm, dd, lf, false, X2 a none⟩ ∧ foD a = (frmsB l, (frmsB l).length)
section
variable {rm dd : Int} {l V : List (List UInt8)} {S : St} {b : Bool} {g m : Int}
theorem UpK.js (hb : b = false → l = []) (m : Int) : UpK rm l { JS rm dd l b with lf := m } := ⟨dd, m, aOf l b, by rw [JS.x2], aOf.d hb⟩
theorem UpK.x2 (dd lf : Int) : UpK rm l ⟨rm, dd, lf, false, X2 (some (frmsB l, (frmsB l).length)) none⟩ := ⟨dd, lf, _, rfl, rfl⟩
theorem UpK.halt (h : UpK rm l S) : ∃ dd b, ({ S with lf := max (-1) (-1) } : St) = JS rm dd l b ∧ (b = false → l = []) := by
  obtain ⟨dd, lf, a, rfl, ha⟩ := h
  exact ⟨dd, a.isSome, JS.of rm dd l a ha, none_nil l a ha⟩
/-- What an Append or a Rewrite came to. -/
def KpO (rm dd : Int) (l V : List (List UInt8)) (b : Bool) (m : Int) (g : Int) (S : St) : Prop :=
  (g = 0 ∧ UpK rm V S) ∨ (g = 5 ∧ S = { JS rm dd l b with lf := m }) ∨ (g = 6 ∧ Bk rm l V S)
theorem KpO.apd (hb : b = false → l = []) (hl : Small l) (s : List UInt8) (hs : s.length ≤ 1048576) (m : Int) : KpO rm dd l (l ++ [s]) b m (apdX { JS rm dd l b with lf := m } s).1 (apdX { JS rm dd l b with lf := m } s).2 := by
  rcases JS.apdH (rm := rm) (dd := dd) hb hl s hs m with ⟨dd', lf', e⟩ | ⟨_, e⟩ | ⟨S', e, hB⟩
  · rw [e]; exact .inl ⟨rfl, UpK.x2 _ _⟩
  · rw [e]; exact .inr (.inl ⟨rfl, rfl⟩)
  · rw [e]; exact .inr (.inr ⟨rfl, hB⟩)
theorem KpO.rwt (hb : b = false → l = []) (hl : Small l) (V : List (List UInt8)) (hV : Small V) (m : Int) : KpO rm dd l V b m (rwtX { JS rm dd l b with lf := m } V).1 (rwtX { JS rm dd l b with lf := m } V).2 := by
  rcases JS.rwtH (rm := rm) (dd := dd) hb hl V hV m with ⟨dd', lf', e⟩ | ⟨_, e⟩ | ⟨S', e, hB⟩
  · rw [e]; exact .inl ⟨rfl, UpK.x2 _ _⟩
  · rw [e]; exact .inr (.inl ⟨rfl, rfl⟩)
  · rw [e]; exact .inr (.inr ⟨rfl, hB⟩)
end
/-- What holds while i acts are behind. -/
structure KpR (W1 wr : World) (rm : Int) (d j : Nat) (p : Option Addr) (c n i : Nat) : Prop where
  ex : ∃ l dd b, JV W1 wr d j (JS rm dd l b) [(p, c, l)] ∧ (b = false → l = []) ∧ Gd (JS rm dd l b) (15 * i) ∧ n = l.length ∧ l.length ≤ 6 + i ∧ (∀ s ∈ l, s.length ≤ 40)
theorem small40 {l : List (List UInt8)} (h : ∀ s ∈ l, s.length ≤ 40) : Small l := fun s hs => Nat.le_trans (h s hs) (by decide)
theorem act_cells {w : World} {g : Nat} {x : BX} (h : w.heap[g]? = some (.cells x.cells.toArray 33 (0, 0))) : w.cell? ⟨g, 0, none⟩ = some (.int .i64 x.kd) ∧ w.cell? ⟨g, 1, none⟩ = some (.int .i64 x.af) ∧ w.cell? ⟨g, 2, none⟩ = some (.slice x.lo x.L.length x.lc) ∧ w.cell? ⟨g, 3, none⟩ = some (.slice x.co x.ch.length x.cc) ∧ w.cell? ⟨g, 4, none⟩ = some (.slice x.ao x.ag.length x.ac) := by
  unfold World.cell?
  simp only [h]
  exact ⟨rfl, rfl, rfl, rfl, rfl⟩
/-- Behind an Append or a Rewrite. -/
structure KpW (W1 wx : World) (r dd : Int) (d j : Nat) (p : Option Addr) (c : Nat) (l : List (List UInt8)) (b : Bool) (m : Int) (g : Nat) (O : Obj) (i : Nat) (q : Option Addr) (qn qc : Nat) (V : List (List UInt8)) (fv : Int) : Prop where
  ex : ∃ S2, JK W1 wx d j S2 [(q, qc, V), (p, c, l)] g O ∧ KpO r dd l V b m fv S2 ∧ Gd S2 (15 * i + 3)
  n : qn = V.length
  l : V.length ≤ 7 + i
  e : ∀ s ∈ V, s.length ≤ 40
/-- Behind an act, but for the halt. -/
structure KpS (W1 wx : World) (r : Int) (d j : Nat) (p : Option Addr) (c n i : Nat) : Prop where
  ex : ∃ l S, JV W1 wx d j S [(p, c, l)] ∧ UpK r l S ∧ Gd S (15 * i + 15) ∧ n = l.length ∧ l.length ≤ 7 + i ∧ ∀ s ∈ l, s.length ≤ 40
end Go.Proofs.YtippakeemfldfaaDoor
