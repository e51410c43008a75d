/- Texts 2: what the laws lean on. -/
import Derived.Test.YtdiiechkhlbkcabVRo1
import Derived.Test.YtdiiechkhlbkcabShelf
import Derived.BigQuiet
import Derived.Recover
import Derived.Deep.AppendLies
import Derived.Test.YtdiiechkhlbkcabRows
import Derived.WalkKit
import Derived.ProofKit
import Derived.OpenShut
import Derived.SliceStrings
import Derived.Deep.SlicePairs
namespace Go.Proofs.Ytdiiechkhlbkcab
open Go.RowKit

def entN (kf : Nat → List UInt8) (y : Nat) : Ent := (kf y, .pointer (some ⟨y, 0, none⟩))
/-- Cache c: map b, ring r, and what stands in the ring, the one used last first. -/
structure CI (w : World) (c b r : Nat) (M fd ak : Int) (bs : List Nat) (kf : Nat → List UInt8) (vf : Nat → Int) (nw od : Nat → Nat) : Prop where
  row : w.heap[c]? = some (.cells #[.int .i64 M, .map (some b), .pointer (some ⟨r, 0, none⟩), .int .i64 fd, .int .i64 ak] 52 (0, 0))
  nodes : Nodes w (r :: bs) kf vf nw od
  lk : Lk nw od (r :: bs ++ [r])
  nd : (r :: bs).Nodup
  map : MapAt Try.prog 9 w b (bs.map (entN kf))
section
variable {w w' : World} {c b r : Nat} {M fd ak : Int} {bs : List Nat} {kf : Nat → List UInt8} {vf : Nat → Int} {nw od : Nat → Nat}
theorem CI.nc (h : CI w c b r M fd ak bs kf vf nw od) {y : Nat} (hy : y ∈ r :: bs) : c ≠ y := by
  rintro rfl
  have h1 := h.row
  rw [h.nodes c hy] at h1
  simp [entR] at h1
theorem CI.cb (h : CI w c b r M fd ak bs kf vf nw od) : c ≠ b := h.map.notCells h.row
theorem CI.yb (h : CI w c b r M fd ak bs kf vf nw od) {y : Nat} (hy : y ∈ r :: bs) : y ≠ b := h.map.notCells (h.nodes y hy)
theorem CI.clt (h : CI w c b r M fd ak bs kf vf nw od) : c < w.heap.size := (Array.getElem?_eq_some_iff.1 h.row).1
theorem CI.ylt (h : CI w c b r M fd ak bs kf vf nw od) {y : Nat} (hy : y ∈ r :: bs) : y < w.heap.size := h.nodes.lt hy
theorem CI.cell (h : CI w c b r M fd ak bs kf vf nw od) : w.cell? ⟨c, 0, none⟩ = some (.int .i64 M) ∧ w.cell? ⟨c, 1, none⟩ = some (.map (some b)) ∧ w.cell? ⟨c, 2, none⟩ = some (.pointer (some ⟨r, 0, none⟩)) ∧ w.cell? ⟨c, 3, none⟩ = some (.int .i64 fd) ∧ w.cell? ⟨c, 4, none⟩ = some (.int .i64 ak) := by
  refine ⟨?_, ?_, ?_, ?_, ?_⟩ <;> (unfold World.cell?; rw [h.row]; rfl)
theorem CI.froz (h : CI w c b r M fd ak bs kf vf nw od) (i : Nat) : w.frozen? ⟨c, i, none⟩ = false := frozen_of_row w c i _ 52 h.row
/-- What a change leaves alone. -/
theorem CI.kept (h : CI w c b r M fd ak bs kf vf nw od) {S : Nat → Prop} (hm : Mod S w w') (hc : ¬ S c) (hb : ¬ S b) (hy : ∀ y ∈ r :: bs, ¬ S y) : CI w' c b r M fd ak bs kf vf nw od :=
  ⟨(hm.block c h.clt hc).trans h.row, h.nodes.same fun y hy' => hm.block y (h.ylt hy') (hy y hy'), h.lk, h.nd, h.map.kept hm hb⟩
theorem CI.old (h : CI w c b r M fd ak bs kf vf nw od) (hb : Below w.heap.size w w') : CI w' c b r M fd ak bs kf vf nw od :=
  ⟨(hb.block c h.clt).trans h.row, h.nodes.same fun y hy => hb.block y (h.ylt hy), h.lk, h.nd, h.map.old hb⟩
theorem CI.setFd (h : CI w c b r M fd ak bs kf vf nw od) (x : Int) : CI (w.setCell ⟨c, 3, none⟩ (.int .i64 x)) c b r M x ak bs kf vf nw od := by
  refine ⟨?_, h.nodes.same fun y hy => Below.heap_setCell _ _ _ _ (fun e => h.nc hy e.symm), h.lk, h.nd, h.map.same (Below.heap_setCell _ _ _ _ (fun e => h.cb e.symm))⟩
  rw [heap_setCell_same w c 3 _ 52 (.int .i64 x) h.row]; rfl
theorem CI.setAk (h : CI w c b r M fd ak bs kf vf nw od) (x : Int) : CI (w.setCell ⟨c, 4, none⟩ (.int .i64 x)) c b r M fd x bs kf vf nw od := by
  refine ⟨?_, h.nodes.same fun y hy => Below.heap_setCell _ _ _ _ (fun e => h.nc hy e.symm), h.lk, h.nd, h.map.same (Below.heap_setCell _ _ _ _ (fun e => h.cb e.symm))⟩
  rw [heap_setCell_same w c 4 _ 52 (.int .i64 x) h.row]; rfl
theorem Apart.key {L : List Ent} (h : Apart L) {x y : Ent} (hx : x ∈ L) (hy : y ∈ L) (e : x.1 = y.1) : x = y := by
  induction L with
  | nil => cases hx
  | cons z l ih =>
    obtain ⟨h1, h2⟩ := List.pairwise_cons.1 h
    rcases List.mem_cons.1 hx with e1 | h3
    · rcases List.mem_cons.1 hy with e2 | h4
      · rw [e1, e2]
      · rw [e1] at e; exact absurd e (h1 _ h4)
    · rcases List.mem_cons.1 hy with e2 | h4
      · rw [e2] at e; exact absurd e.symm (h1 _ h3)
      · exact ih h2 h3 h4
theorem CI.inj (h : CI w c b r M fd ak bs kf vf nw od) {y z : Nat} (hy : y ∈ bs) (hz : z ∈ bs) (e : kf y = kf z) : y = z := by
  have := h.map.ap.key (List.mem_map_of_mem (f := entN kf) hy) (List.mem_map_of_mem (f := entN kf) hz) e
  simp [entN] at this
  exact this.2
theorem without_ring {A R : List Nat} {x : Nat} (h : Apart ((A ++ x :: R).map (entN kf))) : without (kf x) ((A ++ x :: R).map (entN kf)) = (A ++ R).map (entN kf) := by
  unfold Apart at h
  rw [List.map_append, List.map_cons, List.pairwise_append, List.pairwise_cons] at h
  obtain ⟨_, ⟨h1, _⟩, h2⟩ := h
  unfold without
  have e1 : (List.map (entN kf) A).filter (fun y => y.1 != kf x) = A.map (entN kf) := List.filter_eq_self.2 fun y hy => by
    have := h2 y hy _ (List.mem_cons_self ..)
    simpa [entN] using this
  have e2 : (List.map (entN kf) R).filter (fun y => y.1 != kf x) = R.map (entN kf) := List.filter_eq_self.2 fun y hy => by
    have := h1 y hy
    simp only [entN] at this ⊢
    simpa using fun e => this e.symm
  rw [List.map_append, List.map_cons, List.filter_append, List.filter_cons, e1, e2, List.map_append]
  simp [entN]
theorem hasK_ring (k : List UInt8) (bs : List Nat) : hasK k (bs.map (entN kf)) = bs.any fun y => kf y == k := by
  unfold hasK; rw [List.any_map]; rfl
theorem getK_ring (k : List UInt8) (bs : List Nat) : getK k (bs.map (entN kf)) (.pointer none) = match bs.find? fun y => kf y == k with | some y => .pointer (some ⟨y, 0, none⟩) | none => .pointer none := by
  unfold getK; rw [List.find?_map]
  have : ((fun x : Ent => x.1 == k) ∘ entN kf) = fun y => kf y == k := rfl
  rw [this]
  cases bs.find? fun y => kf y == k <;> rfl
end
/-- A ring that one leaves. -/
theorem ring_leave {nw od : Nat → Nat} {r x : Nat} {A R : List Nat} (h : Lk nw od (r :: (A ++ x :: R) ++ [r])) (hd : (r :: (A ++ x :: R)).Nodup) :
    ∃ p n, nw x = p ∧ od x = n ∧ p ∈ r :: (A ++ R) ∧ n ∈ r :: (A ++ R) ∧ x ≠ p ∧ Lk (upd nw n p) (upd od p n) (r :: (A ++ R) ++ [r]) := by
  obtain ⟨A', p, hA⟩ : ∃ A' p, r :: A = A' ++ [p] := ⟨(r :: A).dropLast, (r :: A).getLast (by simp), (List.dropLast_concat_getLast (by simp)).symm⟩
  obtain ⟨n, B, hB⟩ : ∃ n B, n :: B = R ++ [r] := by cases R with | nil => exact ⟨r, [], rfl⟩ | cons a l => exact ⟨a, l ++ [r], rfl⟩
  have e1 : r :: (A ++ x :: R) ++ [r] = A' ++ p :: x :: n :: B := by
    rw [hB]
    have : r :: (A ++ x :: R) ++ [r] = (r :: A) ++ (x :: (R ++ [r])) := by simp
    rw [this, hA]; simp
  have e2 : r :: (A ++ x :: R) = A' ++ p :: x :: R := by
    have : r :: (A ++ x :: R) = (r :: A) ++ (x :: R) := by simp
    rw [this, hA]; simp
  have e3 : r :: (A ++ R) ++ [r] = A' ++ p :: n :: B := by
    rw [hB]
    have : r :: (A ++ R) ++ [r] = (r :: A) ++ (R ++ [r]) := by simp
    rw [this, hA]; simp
  rw [e1] at h
  rw [e2] at hd
  obtain ⟨h1, h2, h3⟩ := Lk_leave h (r := r) (by rw [← hA]; rfl) hB hd
  have hp : p ∈ r :: A := by rw [hA]; simp
  have hpm : p ∈ r :: (A ++ R) := by
    rcases List.mem_cons.1 hp with h | h
    · exact h ▸ List.mem_cons_self ..
    · exact List.mem_cons_of_mem _ (List.mem_append_left _ h)
  have hn : n ∈ R ++ [r] := by rw [← hB]; simp
  refine ⟨p, n, h2, h1, hpm, ?_, ?_, e3 ▸ h3⟩
  · rcases List.mem_append.1 hn with h | h
    · exact List.mem_cons_of_mem _ (List.mem_append_right _ h)
    · rw [List.mem_singleton.1 h]; exact List.mem_cons_self ..
  · rintro rfl
    have := (List.nodup_append.1 hd).2.1
    exact (List.nodup_cons.1 this).1 (List.mem_cons_self ..)
/-- A ring that one enters. -/
theorem ring_enter {nw od : Nat → Nat} {r x : Nat} {bs : List Nat} (h : Lk nw od (r :: bs ++ [r])) (hd : (r :: bs).Nodup) (hx : x ∉ r :: bs) :
    ∃ g, od r = g ∧ g ∈ r :: bs ∧ Lk (upd (upd nw x r) g x) (upd (upd od x g) r x) (r :: (x :: bs) ++ [r]) := by
  obtain ⟨g, B, hB⟩ : ∃ g B, g :: B = bs ++ [r] := by cases bs with | nil => exact ⟨r, [], rfl⟩ | cons a l => exact ⟨a, l ++ [r], rfl⟩
  have h' : Lk nw od (r :: g :: B) := by rw [hB]; exact h
  obtain ⟨h1, h2⟩ := Lk_enter h' hB hd hx
  refine ⟨g, h1, ?_, ?_⟩
  · have hn : g ∈ bs ++ [r] := by rw [← hB]; simp
    rcases List.mem_append.1 hn with h | h
    · exact List.mem_cons_of_mem _ h
    · rw [List.mem_singleton.1 h]; exact List.mem_cons_self ..
  · rw [hB] at h2; exact h2
/-- The one that is used the longest ago. -/
theorem ring_last {nw od : Nat → Nat} {r x : Nat} {A : List Nat} (h : Lk nw od (r :: (A ++ [x]) ++ [r])) : nw r = x := by
  have e : r :: (A ++ [x]) ++ [r] = (r :: A) ++ x :: [r] := by simp
  rw [e, Lk_app] at h
  exact h.2.1.2
theorem nodup_mid {r x : Nat} {A R : List Nat} (hd : (r :: (A ++ x :: R)).Nodup) : (r :: (A ++ R)).Nodup ∧ x ∉ r :: (A ++ R) := by
  have hp : (r :: (A ++ x :: R)).Perm (x :: r :: (A ++ R)) := ((List.perm_middle (l₁ := A) (l₂ := R) (a := x)).cons r).trans (List.Perm.swap x r _)
  have := (hp.nodup_iff).1 hd
  exact ⟨(List.nodup_cons.1 this).2, (List.nodup_cons.1 this).1⟩
end Go.Proofs.Ytdiiechkhlbkcab

namespace Go.Proofs.Ytdiiechkhlbkcab
open Go.RowKit

section
variable {P : Program} {ops : Array Oper} {Q : Exit → Act → World → Prop} {md : Region.Mode} {V : Tmp → Value → Prop} {G : Nat → Value → World → Prop} {C : List Nat} {a0 : Act}
/-- A call of the chain whose answer nobody takes. -/
theorem owesC_eff {i : Nat} {o : Oper} (m : Nat) (hm : C[m]? = some i) (hi : ops[i]? = some o) (ht : o.dst = none)
    (h : ∀ a w x, AgreeC ops C m a0 a → G m x w → Holds' ops C a m x → AllV (fun t v _ => V t v) a w (waits md ops o) → ∃ v w', Region.wanted o (yielded ops a.tmps) = true ∧ (execOp a.eval o).run P w = .ok (.value v) w' ∧ G (m + 1) undef w') : OwesC P md ops Q V G C a0 i o := by
  refine .inl ⟨m, hm, fun a w x ha hG hh hV => ?_⟩
  obtain ⟨v, w', hw, hr, h2⟩ := h a w x ha hG hh hV
  unfold wpOp
  rw [hi]
  simp only [hw, if_true, Oper.wp, hr, Oper.upon, ht]
  exact .inl ⟨undef, rfl, fun u hu => (by cases hu), h2⟩
end

theorem clen_any (c b r : Nat) (M fd ak : Int) (bs : List Nat) (kf : Nat → List UInt8) (vf : Nat → Int) (nw od : Nat → Nat) (w : World) (h : CI w c b r M fd ak bs kf vf nw od) :
    Calls Try.prog 17 #[.pointer (some ⟨c, 0, none⟩)] w fun e w' => e = .returned (.int .i64 (bs.length : Nat)) ∧ w' = w := by
  have c1 := h.cell.2.1
  have hl := fun ty => h.map.len Try.underlying50 ty
  rw [List.length_map] at hl
  clear h
  go_enter Try.func17, Try.ntmps17
  go_wp2_with fail
  go_ret
  exact ⟨rfl, rfl⟩
theorem hits_any (c b r : Nat) (M fd ak : Int) (bs : List Nat) (kf : Nat → List UInt8) (vf : Nat → Int) (nw od : Nat → Nat) (w : World) (h : CI w c b r M fd ak bs kf vf nw od) :
    Calls Try.prog 16 #[.pointer (some ⟨c, 0, none⟩)] w fun e w' => e = .returned (.tuple #[.int .i64 fd, .int .i64 ak]) ∧ Below w.heap.size w w' := by
  have c3 := h.cell.2.2.2.1
  have c4 := h.cell.2.2.2.2
  clear h
  go_enter Try.func16, Try.ntmps16
  go_wp2_with fail
  go_quiet (fail)
  go_wp2_with fail
  go_ret2
  exact ⟨rfl, ((Mod.refl (fun _ => False) w).drewN _).to_below (Nat.le_refl _) (fun _ _ h => h)⟩

set_option maxRecDepth 20000 in
set_option maxHeartbeats 1000000 in
theorem cdrop_any (c b r nd : Nat) (M fd ak : Int) (A R : List Nat) (kf : Nat → List UInt8) (vf : Nat → Int) (nw od : Nat → Nat) (w : World) (h : CI w c b r M fd ak (A ++ nd :: R) kf vf nw od) :
    Calls Try.prog 22 #[.pointer (some ⟨c, 0, none⟩), .pointer (some ⟨nd, 0, none⟩)] w fun e w' => e = .returned (.tuple #[]) ∧ (∃ nw' od', CI w' c b r M fd ak (A ++ R) kf vf nw' od') ∧ Mod (fun i => i = b ∨ i ∈ r :: (A ++ nd :: R)) w w' := by
  obtain ⟨p, n, e1, e2, hp, hn, hxp, hl⟩ := ring_leave h.lk h.nd
  have hsub : ∀ y ∈ r :: (A ++ R), y ∈ r :: (A ++ nd :: R) := by
    intro y hy
    rcases List.mem_cons.1 hy with h | hy
    · exact h ▸ List.mem_cons_self ..
    · refine List.mem_cons_of_mem _ ?_
      rcases List.mem_append.1 hy with h | h
      · exact List.mem_append_left _ h
      · exact List.mem_append_right _ (List.mem_cons_of_mem _ h)
  have hxm : nd ∈ r :: (A ++ nd :: R) := List.mem_cons_of_mem _ (List.mem_append_right _ (List.mem_cons_self ..))
  have HLV := Lib.hid (leave_any nd p n _ kf vf nw od w h.nodes hxm (hsub p hp) (hsub n hn) e1 e2 hxp)
  obtain ⟨nw1, hnw⟩ : ∃ f, f = upd nw n p := ⟨_, rfl⟩
  obtain ⟨od1, hod⟩ : ∃ f, f = upd od p n := ⟨_, rfl⟩
  rw [← hnw, ← hod] at hl HLV
  have hkl : (kf nd).length ≤ maxLen := h.map.le (entN kf nd) (List.mem_map_of_mem (List.mem_append_right _ (List.mem_cons_self ..)))
  have HF : Hid (∀ W1 : World, Nodes W1 (r :: (A ++ nd :: R)) kf vf nw1 od1 → Mod (fun i => i ∈ r :: (A ++ nd :: R)) w W1 →
      (∀ w' : World, Below W1.heap.size W1 w' → w'.cell? ⟨c, 1, none⟩ = some (.map (some b)) ∧ w'.cell? ⟨nd, 0, none⟩ = some (.string ⟨(kf nd).toArray⟩)) ∧
      (∀ w' : World, Below W1.heap.size W1 w' → ∃ w2, (∀ ty, (Builtin.delete_ #[50, 9] ty #[.map (some b), .string ⟨(kf nd).toArray⟩]).run Try.prog w' = .ok (.tuple #[]) w2) ∧ CI w2 c b r M fd ak (A ++ R) kf vf nw1 od1 ∧ Mod (fun i => i = b) w' w2)) := Lib.hid (by
    intro W1 hN hm
    have hc : ∀ w', Below W1.heap.size W1 w' → w'.heap[c]? = w.heap[c]? := fun w' hb => (hb.block c (Nat.lt_of_lt_of_le h.clt hm.size)).trans (hm.block c h.clt (fun hi => h.nc hi rfl))
    have hb' : ∀ w', Below W1.heap.size W1 w' → w'.heap[b]? = w.heap[b]? := fun w' hb => (hb.block b (Nat.lt_of_lt_of_le h.map.lt hm.size)).trans (hm.block b h.map.lt (fun hi => h.yb hi rfl))
    have hN' : ∀ w', Below W1.heap.size W1 w' → Nodes w' (r :: (A ++ nd :: R)) kf vf nw1 od1 := fun w' hb => hN.same fun y hy => hb.block y (hN.lt hy)
    refine ⟨fun w' hb => ⟨?_, ((hN' w' hb).cell hxm).1⟩, fun w' hb => ?_⟩
    · exact (World.cell?_of_block (hc w' hb)).trans h.cell.2.1
    · obtain ⟨w2, hr, hM, hmd⟩ := (h.map.same (hb' w' hb)).drop Try.underlying9 Try.underlying50 (kf nd) hkl 0
      rw [without_ring h.map.ap] at hM
      have hcw : c < w'.heap.size := Nat.lt_of_lt_of_le (Nat.lt_of_lt_of_le h.clt hm.size) hb.size
      exact ⟨w2, fun _ => hr, ⟨((hmd.block c hcw h.cb).trans (hc w' hb)).trans h.row, ((hN' w' hb).sub hsub).same fun y hy => hmd.block y ((hN' w' hb).lt (hsub y hy)) (h.yb (hsub y hy)), hl, (nodup_mid h.nd).1, hM⟩, hmd⟩)
  clear h e1 e2 hp hn hxp hl hsub hxm hkl hnw hod
  go_enter Try.func22, Try.ntmps22
  go_wp2_with fail
  refine HLV.out.mono ?_
  rintro e W1 ⟨rfl, hN1, hm1⟩
  obtain ⟨hp, hs⟩ := HF.out W1 hN1 hm1
  have HP := Lib.hid hp
  have HS := Lib.hid hs
  have HM := Lib.hid hm1
  clear hN1 hm1 hp hs HLV HF
  go_wp2_with fail
  have HG0 : Hid ((fun (j : Nat) (_ : Value) (w' : World) => (j = 0 → Below W1.heap.size W1 w') ∧ (j = 1 → ∃ w1, Below W1.heap.size W1 w1 ∧ CI w' c b r M fd ak (A ++ R) kf vf nw1 od1 ∧ Mod (fun i => i = b) w1 w')) 0 undef W1.drew) := Lib.hid ⟨(fun _ => (Below.refl _ W1).drew), (fun h => absurd h (by omega))⟩
  refine CV.wp_region_chain (fun t v => match t with
    | 6 => v = .pointer (some ⟨c, 0, none⟩)
    | 7 => v = .pointer (some ⟨c, 0, none⟩)
    | 8 => v = .pointer (some ⟨c, 1, none⟩)
    | 9 => v = .map (some b)
    | 10 => v = .pointer (some ⟨nd, 0, none⟩)
    | 11 => v = .pointer (some ⟨nd, 0, none⟩)
    | 12 => v = .pointer (some ⟨nd, 0, none⟩)
    | 13 => v = .string ⟨(kf nd).toArray⟩
    | _ => True) (fun (j : Nat) (_ : Value) (w' : World) => (j = 0 → Below W1.heap.size W1 w') ∧ (j = 1 → ∃ w1, Below W1.heap.size W1 w1 ∧ CI w' c b r M fd ak (A ++ R) kf vf nw1 od1 ∧ Mod (fun i => i = b) w1 w')) [8] 14 (by kernel_rfl) (by decide +kernel) rfl (by decide +kernel) (by decide) (by decide) HG0.out (by
    refine OweAllC.cons (owesC_val 0 (by decide +kernel) (by decide) rfl rfl fun k' a w1 x hk ha hG hV => ?_) ?_
    · skip
      have h0 := ha.outer 0 (by decide +kernel)
      simp only [Act.eval] at h0
      exact ⟨.pointer (some ⟨c, 0, none⟩), wanted_free rfl, by simp [execOp, go_sem, h0], rfl⟩
    refine OweAllC.cons (owesC_val 0 (by decide +kernel) (by decide) rfl rfl fun k' a w1 x hk ha hG hV => ?_) ?_
    · skip
      have h6 : a.tmps.getD 6 undef = .pointer (some ⟨c, 0, none⟩) := hV.get 6 (by decide +kernel)
      exact ⟨.pointer (some ⟨c, 0, none⟩), wanted_free rfl, by simp [execOp, go_sem, h6], rfl⟩
    refine OweAllC.cons (owesC_val 0 (by decide +kernel) (by decide) rfl rfl fun k' a w1 x hk ha hG hV => ?_) ?_
    · skip
      have h7 : a.tmps.getD 7 undef = .pointer (some ⟨c, 0, none⟩) := hV.get 7 (by decide +kernel)
      exact ⟨.pointer (some ⟨c, 1, none⟩), wanted_free rfl, by simp [execOp, go_sem, h7], rfl⟩
    refine OweAllC.cons (owesC_val 0 (by decide +kernel) (by decide) rfl rfl fun k' a w1 x hk ha hG hV => ?_) ?_
    · skip
      have h8 : a.tmps.getD 8 undef = .pointer (some ⟨c, 1, none⟩) := hV.get 8 (by decide +kernel)
      have cc := HP.out w1 (hG.1 (by omega))
      exact ⟨.map (some b), wanted_free rfl, by simp [execOp, go_sem, h8, cc.1], rfl⟩
    refine OweAllC.cons (owesC_val 0 (by decide +kernel) (by decide) rfl rfl fun k' a w1 x hk ha hG hV => ?_) ?_
    · skip
      have h1 := ha.outer 1 (by decide +kernel)
      simp only [Act.eval] at h1
      exact ⟨.pointer (some ⟨nd, 0, none⟩), wanted_free rfl, by simp [execOp, go_sem, h1], rfl⟩
    refine OweAllC.cons (owesC_val 0 (by decide +kernel) (by decide) rfl rfl fun k' a w1 x hk ha hG hV => ?_) ?_
    · skip
      have h10 : a.tmps.getD 10 undef = .pointer (some ⟨nd, 0, none⟩) := hV.get 10 (by decide +kernel)
      exact ⟨.pointer (some ⟨nd, 0, none⟩), wanted_free rfl, by simp [execOp, go_sem, h10], rfl⟩
    refine OweAllC.cons (owesC_val 0 (by decide +kernel) (by decide) rfl rfl fun k' a w1 x hk ha hG hV => ?_) ?_
    · skip
      have h11 : a.tmps.getD 11 undef = .pointer (some ⟨nd, 0, none⟩) := hV.get 11 (by decide +kernel)
      exact ⟨.pointer (some ⟨nd, 0, none⟩), wanted_free rfl, by simp [execOp, go_sem, h11], rfl⟩
    refine OweAllC.cons (owesC_val 0 (by decide +kernel) (by decide) rfl rfl fun k' a w1 x hk ha hG hV => ?_) ?_
    · skip
      have h12 : a.tmps.getD 12 undef = .pointer (some ⟨nd, 0, none⟩) := hV.get 12 (by decide +kernel)
      have cc := HP.out w1 (hG.1 (by omega))
      exact ⟨.string ⟨(kf nd).toArray⟩, wanted_free rfl, by simp [execOp, go_sem, h12, cc.2], rfl⟩
    refine OweAllC.cons (owesC_eff 0 rfl rfl rfl fun a w1 x ha hG hx hV => ?_) ?_
    · skip
      have h9 : a.tmps.getD 9 undef = .map (some b) := hV.get 9 (by decide +kernel)
      have h13 : a.tmps.getD 13 undef = .string ⟨(kf nd).toArray⟩ := hV.get 13 (by decide +kernel)
      have hb := hG.1 (by omega)
      obtain ⟨w2, hr, hm, hmd⟩ := HS.out w1 hb
      exact ⟨.tuple #[], w2, wanted_free rfl, by simp [go_sem, h9, h13, hr], (fun h => absurd h (by omega)), fun _ => ⟨w1, hb, hm, hmd⟩⟩
    exact OweAllC.nil
    ) ?_
  intro f wz xz hG hx hv
  clear hv hx
  have HE := Lib.hid (hG.2 rfl)
  clear hG
  go_end0
  obtain ⟨w1, hb, hC, hmd⟩ := HE.out
  refine ⟨rfl, ⟨_, _, hC⟩, ?_⟩
  exact ((HM.out.mono (fun _ _ h => Or.inr h)).trans (Mod.of_below hb |>.mono (T := fun i => W1.heap.size ≤ i) (fun _ _ h => h)) (fun i hi h => absurd (Nat.lt_of_lt_of_le hi HM.out.size) (by omega))).trans hmd (fun _ _ h => Or.inl h)
end Go.Proofs.Ytdiiechkhlbkcab

namespace Go.Proofs.Ytdiiechkhlbkcab
open Go.RowKit

set_option maxRecDepth 20000 in
theorem cnew_any (m : Int) (w : World) :
    Calls Try.prog 7 #[.int .i64 m] w fun e w' => ∃ c b r, e = .returned (.pointer (some ⟨c, 0, none⟩)) ∧ CI w' c b r (min (max m 1) 1024) 0 0 [] (fun _ => []) (fun _ => 0) (fun _ => r) (fun _ => r) ∧ Below w.heap.size w w' ∧ w.heap.size ≤ c ∧ w.heap.size ≤ b ∧ w.heap.size ≤ r := by
  obtain ⟨M, hM⟩ : ∃ M, min (max m 1) 1024 = M := ⟨_, rfl⟩
  rw [hM]
  have hmk : ∀ w : World, (Instr.makeMap 50 none).run Try.prog w = .ok (.map (some w.heap.size)) (w.alloc (.map #[] 0)) := fun w => run_makeMap _ _
  have hr0 : (w.alloc (.cells #[.string ⟨#[]⟩, .int .i64 0, .pointer none, .pointer none] 49)).heap[w.heap.size]? = some (.cells #[.string ⟨#[]⟩, .int .i64 0, .pointer none, .pointer none] 49 (0, 0)) := heap_alloc_new _ _
  have hB0 : Below w.heap.size w (w.alloc (.cells #[.string ⟨#[]⟩, .int .i64 0, .pointer none, .pointer none] 49)) := (Below.refl _ w).alloc (Nat.le_refl _) _
  have hz0 : w.heap.size < (w.alloc (.cells #[.string ⟨#[]⟩, .int .i64 0, .pointer none, .pointer none] 49)).heap.size := by simp
  go_enter Try.func7, Try.ntmps7
  go_upto_region 2 with fail
  generalize (w.alloc (.cells #[.string ⟨#[]⟩, .int .i64 0, .pointer none, .pointer none] 49)) = W0 at hr0 hB0 hz0 ⊢
  obtain ⟨n0, hn0⟩ : ∃ n0, n0 = w.heap.size := ⟨_, rfl⟩
  have HN0 := Lib.hid hn0
  rw [← hn0] at hr0 hz0 hB0 ⊢
  clear hn0
  have c2 : W0.cell? ⟨n0, 2, none⟩ = some (.pointer none) := by unfold World.cell?; rw [hr0]; rfl
  have c3 : W0.cell? ⟨n0, 3, none⟩ = some (.pointer none) := by unfold World.cell?; rw [hr0]; rfl
  have f2 := frozen_of_row W0 n0 2 _ _ hr0
  have f3 := frozen_of_row W0 n0 3 _ _ hr0
  have h1 := heap_setCell_same W0 n0 2 _ 49 (.pointer (some ⟨n0, 0, none⟩)) hr0
  have h2 := heap_setCell_same (W0.setCell ⟨n0, 2, none⟩ (.pointer (some ⟨n0, 0, none⟩))) n0 3 _ 49 (.pointer (some ⟨n0, 0, none⟩)) h1
  have hM2 : Mod (fun i => i = n0) W0 ((W0.setCell ⟨n0, 2, none⟩ (.pointer (some ⟨n0, 0, none⟩))).setCell ⟨n0, 3, none⟩ (.pointer (some ⟨n0, 0, none⟩))) := ((Mod.refl (fun i => i = n0) W0).setCell (fun _ => rfl) _).setCell (fun _ => rfl) _
  have H2 := Lib.hid h2
  have HM2 := Lib.hid hM2
  have HB0 := Lib.hid hB0
  have HZ0 := Lib.hid hz0
  clear hr0 h1 h2 hM2 hB0 hz0
  go_upto_region 3 with fail
  generalize (W0.setCell ⟨n0, 2, none⟩ (.pointer (some ⟨n0, 0, none⟩))).setCell ⟨n0, 3, none⟩ (.pointer (some ⟨n0, 0, none⟩)) = W1 at H2 HM2 ⊢
  clear c2 c3 f2 f3
  go_wp2_with fail
  go_ret
  have hB1 : Below w.heap.size w W1 := by
    refine Mod.to_below (S := fun i => n0 ≤ i) (((Mod.of_below HB0.out).trans HM2.out (fun i _ e => by omega))) (Nat.le_refl _) (fun i hi h => ?_)
    have := HN0.out; omega
  have hz1 : n0 < W1.heap.size := Nat.lt_of_lt_of_le HZ0.out HM2.out.size
  have hn := HN0.out
  refine ⟨_, W1.heap.size, n0, rfl, ⟨?_, ?_, ⟨⟨rfl, rfl⟩, trivial⟩, by simp, ?_⟩, (hB1.alloc hB1.size _).alloc (by simp; have := hB1.size; omega) _, by have := hB1.size; omega, hB1.size, by omega⟩
  · have := heap_alloc_new (W1.alloc (.map #[] 0)) (.cells #[.int .i64 M, .map (some W1.heap.size), .pointer (some ⟨n0, 0, none⟩), .int .i64 0, .int .i64 0] 52)
    simpa using this
  · intro y hy
    rw [List.mem_singleton.1 hy]
    exact ((Below.heap_alloc _ _ _ (by simp; omega)).trans (Below.heap_alloc _ _ _ hz1)).trans H2.out
  · exact (MapAt.made _ _ W1).same (Below.heap_alloc _ _ _ (by simp))
end Go.Proofs.Ytdiiechkhlbkcab

namespace Go.Proofs.Ytdiiechkhlbkcab
open Go.RowKit

theorem zeroE (w : World) : (zeroValue 47).run Try.prog w = .ok (.pointer none) w := by kernel_rfl
theorem wrap_small (x : Int) (h0 : 0 ≤ x) (h1 : x ≤ 1000000000) : IntKind.i64.wrap x = x := by
  rw [IntKind.wrap_i64]; omega

set_option maxRecDepth 20000 in
set_option maxHeartbeats 1000000 in
theorem cget_miss (c b r : Nat) (M fd ak : Int) (bs : List Nat) (kf : Nat → List UInt8) (vf : Nat → Int) (nw od : Nat → Nat) (w : World) (h : CI w c b r M fd ak bs kf vf nw od) (k : List UInt8) (hk : k.length ≤ maxLen) (h0 : 0 ≤ ak) (h1 : ak ≤ 100000000)
    (hm : ∀ y ∈ bs, kf y ≠ k) :
    Calls Try.prog 11 #[.pointer (some ⟨c, 0, none⟩), .string ⟨k.toArray⟩] w fun e w' => e = .returned (.tuple #[.int .i64 0, .bool false]) ∧ CI w' c b r M fd (ak + 1) bs kf vf nw od ∧ Mod (fun i => i = c) w w' := by
  have hw := wrap_small (ak + 1) (by omega) (by omega)
  have c4 := h.cell.2.2.2.2
  have f4 := h.froz 4
  obtain ⟨W1, hW⟩ : ∃ W1, W1 = w.setCell ⟨c, 4, none⟩ (.int .i64 (ak + 1)) := ⟨_, rfl⟩
  have hC := h.setAk (ak + 1)
  rw [← hW] at hC
  have hM : Mod (fun i => i = c) w W1 := hW ▸ (Mod.refl (fun i => i = c) w).setCell (fun _ => rfl) _
  have hl := hC.map.look_ok Try.underlying9 Try.underlying50 (zeroE W1) k hk
  have hn : (bs.find? fun y => kf y == k) = none := List.find?_eq_none.2 (fun y hy => by simpa using hm y hy)
  have ha : (bs.any fun y => kf y == k) = false := List.any_eq_false.2 (fun y hy => by simpa using hm y hy)
  rw [getK_ring, hasK_ring, hn, ha] at hl
  simp only at hl
  have c1 := hC.cell.2.1
  have HE := Lib.hid (And.intro hC hM)
  have HW := Lib.hid hW
  clear hm hn ha hk h0 h1 h hC hM hW
  go_enter Try.func11, Try.ntmps11
  go_upto_region 2 with fail
  rw [← HW.out]
  clear c4 f4
  go_wp2_with fail
  go_ret2
  exact ⟨rfl, HE.out⟩

set_option maxRecDepth 20000 in
set_option maxHeartbeats 2000000 in
theorem cget_hit (c b r x : Nat) (M fd ak : Int) (A R : List Nat) (kf : Nat → List UInt8) (vf : Nat → Int) (nw od : Nat → Nat) (w : World) (h : CI w c b r M fd ak (A ++ x :: R) kf vf nw od) (h0 : 0 ≤ ak) (h1 : ak ≤ 100000000) (g0 : 0 ≤ fd) (g1 : fd ≤ 100000000) :
    Calls Try.prog 11 #[.pointer (some ⟨c, 0, none⟩), .string ⟨(kf x).toArray⟩] w fun e w' => e = .returned (.tuple #[.int .i64 (vf x), .bool true]) ∧ (∃ nw' od', CI w' c b r M (fd + 1) (ak + 1) (x :: (A ++ R)) kf vf nw' od') ∧ Mod (fun i => i = c ∨ i ∈ r :: (A ++ x :: R)) w w' := by
  have hk : (kf x).length ≤ maxLen := h.map.le (entN kf x) (List.mem_map_of_mem (List.mem_append_right _ (List.mem_cons_self ..)))
  have hw := wrap_small (ak + 1) (by omega) (by omega)
  have hv := wrap_small (fd + 1) (by omega) (by omega)
  have c4 := h.cell.2.2.2.2
  have f4 := h.froz 4
  obtain ⟨W1, hW⟩ : ∃ W1, W1 = w.setCell ⟨c, 4, none⟩ (.int .i64 (ak + 1)) := ⟨_, rfl⟩
  have hC := h.setAk (ak + 1)
  rw [← hW] at hC
  have hM : Mod (fun i => i = c) w W1 := hW ▸ (Mod.refl (fun i => i = c) w).setCell (fun _ => rfl) _
  have hl := hC.map.look_ok Try.underlying9 Try.underlying50 (zeroE W1) (kf x) hk
  have hxm : x ∈ A ++ x :: R := List.mem_append_right _ (List.mem_cons_self ..)
  have hn : ((A ++ x :: R).find? fun y => kf y == kf x) = some x := by
    rw [List.find?_append, List.find?_cons_of_pos (by simp), List.find?_eq_none.2, Option.none_or]
    intro y hy he
    have e := h.inj (List.mem_append_left _ hy) hxm (by simpa using he)
    have hd := (List.nodup_cons.1 h.nd).2
    exact (List.nodup_append.1 hd).2.2 y hy x (List.mem_cons_self ..) e
  have ha : ((A ++ x :: R).any fun y => kf y == kf x) = true := List.any_eq_true.2 ⟨x, hxm, by simp⟩
  rw [getK_ring, hasK_ring, hn, ha] at hl
  simp only at hl
  have c1 := hC.cell.2.1
  obtain ⟨W2, hW2⟩ : ∃ W2, W2 = W1.setCell ⟨c, 3, none⟩ (.int .i64 (fd + 1)) := ⟨_, rfl⟩
  have c3 := hC.cell.2.2.2.1
  have f3 := hC.froz 3
  have hC2 := hC.setFd (fd + 1)
  rw [← hW2] at hC2
  have hM2 : Mod (fun i => i = c) W1 W2 := hW2 ▸ (Mod.refl (fun i => i = c) W1).setCell (fun _ => rfl) _
  obtain ⟨p, n, e1, e2, hp, hn', hxp, hlk⟩ := ring_leave h.lk h.nd
  have hsub : ∀ y ∈ r :: (A ++ R), y ∈ r :: (A ++ x :: R) := by
    intro y hy
    rcases List.mem_cons.1 hy with h | hy
    · exact h ▸ List.mem_cons_self ..
    · refine List.mem_cons_of_mem _ ?_
      rcases List.mem_append.1 hy with h | h
      · exact List.mem_append_left _ h
      · exact List.mem_append_right _ (List.mem_cons_of_mem _ h)
  have hxr : x ∈ r :: (A ++ x :: R) := List.mem_cons_of_mem _ hxm
  have HLV := Lib.hid (leave_any x p n _ kf vf nw od W2 hC2.nodes hxr (hsub p hp) (hsub n hn') e1 e2 hxp)
  obtain ⟨nw1, hnw⟩ : ∃ f, f = upd nw n p := ⟨_, rfl⟩
  obtain ⟨od1, hod⟩ : ∃ f, f = upd od p n := ⟨_, rfl⟩
  rw [← hnw, ← hod] at hlk HLV
  obtain ⟨hd1, hx1⟩ := nodup_mid h.nd
  obtain ⟨g, eg, hg, hlk2⟩ := ring_enter hlk hd1 hx1
  have HEN : Hid (∀ W3 : World, Nodes W3 (r :: (A ++ x :: R)) kf vf nw1 od1 → Mod (fun i => i ∈ r :: (A ++ x :: R)) W2 W3 →
      Calls Try.prog 20 #[.pointer (some ⟨c, 0, none⟩), .pointer (some ⟨x, 0, none⟩)] W3 fun e w' => e = .returned (.tuple #[]) ∧ w'.cell? ⟨x, 1, none⟩ = some (.int .i64 (vf x)) ∧ (∃ nw' od', CI w' c b r M (fd + 1) (ak + 1) (x :: (A ++ R)) kf vf nw' od') ∧ Mod (fun i => i ∈ r :: (A ++ x :: R)) W2 w') := Lib.hid (by
    intro W3 hN hm
    have hcW : W3.heap[c]? = W2.heap[c]? := hm.block c hC2.clt (fun hi => hC2.nc hi rfl)
    have hbW : W3.heap[b]? = W2.heap[b]? := hm.block b hC2.map.lt (fun hi => hC2.yb hi rfl)
    have hcc : W3.cell? ⟨c, 2, none⟩ = some (.pointer (some ⟨r, 0, none⟩)) := (World.cell?_of_block hcW).trans hC2.cell.2.2.1
    refine (enter_any c x r g (r :: (A ++ R)) kf vf nw1 od1 _ _ W3 (hN.sub hsub) (List.mem_cons_self ..) hg hx1 eg hcc (hC2.nc hxr) (hN x hxr)).mono ?_
    rintro e w' ⟨rfl, hN', hm'⟩
    have hsx : ∀ y ∈ x :: r :: (A ++ R), y ∈ r :: (A ++ x :: R) := by
      intro y hy
      rcases List.mem_cons.1 hy with h | hy
      · exact h ▸ hxr
      · exact hsub y hy
    have hsy : ∀ y ∈ r :: (x :: (A ++ R)), y ∈ x :: r :: (A ++ R) := by
      intro y hy
      simp only [List.mem_cons] at hy ⊢
      rcases hy with h | h | h
      · exact Or.inr (Or.inl h)
      · exact Or.inl h
      · exact Or.inr (Or.inr h)
    have hcW' : w'.heap[c]? = W3.heap[c]? := hm'.block c (Nat.lt_of_lt_of_le hC2.clt hm.size) (fun hi => hC2.nc (hsx _ hi) rfl)
    have hbW' : w'.heap[b]? = W3.heap[b]? := hm'.block b (Nat.lt_of_lt_of_le hC2.map.lt hm.size) (fun hi => hC2.yb (hsx _ hi) rfl)
    refine ⟨rfl, (hN'.cell (List.mem_cons_self ..)).2.1, ⟨_, _, ⟨(hcW'.trans hcW).trans hC2.row, hN'.sub hsy, hlk2, ?_, ?_⟩⟩, hm.trans hm' (fun i _ hi => hsx i hi)⟩
    · have hp2 : (r :: (x :: (A ++ R))).Perm (x :: r :: (A ++ R)) := List.Perm.swap x r _
      exact (hp2.nodup_iff).2 (List.nodup_cons.2 ⟨hx1, hd1⟩)
    · exact (hC2.map.same (hbW'.trans hbW)).perm (List.perm_middle.map _))
  have HE := Lib.hid (And.intro hM hM2)
  have HW := Lib.hid hW
  have HW2 := Lib.hid hW2
  generalize kf x = kx at hl ⊢
  clear h h0 h1 g0 g1 hk hC hM hM2 hC2 hxm hn ha e1 e2 hp hn' hxp hlk hsub hxr hnw hod hd1 hx1 eg hg hlk2 hW hW2
  go_enter Try.func11, Try.ntmps11
  go_upto_region 2 with fail
  rw [← HW.out]
  clear c4 f4
  go_upto_region 7 with fail
  rw [← HW2.out]
  clear c1 c3 f3 hl
  go_wp2_with fail
  refine HLV.out.mono ?_
  rintro e W3 ⟨rfl, hN3, hm3⟩
  have HX := Lib.hid (HEN.out W3 hN3 hm3)
  clear hN3 hm3 HLV HEN
  go_wp2_with fail
  refine HX.out.mono ?_
  rintro e W4 ⟨rfl, cx, hC4, hm4⟩
  have HC := Lib.hid hC4
  have HM4 := Lib.hid hm4
  clear hC4 hm4 HX
  go_wp2_with fail
  go_ret2
  obtain ⟨m1, m2⟩ := HE.out
  exact ⟨rfl, HC.out, ((m1.trans m2 (fun _ _ h => h)).mono (fun _ _ h => Or.inl h)).trans HM4.out (fun _ _ h => Or.inr h)⟩
end Go.Proofs.Ytdiiechkhlbkcab

namespace Go.Proofs.Ytdiiechkhlbkcab
open Go.RowKit

theorem sclone_any (k : List UInt8) (w : World) (hk : k.length ≤ 1000000) :
    Calls Try.prog 23 #[.string ⟨k.toArray⟩] w fun r w' => r = .returned (.string ⟨k.toArray⟩) ∧ Below w.heap.size w w' := by
  have h := fun w => Try.stringslite_Clone ⟨k.toArray⟩ w (by simp [ByteArray.size]; omega)
  have H := Lib.hid h
  clear h
  go_enter Try.func23, Try.ntmps23
  go_wp2_with fail
  refine (H.out _).mono ?_
  rintro r w1 ⟨rfl, hb⟩
  have HB := Lib.hid hb
  clear hb
  go_wp2_with fail
  go_ret
  exact ⟨rfl, HB.out⟩
def updK (f : Nat → List UInt8) (a : Nat) (b : List UInt8) : Nat → List UInt8 := fun x => if x = a then b else f x
def updV (f : Nat → Int) (a : Nat) (b : Int) : Nat → Int := fun x => if x = a then b else f x
/-- An entry that is about to come into the ring. -/
structure PI (w : World) (c b r x : Nat) (M fd ak : Int) (bs : List Nat) (kf : Nat → List UInt8) (vf : Nat → Int) (nw od : Nat → Nat) : Prop where
  row : w.heap[c]? = some (.cells #[.int .i64 M, .map (some b), .pointer (some ⟨r, 0, none⟩), .int .i64 fd, .int .i64 ak] 52 (0, 0))
  nodes : Nodes w (r :: bs) kf vf nw od
  xrow : w.heap[x]? = some (.cells #[.string ⟨(kf x).toArray⟩, .int .i64 (vf x), .pointer none, .pointer none] 49 (0, 0))
  nx : x ∉ r :: bs
  lk : Lk nw od (r :: bs ++ [r])
  nd : (r :: bs).Nodup
  map : MapAt Try.prog 9 w b ((x :: bs).map (entN kf))
theorem PI.enter {w : World} {c b r x : Nat} {M fd ak : Int} {bs : List Nat} {kf : Nat → List UInt8} {vf : Nat → Int} {nw od : Nat → Nat} (h : PI w c b r x M fd ak bs kf vf nw od) :
    Calls Try.prog 20 #[.pointer (some ⟨c, 0, none⟩), .pointer (some ⟨x, 0, none⟩)] w fun e w' => e = .returned (.tuple #[]) ∧ (∃ nw' od', CI w' c b r M fd ak (x :: bs) kf vf nw' od') ∧ Mod (fun i => i ∈ x :: r :: bs) w w' := by
  obtain ⟨g, eg, hg, hl⟩ := ring_enter h.lk h.nd h.nx
  have hcx : c ≠ x := by
    rintro rfl
    have h1 := h.row
    rw [h.xrow] at h1
    simp at h1
  have hcn : ∀ y ∈ r :: bs, c ≠ y := by
    rintro y hy rfl
    have h1 := h.row
    rw [h.nodes c hy] at h1
    simp [entR] at h1
  have hcc : w.cell? ⟨c, 2, none⟩ = some (.pointer (some ⟨r, 0, none⟩)) := by unfold World.cell?; rw [h.row]; rfl
  refine (enter_any c x r g (r :: bs) kf vf nw od _ _ w h.nodes (List.mem_cons_self ..) hg h.nx eg hcc hcx h.xrow).mono ?_
  rintro e w' ⟨rfl, hN, hm⟩
  have hcm : c ∉ x :: r :: bs := by
    intro hi
    rcases List.mem_cons.1 hi with h1 | h1
    · exact hcx h1
    · exact hcn c h1 rfl
  have hbm : b ∉ x :: r :: bs := by
    intro hi
    rcases List.mem_cons.1 hi with h1 | h1
    · exact h.map.notCells h.xrow h1.symm
    · exact h.map.notCells (h.nodes b h1) rfl
  refine ⟨rfl, ⟨_, _, ⟨(hm.block c (Array.getElem?_eq_some_iff.1 h.row).1 hcm).trans h.row, hN.sub ?_, hl, ?_, h.map.kept hm hbm⟩⟩, hm⟩
  · intro y hy
    simp only [List.mem_cons] at hy ⊢
    rcases hy with h | h | h
    · exact Or.inr (Or.inl h)
    · exact Or.inl h
    · exact Or.inr (Or.inr h)
  · have hp2 : (r :: (x :: bs)).Perm (x :: r :: bs) := List.Perm.swap x r _
    exact (hp2.nodup_iff).2 (List.nodup_cons.2 ⟨h.nx, h.nd⟩)
/-- A new entry's box, and its place in the map. -/
theorem CI.grow {w w2 : World} {c b r : Nat} {M fd ak : Int} {bs : List Nat} {kf : Nat → List UInt8} {vf : Nat → Int} {nw od : Nat → Nat} (h : CI w c b r M fd ak bs kf vf nw od) (k : List UInt8) (v : Int) (hk : k.length ≤ maxLen) (hn : bs.length ≤ 100000) (hm : ∀ y ∈ bs, kf y ≠ k)
    (hw : w2 = w.alloc (.cells #[.string ⟨k.toArray⟩, .int .i64 v, .pointer none, .pointer none] 49)) (w' : World) (hb : Below w2.heap.size w2 w') :
    (w'.cell? ⟨c, 1, none⟩ = some (.map (some b)) ∧ w'.cell? ⟨w.heap.size, 0, none⟩ = some (.string ⟨k.toArray⟩)) ∧
    ∃ w3, (Instr.mapUpdate 50 (.map (some b)) (.string ⟨k.toArray⟩) (.pointer (some ⟨w.heap.size, 0, none⟩))).run Try.prog w' = .ok () w3 ∧ PI w3 c b r w.heap.size M fd ak bs (updK kf w.heap.size k) (updV vf w.heap.size v) nw od ∧ Mod (fun i => i = b) w' w3 := by
  have hC2 : CI w2 c b r M fd ak bs kf vf nw od := h.old (hw ▸ (Below.refl _ w).alloc (Nat.le_refl _) _)
  have hC := hC2.old hb
  have hx2 : w2.heap[w.heap.size]? = some (.cells #[.string ⟨k.toArray⟩, .int .i64 v, .pointer none, .pointer none] 49 (0, 0)) := by rw [hw]; exact heap_alloc_new _ _
  have hx : w'.heap[w.heap.size]? = _ := (hb.block _ (Array.getElem?_eq_some_iff.1 hx2).1).trans hx2
  refine ⟨⟨hC.cell.2.1, by unfold World.cell?; rw [hx]; rfl⟩, ?_⟩
  obtain ⟨w3, hr, hM, hmd⟩ := hC.map.store Try.underlying9 Try.underlying50 (by rw [List.length_map]; exact Nat.lt_of_le_of_lt hn (by simp [maxLen])) k hk (.pointer (some ⟨w.heap.size, 0, none⟩))
  have hne : ∀ y ∈ r :: bs, y ≠ w.heap.size := fun y hy e => Nat.lt_irrefl _ (e ▸ h.ylt hy)
  have hwo : without k (bs.map (entN kf)) = bs.map (entN kf) := List.filter_eq_self.2 fun y hy => by
    obtain ⟨z, hz, rfl⟩ := List.mem_map.1 hy
    simpa [entN] using hm z hz
  have hmp : bs.map (entN (updK kf w.heap.size k)) = bs.map (entN kf) := List.map_congr_left fun y hy => by
    unfold entN updK
    rw [if_neg (hne y (List.mem_cons_of_mem _ hy))]
  have hxb : w.heap.size ≠ b := fun e => Nat.lt_irrefl _ (e ▸ h.map.lt)
  refine ⟨w3, hr, ⟨(hmd.block c hC.clt hC.cb).trans hC.row, ?_, ?_, fun hi => hne _ hi rfl, h.lk, h.nd, ?_⟩, hmd⟩
  · intro y hy
    unfold updK updV
    rw [if_neg (hne y hy), if_neg (hne y hy)]
    exact (hmd.block y (hC.ylt hy) (hC.yb hy)).trans (hC.nodes y hy)
  · unfold updK updV
    rw [if_pos rfl, if_pos rfl]
    exact (hmd.block _ (Array.getElem?_eq_some_iff.1 hx).1 hxb).trans hx
  · rw [List.map_cons, hmp]
    rw [hwo] at hM
    have e : entN (updK kf w.heap.size k) w.heap.size = (k, .pointer (some ⟨w.heap.size, 0, none⟩)) := by unfold entN updK; rw [if_pos rfl]
    rw [e]; exact hM

set_option maxRecDepth 20000 in
set_option maxHeartbeats 2000000 in
theorem cput_fits (c b r : Nat) (M fd ak : Int) (bs : List Nat) (kf : Nat → List UInt8) (vf : Nat → Int) (nw1 od1 : Nat → Nat) (W1 : World) (h : CI W1 c b r M fd ak bs kf vf nw1 od1) (k : List UInt8) (hk : k.length ≤ 1000000) (v : Int) (hn : bs.length ≤ 100000) (hm : ∀ y ∈ bs, kf y ≠ k)
    (hf : ((bs.length + 1 : Nat) : Int) ≤ M) :
    Calls Try.prog 14 #[.pointer (some ⟨c, 0, none⟩), .string ⟨k.toArray⟩, .int .i64 v] W1 fun e w' => e = .returned (.tuple #[]) ∧ (∃ nd nw' od', W1.heap.size ≤ nd ∧ CI w' c b r M fd ak (nd :: bs) (updK kf nd k) (updV vf nd v) nw' od') ∧ Mod (fun i => i = b ∨ i ∈ r :: bs) W1 w' := by
  have hkm : k.length ≤ maxLen := by simp [maxLen]; omega
  have hl := h.map.look_ok Try.underlying9 Try.underlying50 (zeroE W1) k hkm
  have hq : (bs.find? fun y => kf y == k) = none := List.find?_eq_none.2 (fun y hy => by simpa using hm y hy)
  have ha : (bs.any fun y => kf y == k) = false := List.any_eq_false.2 (fun y hy => by simpa using hm y hy)
  rw [getK_ring, hasK_ring, hq, ha] at hl
  simp only at hl
  have c1 := h.cell.2.1
  have HC1 := Lib.hid h
  have HK := Lib.hid hkm
  have HK1 := Lib.hid hk
  have HN := Lib.hid hn
  have HNE := Lib.hid hm
  have HF := Lib.hid hf
  clear h hk hkm hq ha hn hm hf
  go_enter Try.func14, Try.ntmps14
  go_upto_region 1 with fail
  clear hl c1
  go_wp2_with fail
  refine (sclone_any k W1 HK1.out).mono ?_
  rintro e W1b ⟨rfl, hb1⟩
  have hC1b := HC1.out.old hb1
  have HB1 := Lib.hid hb1
  obtain ⟨nd, hnd⟩ : ∃ nd, nd = W1b.heap.size := ⟨_, rfl⟩
  obtain ⟨W2, hW2⟩ : ∃ W2, W2 = W1b.alloc (.cells #[.string ⟨k.toArray⟩, .int .i64 v, .pointer none, .pointer none] 49) := ⟨_, rfl⟩
  have HGR := Lib.hid (hC1b.grow k v HK.out HN.out HNE.out hW2)
  obtain ⟨kf2, hkf⟩ : ∃ kf2, kf2 = updK kf W1b.heap.size k := ⟨_, rfl⟩
  obtain ⟨vf2, hvf⟩ : ∃ vf2, vf2 = updV vf W1b.heap.size v := ⟨_, rfl⟩
  have HKF := Lib.hid (And.intro hkf hvf)
  rw [← hkf, ← hvf, ← hnd] at HGR
  have HS : Hid (∀ w' : World, Below W2.heap.size W2 w' → ∃ w3, (Instr.mapUpdate 50 (.map (some b)) (.string ⟨k.toArray⟩) (.pointer (some ⟨nd, 0, none⟩))).run Try.prog w' = .ok () w3 ∧ PI w3 c b r nd M fd ak bs kf2 vf2 nw1 od1 ∧ Mod (fun i => i = b) w' w3) := Lib.hid (fun w' hb => (HGR.out w' hb).2)
  have HP : Hid (∀ w' : World, Below W2.heap.size W2 w' → w'.cell? ⟨c, 1, none⟩ = some (.map (some b)) ∧ w'.cell? ⟨nd, 0, none⟩ = some (.string ⟨k.toArray⟩)) := Lib.hid (fun w' hb => (HGR.out w' hb).1)
  have HB2 : Hid (Below W1b.heap.size W1b W2) := Lib.hid (hW2 ▸ (Below.refl _ W1b).alloc (Nat.le_refl _) _)
  have HW2 := Lib.hid hW2
  have HND := Lib.hid hnd
  clear hb1 hC1b HGR hkf hvf hW2 hnd
  go_upto_region 4 with fail
  rw [← HW2.out, ← HND.out]
  have HG0 : Hid ((fun (j : Nat) (_ : Value) (w' : World) => (j = 0 → Below W2.heap.size W2 w') ∧ (j = 1 → ∃ w1, Below W2.heap.size W2 w1 ∧ PI w' c b r nd M fd ak bs kf2 vf2 nw1 od1 ∧ Mod (fun i => i = b) w1 w')) 0 undef W2.drew) := Lib.hid ⟨(fun _ => (Below.refl _ W2).drew), (fun h => absurd h (by omega))⟩
  refine CV.wp_region_chain (fun t v => match t with
    | 27 => v = .pointer (some ⟨c, 0, none⟩)
    | 28 => v = .pointer (some ⟨c, 0, none⟩)
    | 29 => v = .pointer (some ⟨c, 1, none⟩)
    | 30 => v = .map (some b)
    | 31 => v = .pointer (some ⟨nd, 0, none⟩)
    | 32 => v = .pointer (some ⟨nd, 0, none⟩)
    | 33 => v = .pointer (some ⟨nd, 0, none⟩)
    | 34 => v = .string ⟨k.toArray⟩
    | 35 => v = .pointer (some ⟨nd, 0, none⟩)
    | _ => True) (fun (j : Nat) (_ : Value) (w' : World) => (j = 0 → Below W2.heap.size W2 w') ∧ (j = 1 → ∃ w1, Below W2.heap.size W2 w1 ∧ PI w' c b r nd M fd ak bs kf2 vf2 nw1 od1 ∧ Mod (fun i => i = b) w1 w')) [9] 55 (by kernel_rfl) (by decide +kernel) rfl (by decide +kernel) (by decide) (by decide) HG0.out (by
    refine OweAllC.cons (owesC_val 0 (by decide +kernel) (by decide) rfl rfl fun k' a w1 x hk ha hG hV => ?_) ?_
    · skip
      have h0 := ha.outer 0 (by decide +kernel)
      simp only [Act.eval] at h0
      exact ⟨.pointer (some ⟨c, 0, none⟩), wanted_free rfl, by simp [execOp, go_sem, h0], rfl⟩
    refine OweAllC.cons (owesC_val 0 (by decide +kernel) (by decide) rfl rfl fun k' a w1 x hk ha hG hV => ?_) ?_
    · skip
      have h27 : a.tmps.getD 27 undef = .pointer (some ⟨c, 0, none⟩) := hV.get 27 (by decide +kernel)
      exact ⟨.pointer (some ⟨c, 0, none⟩), wanted_free rfl, by simp [execOp, go_sem, h27], rfl⟩
    refine OweAllC.cons (owesC_val 0 (by decide +kernel) (by decide) rfl rfl fun k' a w1 x hk ha hG hV => ?_) ?_
    · skip
      have h28 : a.tmps.getD 28 undef = .pointer (some ⟨c, 0, none⟩) := hV.get 28 (by decide +kernel)
      exact ⟨.pointer (some ⟨c, 1, none⟩), wanted_free rfl, by simp [execOp, go_sem, h28], rfl⟩
    refine OweAllC.cons (owesC_val 0 (by decide +kernel) (by decide) rfl rfl fun k' a w1 x hk ha hG hV => ?_) ?_
    · skip
      have h29 : a.tmps.getD 29 undef = .pointer (some ⟨c, 1, none⟩) := hV.get 29 (by decide +kernel)
      have cc := HP.out w1 (hG.1 (by omega))
      exact ⟨.map (some b), wanted_free rfl, by simp [execOp, go_sem, h29, cc.1], rfl⟩
    refine OweAllC.cons (owesC_val 0 (by decide +kernel) (by decide) rfl rfl fun k' a w1 x hk ha hG hV => ?_) ?_
    · skip
      have h8 := ha.outer 8 (by decide +kernel)
      simp only [Act.eval] at h8
      exact ⟨.pointer (some ⟨nd, 0, none⟩), wanted_free rfl, by simp [execOp, go_sem, h8], rfl⟩
    refine OweAllC.cons (owesC_val 0 (by decide +kernel) (by decide) rfl rfl fun k' a w1 x hk ha hG hV => ?_) ?_
    · skip
      have h31 : a.tmps.getD 31 undef = .pointer (some ⟨nd, 0, none⟩) := hV.get 31 (by decide +kernel)
      exact ⟨.pointer (some ⟨nd, 0, none⟩), wanted_free rfl, by simp [execOp, go_sem, h31], rfl⟩
    refine OweAllC.cons (owesC_val 0 (by decide +kernel) (by decide) rfl rfl fun k' a w1 x hk ha hG hV => ?_) ?_
    · skip
      have h32 : a.tmps.getD 32 undef = .pointer (some ⟨nd, 0, none⟩) := hV.get 32 (by decide +kernel)
      exact ⟨.pointer (some ⟨nd, 0, none⟩), wanted_free rfl, by simp [execOp, go_sem, h32], rfl⟩
    refine OweAllC.cons (owesC_val 0 (by decide +kernel) (by decide) rfl rfl fun k' a w1 x hk ha hG hV => ?_) ?_
    · skip
      have h33 : a.tmps.getD 33 undef = .pointer (some ⟨nd, 0, none⟩) := hV.get 33 (by decide +kernel)
      have cc := HP.out w1 (hG.1 (by omega))
      exact ⟨.string ⟨k.toArray⟩, wanted_free rfl, by simp [execOp, go_sem, h33, cc.2], rfl⟩
    refine OweAllC.cons (owesC_val 0 (by decide +kernel) (by decide) rfl rfl fun k' a w1 x hk ha hG hV => ?_) ?_
    · skip
      have h8 := ha.outer 8 (by decide +kernel)
      simp only [Act.eval] at h8
      exact ⟨.pointer (some ⟨nd, 0, none⟩), wanted_free rfl, by simp [execOp, go_sem, h8], rfl⟩
    refine OweAllC.cons (owesC_store 0 rfl rfl rfl fun a w1 x ha hG hx hV => ?_) ?_
    · skip
      have h30 : a.tmps.getD 30 undef = .map (some b) := hV.get 30 (by decide +kernel)
      have h34 : a.tmps.getD 34 undef = .string ⟨k.toArray⟩ := hV.get 34 (by decide +kernel)
      have h35 : a.tmps.getD 35 undef = .pointer (some ⟨nd, 0, none⟩) := hV.get 35 (by decide +kernel)
      have hb := hG.1 (by omega)
      obtain ⟨w2, hr, hm, hmd⟩ := HS.out w1 hb
      exact ⟨w2, wanted_free rfl, by simp [execOp, go_sem, h30, h34, h35, hr], (fun h => absurd h (by omega)), fun _ => ⟨w1, hb, hm, hmd⟩⟩
    exact OweAllC.nil
    ) ?_
  intro f wz xz hG hx hv
  first | (rename_i hK; refine hK _ _ ?_; clear hK) | (rename_i hK _; refine hK _ _ ?_; clear hK) | (rename_i hK _ _; refine hK _ _ ?_; clear hK) | (rename_i hK _ _ _; refine hK _ _ ?_; clear hK)
  clear hv hx
  simp only [dsts, puts, List.filterMap_cons, List.filterMap_nil, List.foldl_cons, List.foldl_nil, Act.put, List.setIfInBounds_toArray, List.set_cons_succ, List.set_cons_zero]
  obtain ⟨w1', hb3, hP3, hm3⟩ := hG.2 rfl
  have HEN := Lib.hid hP3.enter
  have HB3 := Lib.hid hb3
  have HMD3 := Lib.hid hm3
  have HPI := Lib.hid hP3
  clear hG hb3 hP3 hm3
  go_wp2_with fail
  refine HEN.out.mono ?_
  rintro e W4 ⟨rfl, ⟨nw4, od4, hC4⟩, hm4⟩
  have HC4 := Lib.hid hC4
  have HM4 := Lib.hid hm4
  obtain ⟨n, hnn⟩ : ∃ n, n = (nd :: bs).length := ⟨_, rfl⟩
  have HNN := Lib.hid hnn
  have HL : Hid (∀ w', Below W4.heap.size W4 w' → Calls Try.prog 17 #[.pointer (some ⟨c, 0, none⟩)] w' fun r w'' => r = .returned (.int .i64 (n : Int)) ∧ w'' = w') := Lib.hid (by
    intro w' hb
    have := clen_any c b r M fd ak _ kf2 vf2 nw4 od4 w' (HC4.out.old hb)
    rw [← HNN.out] at this; exact this)
  have hf2 : (n : Int) ≤ M := by have := HF.out; have := HNN.out; simp only [List.length_cons] at this; omega
  have HMA : Hid (Mod (fun i => i = b ∨ i ∈ r :: bs) W1 W4) := Lib.hid (by
    have m1 := (Mod.of_below HB1.out).trans (Mod.of_below HB2.out) (fun i hi h => Nat.le_trans HB1.out.size h)
    have m2 := m1.trans (Mod.of_below HB3.out) (fun i hi h => Nat.le_trans (Nat.le_trans HB1.out.size HB2.out.size) h)
    have m3 := (m2.mono (T := fun i => i = b ∨ i ∈ r :: bs) (fun i hi h => absurd hi (by omega))).trans HMD3.out (fun _ _ h => Or.inl h)
    refine m3.trans HM4.out (fun i hi h => ?_)
    rcases List.mem_cons.1 h with h1 | h1
    · have := HND.out; have := HB1.out.size; omega
    · exact Or.inr h1)
  clear hC4 hm4 hnn HEN HS HP
  go_wp2_with fail
  refine wp_region_puts (fun t v w => VK (match t with
    | 39 => .eq (.pointer (some ⟨c, 0, none⟩))
    | 40 => .eq (.int .i64 (n : Int))
    | 41 => .eq (.pointer (some ⟨c, 0, none⟩))
    | 42 => .eq (.pointer (some ⟨c, 0, none⟩))
    | 43 => .eq (.pointer (some ⟨c, 0, none⟩))
    | 44 => .eq (.int .i64 M)
    | 45 => .eq (Value.bool false)
    | _ => .any) v w) (fun w' => Below W4.heap.size W4 w') 55 (by kernel_rfl) (by decide +kernel) rfl (Below.refl _ _).drew (by
    refine OweAll.cons (owesK rfl rfl fun a w1 ha hG hV => ?_) ?_
    · skip
      have h0 := ha.outer 0 (by decide +kernel)
      simp only [Act.eval] at h0
      exact ⟨.pointer (some ⟨c, 0, none⟩), w1, wanted_free rfl, by simp [execOp, go_sem, h0], Below.refl _ _, rfl⟩
    refine OweAll.cons (owesK_call rfl rfl 17 fun a w1 ha hG hV => ?_) ?_
    · skip
      have h39 : a.tmps.getD 39 undef = .pointer (some ⟨c, 0, none⟩) := hV.get 39 (by decide +kernel)
      refine ⟨#[.pointer (some ⟨c, 0, none⟩)], wanted_free rfl, by simp [go_sem, h39], ?_⟩
      refine (HL.out w1 hG).mono ?_
      rintro e u2 ⟨rfl, rfl⟩; exact ⟨_, rfl, rfl, Below.refl _ _⟩
    refine OweAll.cons (owesK rfl rfl fun a w1 ha hG hV => ?_) ?_
    · skip
      have h0 := ha.outer 0 (by decide +kernel)
      simp only [Act.eval] at h0
      exact ⟨.pointer (some ⟨c, 0, none⟩), w1, wanted_free rfl, by simp [execOp, go_sem, h0], Below.refl _ _, rfl⟩
    refine OweAll.cons (owesK rfl rfl fun a w1 ha hG hV => ?_) ?_
    · skip
      have h41 : a.tmps.getD 41 undef = .pointer (some ⟨c, 0, none⟩) := hV.get 41 (by decide +kernel)
      exact ⟨.pointer (some ⟨c, 0, none⟩), w1, wanted_free rfl, by simp [execOp, go_sem, h41], Below.refl _ _, rfl⟩
    refine OweAll.cons (owesK rfl rfl fun a w1 ha hG hV => ?_) ?_
    · skip
      have h42 : a.tmps.getD 42 undef = .pointer (some ⟨c, 0, none⟩) := hV.get 42 (by decide +kernel)
      exact ⟨.pointer (some ⟨c, 0, none⟩), w1, wanted_free rfl, by simp [execOp, go_sem, h42], Below.refl _ _, rfl⟩
    refine OweAll.cons (owesK rfl rfl fun a w1 ha hG hV => ?_) ?_
    · skip
      have h43 : a.tmps.getD 43 undef = .pointer (some ⟨c, 0, none⟩) := hV.get 43 (by decide +kernel)
      have cc : w1.cell? ⟨c, 0, none⟩ = some (.int .i64 M) := (HC4.out.old hG).cell.1
      exact ⟨.int .i64 M, w1, wanted_free rfl, by simp [execOp, go_sem, h43, cc], Below.refl _ _, rfl⟩
    refine OweAll.cons (owesK rfl rfl fun a w1 ha hG hV => ?_) ?_
    · skip
      have h40 : a.tmps.getD 40 undef = .int .i64 (n : Int) := hV.get 40 (by decide +kernel)
      have h44 : a.tmps.getD 44 undef = .int .i64 M := hV.get 44 (by decide +kernel)
      exact ⟨Value.bool false, w1, wanted_free rfl, by simp [execOp, go_sem, h40, h44, hf2], Below.refl _ _, rfl⟩
    exact OweAll.nil
    ) ?_
  intro f wz hG hv
  have e45 : f 45 = Value.bool false := hv 6 _ 45 rfl rfl
  rename_i hK
  refine hK _ _ ?_
  clear hK hv
  simp only [dsts, puts, List.filterMap_cons, List.filterMap_nil, List.foldl_cons, List.foldl_nil, Act.put, List.setIfInBounds_toArray, List.set_cons_succ, List.set_cons_zero, e45]
  clear e45
  have HE : Hid (Below W4.heap.size W4 wz) := Lib.hid hG
  clear hG
  go_wp2_with fail
  go_end0
  obtain ⟨ek, ev⟩ := HKF.out
  rw [← HND.out] at ek ev
  have hC5 := HC4.out.old HE.out
  rw [ek, ev] at hC5
  have hnd1 := HND.out
  have hs1 := HB1.out.size
  exact ⟨rfl, ⟨nd, nw4, od4, by omega, hC5⟩, HMA.out.trans (Mod.of_below HE.out |>.mono (T := fun i => W4.heap.size ≤ i) (fun _ _ h => h)) (fun i hi h => absurd (Nat.lt_of_lt_of_le hi HMA.out.size) (by omega))⟩

set_option maxRecDepth 20000 in
set_option maxHeartbeats 2000000 in
theorem cput_goes (c b r z : Nat) (M fd ak : Int) (A : List Nat) (kf : Nat → List UInt8) (vf : Nat → Int) (nw1 od1 : Nat → Nat) (W1 : World) (h : CI W1 c b r M fd ak (A ++ [z]) kf vf nw1 od1) (k : List UInt8) (hk : k.length ≤ 1000000) (v : Int) (hn : (A ++ [z]).length ≤ 100000) (hm : ∀ y ∈ A ++ [z], kf y ≠ k)
    (hf : M < (((A ++ [z]).length + 1 : Nat) : Int)) :
    Calls Try.prog 14 #[.pointer (some ⟨c, 0, none⟩), .string ⟨k.toArray⟩, .int .i64 v] W1 fun e w' => e = .returned (.tuple #[]) ∧ (∃ nd nw' od', W1.heap.size ≤ nd ∧ CI w' c b r M fd ak (nd :: A) (updK kf nd k) (updV vf nd v) nw' od') ∧ Mod (fun i => i = b ∨ i ∈ r :: (A ++ [z])) W1 w' := by
  obtain ⟨bs, hbs⟩ : ∃ bs, bs = A ++ [z] := ⟨_, rfl⟩
  rw [← hbs] at h hn hm hf ⊢
  have hkm : k.length ≤ maxLen := by simp [maxLen]; omega
  have hl := h.map.look_ok Try.underlying9 Try.underlying50 (zeroE W1) k hkm
  have hq : (bs.find? fun y => kf y == k) = none := List.find?_eq_none.2 (fun y hy => by simpa using hm y hy)
  have ha : (bs.any fun y => kf y == k) = false := List.any_eq_false.2 (fun y hy => by simpa using hm y hy)
  rw [getK_ring, hasK_ring, hq, ha] at hl
  simp only at hl
  have c1 := h.cell.2.1
  have HC1 := Lib.hid h
  have HK := Lib.hid hkm
  have HK1 := Lib.hid hk
  have HN := Lib.hid hn
  have HNE := Lib.hid hm
  have HF := Lib.hid hf
  have HBS := Lib.hid hbs
  clear h hk hkm hq ha hn hm hf hbs
  go_enter Try.func14, Try.ntmps14
  go_upto_region 1 with fail
  clear hl c1
  go_wp2_with fail
  refine (sclone_any k W1 HK1.out).mono ?_
  rintro e W1b ⟨rfl, hb1⟩
  have hC1b := HC1.out.old hb1
  have HB1 := Lib.hid hb1
  obtain ⟨nd, hnd⟩ : ∃ nd, nd = W1b.heap.size := ⟨_, rfl⟩
  obtain ⟨W2, hW2⟩ : ∃ W2, W2 = W1b.alloc (.cells #[.string ⟨k.toArray⟩, .int .i64 v, .pointer none, .pointer none] 49) := ⟨_, rfl⟩
  have HGR := Lib.hid (hC1b.grow k v HK.out HN.out HNE.out hW2)
  obtain ⟨kf2, hkf⟩ : ∃ kf2, kf2 = updK kf W1b.heap.size k := ⟨_, rfl⟩
  obtain ⟨vf2, hvf⟩ : ∃ vf2, vf2 = updV vf W1b.heap.size v := ⟨_, rfl⟩
  have HKF := Lib.hid (And.intro hkf hvf)
  rw [← hkf, ← hvf, ← hnd] at HGR
  have HS : Hid (∀ w' : World, Below W2.heap.size W2 w' → ∃ w3, (Instr.mapUpdate 50 (.map (some b)) (.string ⟨k.toArray⟩) (.pointer (some ⟨nd, 0, none⟩))).run Try.prog w' = .ok () w3 ∧ PI w3 c b r nd M fd ak bs kf2 vf2 nw1 od1 ∧ Mod (fun i => i = b) w' w3) := Lib.hid (fun w' hb => (HGR.out w' hb).2)
  have HP : Hid (∀ w' : World, Below W2.heap.size W2 w' → w'.cell? ⟨c, 1, none⟩ = some (.map (some b)) ∧ w'.cell? ⟨nd, 0, none⟩ = some (.string ⟨k.toArray⟩)) := Lib.hid (fun w' hb => (HGR.out w' hb).1)
  have HB2 : Hid (Below W1b.heap.size W1b W2) := Lib.hid (hW2 ▸ (Below.refl _ W1b).alloc (Nat.le_refl _) _)
  have HW2 := Lib.hid hW2
  have HND := Lib.hid hnd
  clear hb1 hC1b HGR hkf hvf hW2 hnd
  go_upto_region 4 with fail
  rw [← HW2.out, ← HND.out]
  have HG0 : Hid ((fun (j : Nat) (_ : Value) (w' : World) => (j = 0 → Below W2.heap.size W2 w') ∧ (j = 1 → ∃ w1, Below W2.heap.size W2 w1 ∧ PI w' c b r nd M fd ak bs kf2 vf2 nw1 od1 ∧ Mod (fun i => i = b) w1 w')) 0 undef W2.drew) := Lib.hid ⟨(fun _ => (Below.refl _ W2).drew), (fun h => absurd h (by omega))⟩
  refine CV.wp_region_chain (fun t v => match t with
    | 27 => v = .pointer (some ⟨c, 0, none⟩)
    | 28 => v = .pointer (some ⟨c, 0, none⟩)
    | 29 => v = .pointer (some ⟨c, 1, none⟩)
    | 30 => v = .map (some b)
    | 31 => v = .pointer (some ⟨nd, 0, none⟩)
    | 32 => v = .pointer (some ⟨nd, 0, none⟩)
    | 33 => v = .pointer (some ⟨nd, 0, none⟩)
    | 34 => v = .string ⟨k.toArray⟩
    | 35 => v = .pointer (some ⟨nd, 0, none⟩)
    | _ => True) (fun (j : Nat) (_ : Value) (w' : World) => (j = 0 → Below W2.heap.size W2 w') ∧ (j = 1 → ∃ w1, Below W2.heap.size W2 w1 ∧ PI w' c b r nd M fd ak bs kf2 vf2 nw1 od1 ∧ Mod (fun i => i = b) w1 w')) [9] 55 (by kernel_rfl) (by decide +kernel) rfl (by decide +kernel) (by decide) (by decide) HG0.out (by
    refine OweAllC.cons (owesC_val 0 (by decide +kernel) (by decide) rfl rfl fun k' a w1 x hk ha hG hV => ?_) ?_
    · skip
      have h0 := ha.outer 0 (by decide +kernel)
      simp only [Act.eval] at h0
      exact ⟨.pointer (some ⟨c, 0, none⟩), wanted_free rfl, by simp [execOp, go_sem, h0], rfl⟩
    refine OweAllC.cons (owesC_val 0 (by decide +kernel) (by decide) rfl rfl fun k' a w1 x hk ha hG hV => ?_) ?_
    · skip
      have h27 : a.tmps.getD 27 undef = .pointer (some ⟨c, 0, none⟩) := hV.get 27 (by decide +kernel)
      exact ⟨.pointer (some ⟨c, 0, none⟩), wanted_free rfl, by simp [execOp, go_sem, h27], rfl⟩
    refine OweAllC.cons (owesC_val 0 (by decide +kernel) (by decide) rfl rfl fun k' a w1 x hk ha hG hV => ?_) ?_
    · skip
      have h28 : a.tmps.getD 28 undef = .pointer (some ⟨c, 0, none⟩) := hV.get 28 (by decide +kernel)
      exact ⟨.pointer (some ⟨c, 1, none⟩), wanted_free rfl, by simp [execOp, go_sem, h28], rfl⟩
    refine OweAllC.cons (owesC_val 0 (by decide +kernel) (by decide) rfl rfl fun k' a w1 x hk ha hG hV => ?_) ?_
    · skip
      have h29 : a.tmps.getD 29 undef = .pointer (some ⟨c, 1, none⟩) := hV.get 29 (by decide +kernel)
      have cc := HP.out w1 (hG.1 (by omega))
      exact ⟨.map (some b), wanted_free rfl, by simp [execOp, go_sem, h29, cc.1], rfl⟩
    refine OweAllC.cons (owesC_val 0 (by decide +kernel) (by decide) rfl rfl fun k' a w1 x hk ha hG hV => ?_) ?_
    · skip
      have h8 := ha.outer 8 (by decide +kernel)
      simp only [Act.eval] at h8
      exact ⟨.pointer (some ⟨nd, 0, none⟩), wanted_free rfl, by simp [execOp, go_sem, h8], rfl⟩
    refine OweAllC.cons (owesC_val 0 (by decide +kernel) (by decide) rfl rfl fun k' a w1 x hk ha hG hV => ?_) ?_
    · skip
      have h31 : a.tmps.getD 31 undef = .pointer (some ⟨nd, 0, none⟩) := hV.get 31 (by decide +kernel)
      exact ⟨.pointer (some ⟨nd, 0, none⟩), wanted_free rfl, by simp [execOp, go_sem, h31], rfl⟩
    refine OweAllC.cons (owesC_val 0 (by decide +kernel) (by decide) rfl rfl fun k' a w1 x hk ha hG hV => ?_) ?_
    · skip
      have h32 : a.tmps.getD 32 undef = .pointer (some ⟨nd, 0, none⟩) := hV.get 32 (by decide +kernel)
      exact ⟨.pointer (some ⟨nd, 0, none⟩), wanted_free rfl, by simp [execOp, go_sem, h32], rfl⟩
    refine OweAllC.cons (owesC_val 0 (by decide +kernel) (by decide) rfl rfl fun k' a w1 x hk ha hG hV => ?_) ?_
    · skip
      have h33 : a.tmps.getD 33 undef = .pointer (some ⟨nd, 0, none⟩) := hV.get 33 (by decide +kernel)
      have cc := HP.out w1 (hG.1 (by omega))
      exact ⟨.string ⟨k.toArray⟩, wanted_free rfl, by simp [execOp, go_sem, h33, cc.2], rfl⟩
    refine OweAllC.cons (owesC_val 0 (by decide +kernel) (by decide) rfl rfl fun k' a w1 x hk ha hG hV => ?_) ?_
    · skip
      have h8 := ha.outer 8 (by decide +kernel)
      simp only [Act.eval] at h8
      exact ⟨.pointer (some ⟨nd, 0, none⟩), wanted_free rfl, by simp [execOp, go_sem, h8], rfl⟩
    refine OweAllC.cons (owesC_store 0 rfl rfl rfl fun a w1 x ha hG hx hV => ?_) ?_
    · skip
      have h30 : a.tmps.getD 30 undef = .map (some b) := hV.get 30 (by decide +kernel)
      have h34 : a.tmps.getD 34 undef = .string ⟨k.toArray⟩ := hV.get 34 (by decide +kernel)
      have h35 : a.tmps.getD 35 undef = .pointer (some ⟨nd, 0, none⟩) := hV.get 35 (by decide +kernel)
      have hb := hG.1 (by omega)
      obtain ⟨w2, hr, hm, hmd⟩ := HS.out w1 hb
      exact ⟨w2, wanted_free rfl, by simp [execOp, go_sem, h30, h34, h35, hr], (fun h => absurd h (by omega)), fun _ => ⟨w1, hb, hm, hmd⟩⟩
    exact OweAllC.nil
    ) ?_
  intro f wz xz hG hx hv
  first | (rename_i hK; refine hK _ _ ?_; clear hK) | (rename_i hK _; refine hK _ _ ?_; clear hK) | (rename_i hK _ _; refine hK _ _ ?_; clear hK) | (rename_i hK _ _ _; refine hK _ _ ?_; clear hK)
  clear hv hx
  simp only [dsts, puts, List.filterMap_cons, List.filterMap_nil, List.foldl_cons, List.foldl_nil, Act.put, List.setIfInBounds_toArray, List.set_cons_succ, List.set_cons_zero]
  obtain ⟨w1', hb3, hP3, hm3⟩ := hG.2 rfl
  have HEN := Lib.hid hP3.enter
  have HB3 := Lib.hid hb3
  have HMD3 := Lib.hid hm3
  have HPI := Lib.hid hP3
  clear hG hb3 hP3 hm3
  go_wp2_with fail
  refine HEN.out.mono ?_
  rintro e W4 ⟨rfl, ⟨nw4, od4, hC4⟩, hm4⟩
  have HC4 := Lib.hid hC4
  have HM4 := Lib.hid hm4
  obtain ⟨n, hnn⟩ : ∃ n, n = (nd :: bs).length := ⟨_, rfl⟩
  have HNN := Lib.hid hnn
  have HL : Hid (∀ w', Below W4.heap.size W4 w' → Calls Try.prog 17 #[.pointer (some ⟨c, 0, none⟩)] w' fun r w'' => r = .returned (.int .i64 (n : Int)) ∧ w'' = w') := Lib.hid (by
    intro w' hb
    have := clen_any c b r M fd ak _ kf2 vf2 nw4 od4 w' (HC4.out.old hb)
    rw [← HNN.out] at this; exact this)
  have hf2 : ¬ (n : Int) ≤ M := by have := HF.out; have := HNN.out; simp only [List.length_cons] at this; omega
  have HMA : Hid (Mod (fun i => i = b ∨ i ∈ r :: bs) W1 W4) := Lib.hid (by
    have m1 := (Mod.of_below HB1.out).trans (Mod.of_below HB2.out) (fun i hi h => Nat.le_trans HB1.out.size h)
    have m2 := m1.trans (Mod.of_below HB3.out) (fun i hi h => Nat.le_trans (Nat.le_trans HB1.out.size HB2.out.size) h)
    have m3 := (m2.mono (T := fun i => i = b ∨ i ∈ r :: bs) (fun i hi h => absurd hi (by omega))).trans HMD3.out (fun _ _ h => Or.inl h)
    refine m3.trans HM4.out (fun i hi h => ?_)
    rcases List.mem_cons.1 h with h1 | h1
    · have := HND.out; have := HB1.out.size; omega
    · exact Or.inr h1)
  clear hC4 hm4 hnn HEN HS HP
  go_wp2_with fail
  refine wp_region_puts (fun t v w => VK (match t with
    | 39 => .eq (.pointer (some ⟨c, 0, none⟩))
    | 40 => .eq (.int .i64 (n : Int))
    | 41 => .eq (.pointer (some ⟨c, 0, none⟩))
    | 42 => .eq (.pointer (some ⟨c, 0, none⟩))
    | 43 => .eq (.pointer (some ⟨c, 0, none⟩))
    | 44 => .eq (.int .i64 M)
    | 45 => .eq (Value.bool true)
    | _ => .any) v w) (fun w' => Below W4.heap.size W4 w') 55 (by kernel_rfl) (by decide +kernel) rfl (Below.refl _ _).drew (by
    refine OweAll.cons (owesK rfl rfl fun a w1 ha hG hV => ?_) ?_
    · skip
      have h0 := ha.outer 0 (by decide +kernel)
      simp only [Act.eval] at h0
      exact ⟨.pointer (some ⟨c, 0, none⟩), w1, wanted_free rfl, by simp [execOp, go_sem, h0], Below.refl _ _, rfl⟩
    refine OweAll.cons (owesK_call rfl rfl 17 fun a w1 ha hG hV => ?_) ?_
    · skip
      have h39 : a.tmps.getD 39 undef = .pointer (some ⟨c, 0, none⟩) := hV.get 39 (by decide +kernel)
      refine ⟨#[.pointer (some ⟨c, 0, none⟩)], wanted_free rfl, by simp [go_sem, h39], ?_⟩
      refine (HL.out w1 hG).mono ?_
      rintro e u2 ⟨rfl, rfl⟩; exact ⟨_, rfl, rfl, Below.refl _ _⟩
    refine OweAll.cons (owesK rfl rfl fun a w1 ha hG hV => ?_) ?_
    · skip
      have h0 := ha.outer 0 (by decide +kernel)
      simp only [Act.eval] at h0
      exact ⟨.pointer (some ⟨c, 0, none⟩), w1, wanted_free rfl, by simp [execOp, go_sem, h0], Below.refl _ _, rfl⟩
    refine OweAll.cons (owesK rfl rfl fun a w1 ha hG hV => ?_) ?_
    · skip
      have h41 : a.tmps.getD 41 undef = .pointer (some ⟨c, 0, none⟩) := hV.get 41 (by decide +kernel)
      exact ⟨.pointer (some ⟨c, 0, none⟩), w1, wanted_free rfl, by simp [execOp, go_sem, h41], Below.refl _ _, rfl⟩
    refine OweAll.cons (owesK rfl rfl fun a w1 ha hG hV => ?_) ?_
    · skip
      have h42 : a.tmps.getD 42 undef = .pointer (some ⟨c, 0, none⟩) := hV.get 42 (by decide +kernel)
      exact ⟨.pointer (some ⟨c, 0, none⟩), w1, wanted_free rfl, by simp [execOp, go_sem, h42], Below.refl _ _, rfl⟩
    refine OweAll.cons (owesK rfl rfl fun a w1 ha hG hV => ?_) ?_
    · skip
      have h43 : a.tmps.getD 43 undef = .pointer (some ⟨c, 0, none⟩) := hV.get 43 (by decide +kernel)
      have cc : w1.cell? ⟨c, 0, none⟩ = some (.int .i64 M) := (HC4.out.old hG).cell.1
      exact ⟨.int .i64 M, w1, wanted_free rfl, by simp [execOp, go_sem, h43, cc], Below.refl _ _, rfl⟩
    refine OweAll.cons (owesK rfl rfl fun a w1 ha hG hV => ?_) ?_
    · skip
      have h40 : a.tmps.getD 40 undef = .int .i64 (n : Int) := hV.get 40 (by decide +kernel)
      have h44 : a.tmps.getD 44 undef = .int .i64 M := hV.get 44 (by decide +kernel)
      exact ⟨Value.bool true, w1, wanted_free rfl, by simp [execOp, go_sem, h40, h44, hf2], Below.refl _ _, rfl⟩
    exact OweAll.nil
    ) ?_
  intro f wz hG hv
  have e45 : f 45 = Value.bool true := hv 6 _ 45 rfl rfl
  rename_i hK
  refine hK _ _ ?_
  clear hK hv
  simp only [dsts, puts, List.filterMap_cons, List.filterMap_nil, List.foldl_cons, List.foldl_nil, Act.put, List.setIfInBounds_toArray, List.set_cons_succ, List.set_cons_zero, e45]
  clear e45
  have HE : Hid (Below W4.heap.size W4 wz) := Lib.hid hG
  clear hG
  have hC5 := HC4.out.old HE.out
  have e1 : nd :: bs = (nd :: A) ++ z :: [] := by rw [HBS.out]; rfl
  rw [e1] at hC5
  have er : nw4 r = z := ring_last (A := nd :: A) hC5.lk
  have c2 := hC5.cell.2.2.1
  have c3 := (hC5.nodes.cell (List.mem_cons_self ..)).2.2.1
  rw [er] at c3
  have HDR := Lib.hid (cdrop_any c b r z M fd ak (nd :: A) [] kf2 vf2 nw4 od4 wz hC5)
  clear hC5 e1 er hf2
  go_wp2_with fail
  refine HDR.out.mono ?_
  rintro e W6 ⟨rfl, ⟨nw6, od6, hC6⟩, hm6⟩
  have HC6 := Lib.hid hC6
  have HM6 := Lib.hid hm6
  clear hC6 hm6 HDR c2 c3
  go_wp2_with fail
  go_end0
  obtain ⟨ek, ev⟩ := HKF.out
  rw [← HND.out] at ek ev
  have hC7 := HC6.out
  rw [ek, ev, List.append_nil] at hC7
  have hnd1 := HND.out
  have hs1 := HB1.out.size
  have ms := HMA.out.trans (Mod.of_below HE.out |>.mono (T := fun i => W4.heap.size ≤ i) (fun _ _ h => h)) (fun i hi h => absurd (Nat.lt_of_lt_of_le hi HMA.out.size) (by omega))
  refine ⟨rfl, ⟨nd, nw6, od6, by omega, hC7⟩, ms.trans HM6.out (fun i hi h => ?_)⟩
  rcases h with h | h
  · exact Or.inl h
  · refine Or.inr ?_
    rw [HBS.out]
    have hi2 : i ≠ nd := by omega
    simp only [List.mem_cons, List.cons_append] at h ⊢
    rcases h with h | h | h
    · exact Or.inl h
    · exact absurd h hi2
    · exact Or.inr h

set_option maxRecDepth 20000 in
set_option maxHeartbeats 2000000 in
theorem cput_old (c b r x : Nat) (M fd ak : Int) (A R : List Nat) (kf : Nat → List UInt8) (vf : Nat → Int) (nw od : Nat → Nat) (w : World) (h : CI w c b r M fd ak (A ++ x :: R) kf vf nw od) (k : List UInt8) (hkx : kf x = k) (hk : k.length ≤ 1000000) (v : Int) (hn : (A ++ x :: R).length ≤ 100000)
    (hf : ((A ++ x :: R).length : Int) ≤ M) :
    Calls Try.prog 14 #[.pointer (some ⟨c, 0, none⟩), .string ⟨k.toArray⟩, .int .i64 v] w fun e w' => e = .returned (.tuple #[]) ∧ (∃ nd nw' od', w.heap.size ≤ nd ∧ CI w' c b r M fd ak (nd :: (A ++ R)) (updK kf nd k) (updV vf nd v) nw' od') ∧ Mod (fun i => i = b ∨ i ∈ r :: (A ++ x :: R)) w w' := by
  obtain ⟨bs, hbs⟩ : ∃ bs, bs = A ++ R := ⟨_, rfl⟩
  have hkm : k.length ≤ maxLen := by simp [maxLen]; omega
  have hl := h.map.look_ok Try.underlying9 Try.underlying50 (zeroE w) k hkm
  have hxm : x ∈ A ++ x :: R := List.mem_append_right _ (List.mem_cons_self ..)
  obtain ⟨hd1, hx1⟩ := nodup_mid h.nd
  have hq : ((A ++ x :: R).find? fun y => kf y == k) = some x := by
    rw [List.find?_append, List.find?_cons_of_pos (by simp [hkx]), List.find?_eq_none.2, Option.none_or]
    intro y hy he
    have e := h.inj (List.mem_append_left _ hy) hxm (by rw [hkx]; simpa using he)
    exact hx1 (e ▸ List.mem_cons_of_mem _ (List.mem_append_left _ hy))
  have ha : ((A ++ x :: R).any fun y => kf y == k) = true := List.any_eq_true.2 ⟨x, hxm, by simp [hkx]⟩
  have hm : ∀ y ∈ bs, kf y ≠ k := by
    intro y hy he
    rw [hbs] at hy
    have hy2 : y ∈ A ++ x :: R := by
      rcases List.mem_append.1 hy with h | h
      · exact List.mem_append_left _ h
      · exact List.mem_append_right _ (List.mem_cons_of_mem _ h)
    have e := h.inj hy2 hxm (by rw [hkx]; exact he)
    exact hx1 (e ▸ List.mem_cons_of_mem _ hy)
  rw [getK_ring, hasK_ring, hq, ha] at hl
  simp only at hl
  have c1 := h.cell.2.1
  have HDR := cdrop_any c b r x M fd ak A R kf vf nw od w h
  rw [← hbs] at HDR ⊢
  have HDR := Lib.hid HDR
  have HK := Lib.hid hkm
  have HK1 := Lib.hid hk
  have hlen : (A ++ x :: R).length = bs.length + 1 := by rw [hbs]; simp; omega
  have HN : Hid (bs.length ≤ 100000) := Lib.hid (by omega)
  have HNE := Lib.hid hm
  have HF : Hid (((bs.length + 1 : Nat) : Int) ≤ M) := Lib.hid (by rw [hlen] at hf; exact hf)
  have HSB : Hid (∀ i, i ∈ r :: bs → i ∈ r :: (A ++ x :: R)) := Lib.hid (by
    intro i hi
    rw [hbs] at hi
    rcases List.mem_cons.1 hi with h | hi
    · exact h ▸ List.mem_cons_self ..
    · refine List.mem_cons_of_mem _ ?_
      rcases List.mem_append.1 hi with h | h
      · exact List.mem_append_left _ h
      · exact List.mem_append_right _ (List.mem_cons_of_mem _ h))
  clear h hk hkm hq ha hn hm hf hbs hlen hd1 hx1 hxm hkx
  go_enter Try.func14, Try.ntmps14
  go_wp2_with fail
  refine HDR.out.mono ?_
  rintro e W1 ⟨rfl, ⟨nw1, od1, hC1⟩, hmd⟩
  have HC1 := Lib.hid hC1
  have HMD := Lib.hid hmd
  clear hl c1 hC1 hmd HDR
  go_wp2_with fail
  refine (sclone_any k W1 HK1.out).mono ?_
  rintro e W1b ⟨rfl, hb1⟩
  have hC1b := HC1.out.old hb1
  have HB1 := Lib.hid hb1
  obtain ⟨nd, hnd⟩ : ∃ nd, nd = W1b.heap.size := ⟨_, rfl⟩
  obtain ⟨W2, hW2⟩ : ∃ W2, W2 = W1b.alloc (.cells #[.string ⟨k.toArray⟩, .int .i64 v, .pointer none, .pointer none] 49) := ⟨_, rfl⟩
  have HGR := Lib.hid (hC1b.grow k v HK.out HN.out HNE.out hW2)
  obtain ⟨kf2, hkf⟩ : ∃ kf2, kf2 = updK kf W1b.heap.size k := ⟨_, rfl⟩
  obtain ⟨vf2, hvf⟩ : ∃ vf2, vf2 = updV vf W1b.heap.size v := ⟨_, rfl⟩
  have HKF := Lib.hid (And.intro hkf hvf)
  rw [← hkf, ← hvf, ← hnd] at HGR
  have HS : Hid (∀ w' : World, Below W2.heap.size W2 w' → ∃ w3, (Instr.mapUpdate 50 (.map (some b)) (.string ⟨k.toArray⟩) (.pointer (some ⟨nd, 0, none⟩))).run Try.prog w' = .ok () w3 ∧ PI w3 c b r nd M fd ak bs kf2 vf2 nw1 od1 ∧ Mod (fun i => i = b) w' w3) := Lib.hid (fun w' hb => (HGR.out w' hb).2)
  have HP : Hid (∀ w' : World, Below W2.heap.size W2 w' → w'.cell? ⟨c, 1, none⟩ = some (.map (some b)) ∧ w'.cell? ⟨nd, 0, none⟩ = some (.string ⟨k.toArray⟩)) := Lib.hid (fun w' hb => (HGR.out w' hb).1)
  have HB2 : Hid (Below W1b.heap.size W1b W2) := Lib.hid (hW2 ▸ (Below.refl _ W1b).alloc (Nat.le_refl _) _)
  have HW2 := Lib.hid hW2
  have HND := Lib.hid hnd
  clear hb1 hC1b HGR hkf hvf hW2 hnd
  go_upto_region 4 with fail
  rw [← HW2.out, ← HND.out]
  have HG0 : Hid ((fun (j : Nat) (_ : Value) (w' : World) => (j = 0 → Below W2.heap.size W2 w') ∧ (j = 1 → ∃ w1, Below W2.heap.size W2 w1 ∧ PI w' c b r nd M fd ak bs kf2 vf2 nw1 od1 ∧ Mod (fun i => i = b) w1 w')) 0 undef W2.drew) := Lib.hid ⟨(fun _ => (Below.refl _ W2).drew), (fun h => absurd h (by omega))⟩
  refine CV.wp_region_chain (fun t v => match t with
    | 27 => v = .pointer (some ⟨c, 0, none⟩)
    | 28 => v = .pointer (some ⟨c, 0, none⟩)
    | 29 => v = .pointer (some ⟨c, 1, none⟩)
    | 30 => v = .map (some b)
    | 31 => v = .pointer (some ⟨nd, 0, none⟩)
    | 32 => v = .pointer (some ⟨nd, 0, none⟩)
    | 33 => v = .pointer (some ⟨nd, 0, none⟩)
    | 34 => v = .string ⟨k.toArray⟩
    | 35 => v = .pointer (some ⟨nd, 0, none⟩)
    | _ => True) (fun (j : Nat) (_ : Value) (w' : World) => (j = 0 → Below W2.heap.size W2 w') ∧ (j = 1 → ∃ w1, Below W2.heap.size W2 w1 ∧ PI w' c b r nd M fd ak bs kf2 vf2 nw1 od1 ∧ Mod (fun i => i = b) w1 w')) [9] 55 (by kernel_rfl) (by decide +kernel) rfl (by decide +kernel) (by decide) (by decide) HG0.out (by
    refine OweAllC.cons (owesC_val 0 (by decide +kernel) (by decide) rfl rfl fun k' a w1 x hk ha hG hV => ?_) ?_
    · skip
      have h0 := ha.outer 0 (by decide +kernel)
      simp only [Act.eval] at h0
      exact ⟨.pointer (some ⟨c, 0, none⟩), wanted_free rfl, by simp [execOp, go_sem, h0], rfl⟩
    refine OweAllC.cons (owesC_val 0 (by decide +kernel) (by decide) rfl rfl fun k' a w1 x hk ha hG hV => ?_) ?_
    · skip
      have h27 : a.tmps.getD 27 undef = .pointer (some ⟨c, 0, none⟩) := hV.get 27 (by decide +kernel)
      exact ⟨.pointer (some ⟨c, 0, none⟩), wanted_free rfl, by simp [execOp, go_sem, h27], rfl⟩
    refine OweAllC.cons (owesC_val 0 (by decide +kernel) (by decide) rfl rfl fun k' a w1 x hk ha hG hV => ?_) ?_
    · skip
      have h28 : a.tmps.getD 28 undef = .pointer (some ⟨c, 0, none⟩) := hV.get 28 (by decide +kernel)
      exact ⟨.pointer (some ⟨c, 1, none⟩), wanted_free rfl, by simp [execOp, go_sem, h28], rfl⟩
    refine OweAllC.cons (owesC_val 0 (by decide +kernel) (by decide) rfl rfl fun k' a w1 x hk ha hG hV => ?_) ?_
    · skip
      have h29 : a.tmps.getD 29 undef = .pointer (some ⟨c, 1, none⟩) := hV.get 29 (by decide +kernel)
      have cc := HP.out w1 (hG.1 (by omega))
      exact ⟨.map (some b), wanted_free rfl, by simp [execOp, go_sem, h29, cc.1], rfl⟩
    refine OweAllC.cons (owesC_val 0 (by decide +kernel) (by decide) rfl rfl fun k' a w1 x hk ha hG hV => ?_) ?_
    · skip
      have h8 := ha.outer 8 (by decide +kernel)
      simp only [Act.eval] at h8
      exact ⟨.pointer (some ⟨nd, 0, none⟩), wanted_free rfl, by simp [execOp, go_sem, h8], rfl⟩
    refine OweAllC.cons (owesC_val 0 (by decide +kernel) (by decide) rfl rfl fun k' a w1 x hk ha hG hV => ?_) ?_
    · skip
      have h31 : a.tmps.getD 31 undef = .pointer (some ⟨nd, 0, none⟩) := hV.get 31 (by decide +kernel)
      exact ⟨.pointer (some ⟨nd, 0, none⟩), wanted_free rfl, by simp [execOp, go_sem, h31], rfl⟩
    refine OweAllC.cons (owesC_val 0 (by decide +kernel) (by decide) rfl rfl fun k' a w1 x hk ha hG hV => ?_) ?_
    · skip
      have h32 : a.tmps.getD 32 undef = .pointer (some ⟨nd, 0, none⟩) := hV.get 32 (by decide +kernel)
      exact ⟨.pointer (some ⟨nd, 0, none⟩), wanted_free rfl, by simp [execOp, go_sem, h32], rfl⟩
    refine OweAllC.cons (owesC_val 0 (by decide +kernel) (by decide) rfl rfl fun k' a w1 x hk ha hG hV => ?_) ?_
    · skip
      have h33 : a.tmps.getD 33 undef = .pointer (some ⟨nd, 0, none⟩) := hV.get 33 (by decide +kernel)
      have cc := HP.out w1 (hG.1 (by omega))
      exact ⟨.string ⟨k.toArray⟩, wanted_free rfl, by simp [execOp, go_sem, h33, cc.2], rfl⟩
    refine OweAllC.cons (owesC_val 0 (by decide +kernel) (by decide) rfl rfl fun k' a w1 x hk ha hG hV => ?_) ?_
    · skip
      have h8 := ha.outer 8 (by decide +kernel)
      simp only [Act.eval] at h8
      exact ⟨.pointer (some ⟨nd, 0, none⟩), wanted_free rfl, by simp [execOp, go_sem, h8], rfl⟩
    refine OweAllC.cons (owesC_store 0 rfl rfl rfl fun a w1 x ha hG hx hV => ?_) ?_
    · skip
      have h30 : a.tmps.getD 30 undef = .map (some b) := hV.get 30 (by decide +kernel)
      have h34 : a.tmps.getD 34 undef = .string ⟨k.toArray⟩ := hV.get 34 (by decide +kernel)
      have h35 : a.tmps.getD 35 undef = .pointer (some ⟨nd, 0, none⟩) := hV.get 35 (by decide +kernel)
      have hb := hG.1 (by omega)
      obtain ⟨w2, hr, hm, hmd⟩ := HS.out w1 hb
      exact ⟨w2, wanted_free rfl, by simp [execOp, go_sem, h30, h34, h35, hr], (fun h => absurd h (by omega)), fun _ => ⟨w1, hb, hm, hmd⟩⟩
    exact OweAllC.nil
    ) ?_
  intro f wz xz hG hx hv
  first | (rename_i hK; refine hK _ _ ?_; clear hK) | (rename_i hK _; refine hK _ _ ?_; clear hK) | (rename_i hK _ _; refine hK _ _ ?_; clear hK) | (rename_i hK _ _ _; refine hK _ _ ?_; clear hK)
  clear hv hx
  simp only [dsts, puts, List.filterMap_cons, List.filterMap_nil, List.foldl_cons, List.foldl_nil, Act.put, List.setIfInBounds_toArray, List.set_cons_succ, List.set_cons_zero]
  obtain ⟨w1', hb3, hP3, hm3⟩ := hG.2 rfl
  have HEN := Lib.hid hP3.enter
  have HB3 := Lib.hid hb3
  have HMD3 := Lib.hid hm3
  have HPI := Lib.hid hP3
  clear hG hb3 hP3 hm3
  go_wp2_with fail
  refine HEN.out.mono ?_
  rintro e W4 ⟨rfl, ⟨nw4, od4, hC4⟩, hm4⟩
  have HC4 := Lib.hid hC4
  have HM4 := Lib.hid hm4
  obtain ⟨n, hnn⟩ : ∃ n, n = (nd :: bs).length := ⟨_, rfl⟩
  have HNN := Lib.hid hnn
  have HL : Hid (∀ w', Below W4.heap.size W4 w' → Calls Try.prog 17 #[.pointer (some ⟨c, 0, none⟩)] w' fun r w'' => r = .returned (.int .i64 (n : Int)) ∧ w'' = w') := Lib.hid (by
    intro w' hb
    have := clen_any c b r M fd ak _ kf2 vf2 nw4 od4 w' (HC4.out.old hb)
    rw [← HNN.out] at this; exact this)
  have hf2 : (n : Int) ≤ M := by have := HF.out; have := HNN.out; simp only [List.length_cons] at this; omega
  have HMA : Hid (Mod (fun i => i = b ∨ i ∈ r :: bs) W1 W4) := Lib.hid (by
    have m1 := (Mod.of_below HB1.out).trans (Mod.of_below HB2.out) (fun i hi h => Nat.le_trans HB1.out.size h)
    have m2 := m1.trans (Mod.of_below HB3.out) (fun i hi h => Nat.le_trans (Nat.le_trans HB1.out.size HB2.out.size) h)
    have m3 := (m2.mono (T := fun i => i = b ∨ i ∈ r :: bs) (fun i hi h => absurd hi (by omega))).trans HMD3.out (fun _ _ h => Or.inl h)
    refine m3.trans HM4.out (fun i hi h => ?_)
    rcases List.mem_cons.1 h with h1 | h1
    · have := HND.out; have := HB1.out.size; omega
    · exact Or.inr h1)
  clear hC4 hm4 hnn HEN HS HP
  go_wp2_with fail
  refine wp_region_puts (fun t v w => VK (match t with
    | 39 => .eq (.pointer (some ⟨c, 0, none⟩))
    | 40 => .eq (.int .i64 (n : Int))
    | 41 => .eq (.pointer (some ⟨c, 0, none⟩))
    | 42 => .eq (.pointer (some ⟨c, 0, none⟩))
    | 43 => .eq (.pointer (some ⟨c, 0, none⟩))
    | 44 => .eq (.int .i64 M)
    | 45 => .eq (Value.bool false)
    | _ => .any) v w) (fun w' => Below W4.heap.size W4 w') 55 (by kernel_rfl) (by decide +kernel) rfl (Below.refl _ _).drew (by
    refine OweAll.cons (owesK rfl rfl fun a w1 ha hG hV => ?_) ?_
    · skip
      have h0 := ha.outer 0 (by decide +kernel)
      simp only [Act.eval] at h0
      exact ⟨.pointer (some ⟨c, 0, none⟩), w1, wanted_free rfl, by simp [execOp, go_sem, h0], Below.refl _ _, rfl⟩
    refine OweAll.cons (owesK_call rfl rfl 17 fun a w1 ha hG hV => ?_) ?_
    · skip
      have h39 : a.tmps.getD 39 undef = .pointer (some ⟨c, 0, none⟩) := hV.get 39 (by decide +kernel)
      refine ⟨#[.pointer (some ⟨c, 0, none⟩)], wanted_free rfl, by simp [go_sem, h39], ?_⟩
      refine (HL.out w1 hG).mono ?_
      rintro e u2 ⟨rfl, rfl⟩; exact ⟨_, rfl, rfl, Below.refl _ _⟩
    refine OweAll.cons (owesK rfl rfl fun a w1 ha hG hV => ?_) ?_
    · skip
      have h0 := ha.outer 0 (by decide +kernel)
      simp only [Act.eval] at h0
      exact ⟨.pointer (some ⟨c, 0, none⟩), w1, wanted_free rfl, by simp [execOp, go_sem, h0], Below.refl _ _, rfl⟩
    refine OweAll.cons (owesK rfl rfl fun a w1 ha hG hV => ?_) ?_
    · skip
      have h41 : a.tmps.getD 41 undef = .pointer (some ⟨c, 0, none⟩) := hV.get 41 (by decide +kernel)
      exact ⟨.pointer (some ⟨c, 0, none⟩), w1, wanted_free rfl, by simp [execOp, go_sem, h41], Below.refl _ _, rfl⟩
    refine OweAll.cons (owesK rfl rfl fun a w1 ha hG hV => ?_) ?_
    · skip
      have h42 : a.tmps.getD 42 undef = .pointer (some ⟨c, 0, none⟩) := hV.get 42 (by decide +kernel)
      exact ⟨.pointer (some ⟨c, 0, none⟩), w1, wanted_free rfl, by simp [execOp, go_sem, h42], Below.refl _ _, rfl⟩
    refine OweAll.cons (owesK rfl rfl fun a w1 ha hG hV => ?_) ?_
    · skip
      have h43 : a.tmps.getD 43 undef = .pointer (some ⟨c, 0, none⟩) := hV.get 43 (by decide +kernel)
      have cc : w1.cell? ⟨c, 0, none⟩ = some (.int .i64 M) := (HC4.out.old hG).cell.1
      exact ⟨.int .i64 M, w1, wanted_free rfl, by simp [execOp, go_sem, h43, cc], Below.refl _ _, rfl⟩
    refine OweAll.cons (owesK rfl rfl fun a w1 ha hG hV => ?_) ?_
    · skip
      have h40 : a.tmps.getD 40 undef = .int .i64 (n : Int) := hV.get 40 (by decide +kernel)
      have h44 : a.tmps.getD 44 undef = .int .i64 M := hV.get 44 (by decide +kernel)
      exact ⟨Value.bool false, w1, wanted_free rfl, by simp [execOp, go_sem, h40, h44, hf2], Below.refl _ _, rfl⟩
    exact OweAll.nil
    ) ?_
  intro f wz hG hv
  have e45 : f 45 = Value.bool false := hv 6 _ 45 rfl rfl
  rename_i hK
  refine hK _ _ ?_
  clear hK hv
  simp only [dsts, puts, List.filterMap_cons, List.filterMap_nil, List.foldl_cons, List.foldl_nil, Act.put, List.setIfInBounds_toArray, List.set_cons_succ, List.set_cons_zero, e45]
  clear e45
  have HE : Hid (Below W4.heap.size W4 wz) := Lib.hid hG
  clear hG
  go_wp2_with fail
  go_end0
  obtain ⟨ek, ev⟩ := HKF.out
  rw [← HND.out] at ek ev
  have hC5 := HC4.out.old HE.out
  rw [ek, ev] at hC5
  have hnd1 := HND.out
  have hs1 := HB1.out.size
  have hs2 := HMD.out.size
  exact ⟨rfl, ⟨nd, nw4, od4, by omega, hC5⟩, HMD.out.trans (HMA.out.trans (Mod.of_below HE.out |>.mono (T := fun i => W4.heap.size ≤ i) (fun _ _ h => h)) (fun i hi h => absurd (Nat.lt_of_lt_of_le hi HMA.out.size) (by omega))) (fun i _ h => h.imp id (HSB.out i))⟩
end Go.Proofs.Ytdiiechkhlbkcab

namespace Go.Proofs.Ytdiiechkhlbkcab
open Go.RowKit

abbrev KV := List UInt8 × Int
def kvOf (kf : Nat → List UInt8) (vf : Nat → Int) (y : Nat) : KV := (kf y, vf y)
def dropK (k : List UInt8) (L : List KV) : List KV := L.filter fun x => x.1 != k
def hasV (k : List UInt8) (L : List KV) : Bool := L.any fun x => x.1 == k
def getV (k : List UInt8) (L : List KV) : Int := match L.find? fun x => x.1 == k with | some x => x.2 | none => 0
/-- Cache c keeps L, the one used last first; F are its blocks. -/
def CA (w : World) (c : Nat) (M fd ak : Int) (L : List KV) (F : List Nat) : Prop :=
  ∃ b r bs kf vf nw od, CI w c b r M fd ak bs kf vf nw od ∧ L = bs.map (kvOf kf vf) ∧ F = c :: b :: r :: bs
section
variable {w w' : World} {c : Nat} {M fd ak : Int} {L : List KV} {F : List Nat}
theorem CA.lt (h : CA w c M fd ak L F) {i : Nat} (hi : i ∈ F) : i < w.heap.size := by
  obtain ⟨b, r, bs, kf, vf, nw, od, h, -, rfl⟩ := h
  simp only [List.mem_cons] at hi
  rcases hi with rfl | rfl | hi
  · exact h.clt
  · exact h.map.lt
  · exact h.ylt (by simpa using hi)
theorem CA.kept (h : CA w c M fd ak L F) {S : Nat → Prop} (hm : Mod S w w') (hd : ∀ i ∈ F, ¬ S i) : CA w' c M fd ak L F := by
  obtain ⟨b, r, bs, kf, vf, nw, od, h, e, rfl⟩ := h
  exact ⟨b, r, bs, kf, vf, nw, od, h.kept hm (hd c (by simp)) (hd b (by simp)) (fun y hy => hd y (List.mem_cons_of_mem _ (List.mem_cons_of_mem _ hy))), e, rfl⟩
theorem CA.old (h : CA w c M fd ak L F) (hb : Below w.heap.size w w') : CA w' c M fd ak L F := by
  obtain ⟨b, r, bs, kf, vf, nw, od, h, e, rfl⟩ := h
  exact ⟨b, r, bs, kf, vf, nw, od, h.old hb, e, rfl⟩
theorem CA.apart (h : CA w c M fd ak L F) : L.Pairwise fun x y => x.1 ≠ y.1 := by
  obtain ⟨b, r, bs, kf, vf, nw, od, h, rfl, rfl⟩ := h
  have := h.map.ap
  unfold Apart at this
  rw [List.pairwise_map] at this ⊢
  exact this
theorem CA.keys (h : CA w c M fd ak L F) : ∀ x ∈ L, x.1.length ≤ maxLen := by
  obtain ⟨b, r, bs, kf, vf, nw, od, h, rfl, rfl⟩ := h
  intro x hx
  obtain ⟨y, hy, rfl⟩ := List.mem_map.1 hx
  exact h.map.le (entN kf y) (List.mem_map_of_mem hy)
theorem drop_ring {kf : Nat → List UInt8} {vf : Nat → Int} {A R : List Nat} {x : Nat} (h : ∀ y ∈ A ++ R, kf y ≠ kf x) : dropK (kf x) ((A ++ x :: R).map (kvOf kf vf)) = (A ++ R).map (kvOf kf vf) := by
  have e1 : ∀ B : List Nat, (∀ y ∈ B, y ∈ A ++ R) → (B.map (kvOf kf vf)).filter (fun z => z.1 != kf x) = B.map (kvOf kf vf) := fun B hB => List.filter_eq_self.2 fun z hz => by
    obtain ⟨y, hy, rfl⟩ := List.mem_map.1 hz
    simpa [kvOf] using h y (hB y hy)
  unfold dropK
  rw [List.map_append, List.map_cons, List.filter_append, List.filter_cons, e1 A (fun y hy => List.mem_append_left _ hy), e1 R (fun y hy => List.mem_append_right _ hy), List.map_append]
  simp [kvOf]
theorem drop_none {kf : Nat → List UInt8} {vf : Nat → Int} {B : List Nat} {k : List UInt8} (h : ∀ y ∈ B, kf y ≠ k) : dropK k (B.map (kvOf kf vf)) = B.map (kvOf kf vf) := List.filter_eq_self.2 fun z hz => by
  obtain ⟨y, hy, rfl⟩ := List.mem_map.1 hz
  simpa [kvOf] using h y hy
theorem CI.others {b r x : Nat} {A R : List Nat} {kf : Nat → List UInt8} {vf : Nat → Int} {nw od : Nat → Nat} (h : CI w c b r M fd ak (A ++ x :: R) kf vf nw od) : ∀ y ∈ A ++ R, kf y ≠ kf x := by
  intro y hy e
  have hx1 := (nodup_mid h.nd).2
  have hy2 : y ∈ A ++ x :: R := by
    rcases List.mem_append.1 hy with h | h
    · exact List.mem_append_left _ h
    · exact List.mem_append_right _ (List.mem_cons_of_mem _ h)
  have := h.inj hy2 (List.mem_append_right _ (List.mem_cons_self ..)) e
  exact hx1 (this ▸ List.mem_cons_of_mem _ hy)
theorem has_none {kf : Nat → List UInt8} {vf : Nat → Int} {B : List Nat} {k : List UInt8} (h : ∀ y ∈ B, kf y ≠ k) : hasV k (B.map (kvOf kf vf)) = false ∧ getV k (B.map (kvOf kf vf)) = 0 := by
  constructor
  · unfold hasV; rw [List.any_eq_false]
    intro z hz
    obtain ⟨y, hy, rfl⟩ := List.mem_map.1 hz
    simpa [kvOf] using h y hy
  · unfold getV
    rw [List.find?_eq_none.2]
    intro z hz
    obtain ⟨y, hy, rfl⟩ := List.mem_map.1 hz
    simpa [kvOf] using h y hy
theorem has_some {kf : Nat → List UInt8} {vf : Nat → Int} {A R : List Nat} {x : Nat} (h : ∀ y ∈ A ++ R, kf y ≠ kf x) : hasV (kf x) ((A ++ x :: R).map (kvOf kf vf)) = true ∧ getV (kf x) ((A ++ x :: R).map (kvOf kf vf)) = vf x := by
  constructor
  · unfold hasV; rw [List.any_eq_true]
    exact ⟨kvOf kf vf x, List.mem_map_of_mem (List.mem_append_right _ (List.mem_cons_self ..)), by simp [kvOf]⟩
  · unfold getV
    rw [List.map_append, List.map_cons, List.find?_append, List.find?_cons_of_pos (by simp [kvOf]), List.find?_eq_none.2, Option.none_or]
    · rfl
    · intro z hz
      obtain ⟨y, hy, rfl⟩ := List.mem_map.1 hz
      simpa [kvOf] using h y (List.mem_append_left _ hy)
theorem ring_cases (kf : Nat → List UInt8) (bs : List Nat) (k : List UInt8) : (∀ y ∈ bs, kf y ≠ k) ∨ ∃ A x R, bs = A ++ x :: R ∧ kf x = k := by
  by_cases hx : ∃ x ∈ bs, kf x = k
  · obtain ⟨x, hx, e⟩ := hx
    obtain ⟨A, R, e2⟩ := List.append_of_mem hx
    exact Or.inr ⟨A, x, R, e2, e⟩
  · exact Or.inl fun y hy e => hx ⟨y, hy, e⟩
theorem updK_map {kf : Nat → List UInt8} {vf : Nat → Int} {nd : Nat} {k : List UInt8} {v : Int} {B : List Nat} (h : ∀ y ∈ B, y ≠ nd) : (nd :: B).map (kvOf (updK kf nd k) (updV vf nd v)) = (k, v) :: B.map (kvOf kf vf) := by
  rw [List.map_cons]
  congr 1
  · simp [kvOf, updK, updV]
  · exact List.map_congr_left fun y hy => by simp [kvOf, updK, updV, h y hy]
end
theorem ca_new (m : Int) (w : World) :
    Calls Try.prog 7 #[.int .i64 m] w fun e w' => ∃ c F, e = .returned (.pointer (some ⟨c, 0, none⟩)) ∧ CA w' c (min (max m 1) 1024) 0 0 [] F ∧ (∀ i ∈ F, w.heap.size ≤ i) ∧ Below w.heap.size w w' := by
  refine (cnew_any m w).mono ?_
  rintro e w' ⟨c, b, r, rfl, hC, hB, h1, h2, h3⟩
  refine ⟨c, _, rfl, ⟨b, r, [], _, _, _, _, hC, rfl, rfl⟩, ?_, hB⟩
  intro i hi
  simp at hi
  rcases hi with rfl | rfl | rfl <;> assumption
theorem ca_len {w : World} {c : Nat} {M fd ak : Int} {L : List KV} {F : List Nat} (h : CA w c M fd ak L F) :
    Calls Try.prog 17 #[.pointer (some ⟨c, 0, none⟩)] w fun e w' => e = .returned (.int .i64 (L.length : Nat)) ∧ w' = w := by
  obtain ⟨b, r, bs, kf, vf, nw, od, h, rfl, rfl⟩ := h
  rw [List.length_map]
  exact clen_any c b r M fd ak bs kf vf nw od w h
theorem ca_get {w : World} {c : Nat} {M fd ak : Int} {L : List KV} {F : List Nat} (h : CA w c M fd ak L F) (k : List UInt8) (hk : k.length ≤ maxLen) (h0 : 0 ≤ ak) (h1 : ak ≤ 100000000) (g0 : 0 ≤ fd) (g1 : fd ≤ 100000000) :
    Calls Try.prog 11 #[.pointer (some ⟨c, 0, none⟩), .string ⟨k.toArray⟩] w fun e w' => e = .returned (.tuple #[.int .i64 (getV k L), .bool (hasV k L)]) ∧
      (∃ F', CA w' c M (if hasV k L then fd + 1 else fd) (ak + 1) (if hasV k L then (k, getV k L) :: dropK k L else L) F' ∧ (∀ i ∈ F', i ∈ F)) ∧ Mod (fun i => i ∈ F) w w' := by
  obtain ⟨b, r, bs, kf, vf, nw, od, h, rfl, rfl⟩ := h
  rcases ring_cases kf bs k with hm | ⟨A, x, R, rfl, rfl⟩
  · obtain ⟨e1, e2⟩ := has_none (vf := vf) hm
    rw [e1, e2]
    refine (cget_miss c b r M fd ak bs kf vf nw od w h k hk h0 h1 hm).mono ?_
    rintro e w' ⟨rfl, hC, hmd⟩
    exact ⟨rfl, ⟨_, ⟨b, r, bs, kf, vf, nw, od, hC, rfl, rfl⟩, fun _ h => h⟩, hmd.mono (fun i _ e => by rw [e]; simp)⟩
  · have ho := h.others
    obtain ⟨e1, e2⟩ := has_some (vf := vf) ho
    rw [e1, e2, drop_ring ho]
    refine (cget_hit c b r x M fd ak A R kf vf nw od w h h0 h1 g0 g1).mono ?_
    rintro e w' ⟨rfl, ⟨nw', od', hC⟩, hmd⟩
    refine ⟨rfl, ⟨_, ⟨b, r, x :: (A ++ R), kf, vf, nw', od', hC, rfl, rfl⟩, ?_⟩, hmd.mono ?_⟩
    · intro i hi
      simp only [List.mem_cons, List.mem_append] at hi ⊢
      rcases hi with h | h | h | h | h | h
      · exact Or.inl h
      · exact Or.inr (Or.inl h)
      · exact Or.inr (Or.inr (Or.inl h))
      · exact Or.inr (Or.inr (Or.inr (Or.inr (Or.inl h))))
      · exact Or.inr (Or.inr (Or.inr (Or.inl h)))
      · exact Or.inr (Or.inr (Or.inr (Or.inr (Or.inr h))))
    · intro i _ hi
      rcases hi with h | h
      · rw [h]; simp
      · exact List.mem_cons_of_mem _ (List.mem_cons_of_mem _ h)
theorem ca_put {w : World} {c : Nat} {M fd ak : Int} {L : List KV} {F : List Nat} (h : CA w c M fd ak L F) (k : List UInt8) (hk : k.length ≤ 1000000) (v : Int) (hM : 1 ≤ M) (hM2 : M ≤ 2000) (hL : (L.length : Int) ≤ M) :
    Calls Try.prog 14 #[.pointer (some ⟨c, 0, none⟩), .string ⟨k.toArray⟩, .int .i64 v] w fun e w' => e = .returned (.tuple #[]) ∧
      (∃ F', CA w' c M fd ak (((k, v) :: dropK k L).take M.toNat) F' ∧ (∀ i ∈ F', i ∈ F ∨ w.heap.size ≤ i)) ∧ Mod (fun i => i ∈ F) w w' := by
  obtain ⟨b, r, bs, kf, vf, nw, od, h, rfl, rfl⟩ := h
  rw [List.length_map] at hL
  have hne : ∀ (nd : Nat) (B : List Nat), w.heap.size ≤ nd → (∀ y ∈ B, y ∈ bs) → ∀ y ∈ B, y ≠ nd := fun nd B hn hB y hy e => by
    have := h.ylt (List.mem_cons_of_mem r (hB y hy)); omega
  rcases ring_cases kf bs k with hm | ⟨A, x, R, rfl, rfl⟩
  · rw [drop_none hm]
    by_cases hf : ((bs.length + 1 : Nat) : Int) ≤ M
    · rw [List.take_of_length_le (by simp; omega)]
      refine (cput_fits c b r M fd ak bs kf vf nw od w h k hk v (by omega) hm hf).mono ?_
      rintro e w' ⟨rfl, ⟨nd, nw', od', hnd, hC⟩, hmd⟩
      refine ⟨rfl, ⟨_, ⟨b, r, nd :: bs, _, _, nw', od', hC, (updK_map (hne nd bs hnd (fun _ h => h))).symm, rfl⟩, ?_⟩, hmd.mono ?_⟩
      · intro i hi
        simp only [List.mem_cons] at hi ⊢
        rcases hi with h | h | h | h | h
        · exact Or.inl (Or.inl h)
        · exact Or.inl (Or.inr (Or.inl h))
        · exact Or.inl (Or.inr (Or.inr (Or.inl h)))
        · exact Or.inr (h ▸ hnd)
        · exact Or.inl (Or.inr (Or.inr (Or.inr h)))
      · intro i _ hi
        rcases hi with h | h
        · rw [h]; simp
        · exact List.mem_cons_of_mem _ (List.mem_cons_of_mem _ h)
    · obtain ⟨A, z, rfl⟩ : ∃ A z, bs = A ++ [z] := by
        rcases List.eq_nil_or_concat bs with h0 | ⟨A, z, h0⟩
        · subst h0; simp at hf; omega
        · exact ⟨A, z, by simpa using h0⟩
      have e1 : ((k, v) :: (A ++ [z]).map (kvOf kf vf)).take M.toNat = (k, v) :: A.map (kvOf kf vf) := by
        have hl : M.toNat = A.length + 1 := by simp at hf hL; omega
        rw [hl, List.take_succ_cons, List.map_append, List.take_append_of_le_length (by simp), List.take_of_length_le (by simp)]
      rw [e1]
      refine (cput_goes c b r z M fd ak A kf vf nw od w h k hk v (by omega) hm (by omega)).mono ?_
      rintro e w' ⟨rfl, ⟨nd, nw', od', hnd, hC⟩, hmd⟩
      refine ⟨rfl, ⟨_, ⟨b, r, nd :: A, _, _, nw', od', hC, (updK_map (hne nd A hnd (fun _ h => List.mem_append_left _ h))).symm, rfl⟩, ?_⟩, hmd.mono ?_⟩
      · intro i hi
        simp only [List.mem_cons, List.mem_append] at hi ⊢
        rcases hi with h | h | h | h | h
        · exact Or.inl (Or.inl h)
        · exact Or.inl (Or.inr (Or.inl h))
        · exact Or.inl (Or.inr (Or.inr (Or.inl h)))
        · exact Or.inr (h ▸ hnd)
        · exact Or.inl (Or.inr (Or.inr (Or.inr (Or.inl h))))
      · intro i _ hi
        rcases hi with h | h
        · rw [h]; simp
        · exact List.mem_cons_of_mem _ (List.mem_cons_of_mem _ h)
  · have ho := h.others
    rw [drop_ring ho]
    have hl2 : (A ++ x :: R).length = (A ++ R).length + 1 := by simp; omega
    rw [List.take_of_length_le (by simp at hL ⊢; omega)]
    refine (cput_old c b r x M fd ak A R kf vf nw od w h (kf x) rfl hk v (by omega) hL).mono ?_
    rintro e w' ⟨rfl, ⟨nd, nw', od', hnd, hC⟩, hmd⟩
    have hsub : ∀ y ∈ A ++ R, y ∈ A ++ x :: R := by
      intro y hy
      rcases List.mem_append.1 hy with h | h
      · exact List.mem_append_left _ h
      · exact List.mem_append_right _ (List.mem_cons_of_mem _ h)
    refine ⟨rfl, ⟨_, ⟨b, r, nd :: (A ++ R), _, _, nw', od', hC, (updK_map (hne nd (A ++ R) hnd hsub)).symm, rfl⟩, ?_⟩, hmd.mono ?_⟩
    · intro i hi
      rcases List.mem_cons.1 hi with h | hi
      · exact Or.inl (h ▸ List.mem_cons_self ..)
      rcases List.mem_cons.1 hi with h | hi
      · exact Or.inl (h ▸ List.mem_cons_of_mem _ (List.mem_cons_self ..))
      rcases List.mem_cons.1 hi with h | hi
      · exact Or.inl (h ▸ List.mem_cons_of_mem _ (List.mem_cons_of_mem _ (List.mem_cons_self ..)))
      rcases List.mem_cons.1 hi with h | hi
      · exact Or.inr (h ▸ hnd)
      · exact Or.inl (List.mem_cons_of_mem _ (List.mem_cons_of_mem _ (List.mem_cons_of_mem _ (hsub i hi))))
    · intro i _ hi
      rcases hi with h | h
      · rw [h]; simp
      · exact List.mem_cons_of_mem _ (List.mem_cons_of_mem _ h)
end Go.Proofs.Ytdiiechkhlbkcab

namespace Go.Proofs.Ytdiiechkhlbkcab
open Go.RowKit

theorem of1_any (w : World) : CallsD Try.prog 21 #[] .returning w fun e u' w' => e = .returned (.tuple #[]) ∧ u' = .returning ∧ w' = w := by
  refine callsD_of_wpS Try.func21 rfl fun c₀ cs hu => ?_
  apply wpS_region
  cases c₀
  simp_all [wpOpsS, go_sem, recoverD, Try.ntmps21, bodyPostS, results, Try.results21]

theorem ca_of_hit {w : World} {c : Nat} {M fd ak : Int} {L : List KV} {F : List Nat} (h : CA w c M fd ak L F) (k : List UInt8) (hk : k.length ≤ maxLen) (h0 : 0 ≤ ak) (h1 : ak ≤ 100000000) (g0 : 0 ≤ fd) (g1 : fd ≤ 100000000) (f : Value) (hh : hasV k L = true) :
    Calls Try.prog 12 #[.pointer (some ⟨c, 0, none⟩), .string ⟨k.toArray⟩, f] w fun e w' => e = .returned (.int .i64 (getV k L)) ∧
      (∃ F', CA w' c M (fd + 1) (ak + 1) ((k, getV k L) :: dropK k L) F' ∧ (∀ i ∈ F', i ∈ F)) ∧ Mod (fun i => i ∈ F) w w' := by
  have hg := ca_get h k hk h0 h1 g0 g1
  rw [hh] at hg
  simp only [if_true] at hg
  have HG := Lib.hid hg
  obtain ⟨v, hv⟩ : ∃ v, v = getV k L := ⟨_, rfl⟩
  rw [← hv] at HG ⊢
  clear h hk h0 h1 g0 g1 hh hg hv
  go_enter_defers Try.func12, Try.ntmps12
  go_wp2_with fail
  refine HG.out.mono ?_
  rintro e w1 ⟨rfl, hC, hm⟩
  have HC := Lib.hid hC
  have HM := Lib.hid hm
  clear hC hm HG
  go_wp2_with fail
  refine ⟨_, results_tmp rfl _ _ _, rfl, ?_⟩
  exact ⟨HC.out, HM.out⟩

/-- Of, where nothing is kept by the key: what make answers, which is kept. -/
theorem ca_of_missA {w : World} {c : Nat} {M fd ak : Int} {L : List KV} {F : List Nat} (h : CA w c M fd ak L F) (k : List UInt8) (hk : k.length ≤ 1000000) (h0 : 0 ≤ ak) (h1 : ak ≤ 100000000) (g0 : 0 ≤ fd) (g1 : fd ≤ 100000000) (hM : 1 ≤ M) (hM2 : M ≤ 2000) (hh : hasV k L = false) (pc po : Nat)
    (R : Int → Int → Int → List KV → List Nat → World → World → Prop)
    (hmk : ∀ (w1 : World) (F1 : List Nat), CA w1 c M fd (ak + 1) L F1 → (∀ i ∈ F1, i ∈ F) → Mod (fun i => i ∈ F) w w1 → Calls Try.prog 18 #[.string ⟨k.toArray⟩, .pointer (some ⟨pc, 0, none⟩), .pointer (some ⟨po, 0, none⟩)] w1 fun e w2 => ∃ v fd2 ak2 L2 F2, e = .returned (.int .i64 v) ∧ CA w2 c M fd2 ak2 L2 F2 ∧ (L2.length : Int) ≤ M ∧ R v fd2 ak2 L2 F2 w1 w2) :
    Calls Try.prog 12 #[.pointer (some ⟨c, 0, none⟩), .string ⟨k.toArray⟩, .func (.func 18) #[] #[.pointer (some ⟨pc, 0, none⟩), .pointer (some ⟨po, 0, none⟩)]] w fun e w' => ∃ v fd2 ak2 L2 F2 w1 w2, e = .returned (.int .i64 v) ∧ Mod (fun i => i ∈ F) w w1 ∧ R v fd2 ak2 L2 F2 w1 w2 ∧
      (∃ F', CA w' c M fd2 ak2 (((k, v) :: dropK k L2).take M.toNat) F' ∧ (∀ i ∈ F', i ∈ F2 ∨ w2.heap.size ≤ i)) ∧ Mod (fun i => i ∈ F2) w2 w' := by
  have hg := ca_get h k (by simp [maxLen]; omega) h0 h1 g0 g1
  rw [hh] at hg
  simp only [Bool.false_eq_true, if_false] at hg
  have HG := Lib.hid hg
  have HK := Lib.hid hk
  have HMM := Lib.hid (And.intro hM hM2)
  obtain ⟨v0, hv⟩ : ∃ v0, v0 = getV k L := ⟨_, rfl⟩
  rw [← hv] at HG
  have HMK := Lib.hid hmk
  clear h hk h0 h1 g0 g1 hh hg hv hM hM2 hmk
  go_enter_defers Try.func12, Try.ntmps12
  go_wp2_with fail
  refine HG.out.mono ?_
  rintro e w1 ⟨rfl, ⟨F1, hC, hs⟩, hm⟩
  have HX := Lib.hid (HMK.out w1 F1 hC hs hm)
  have HM1 := Lib.hid hm
  clear hC hs hm HG HMK
  go_wp2_with fail
  refine HX.out.mono ?_
  rintro e w2 ⟨v, fd2, ak2, L2, F2, rfl, hC2, hl2, hR⟩
  have HP := Lib.hid (ca_put hC2 k HK.out v HMM.out.1 HMM.out.2 hl2)
  have HR := Lib.hid hR
  clear hC2 hl2 hR HX
  go_wp2_with fail
  refine HP.out.mono ?_
  rintro e w3 ⟨rfl, hC3, hm3⟩
  have HC3 := Lib.hid hC3
  have HM3 := Lib.hid hm3
  clear hC3 hm3 HP
  go_wp2_with fail
  refine leaves_cons (f := 21) (args := #[]) (by simp) (by simp [go_sem]) ?_
  refine (of1_any w3).mono ?_
  rintro e u' w'' ⟨rfl, rfl, rfl⟩
  exact ⟨_, results_tmp rfl _ _ _, _, _, _, _, _, _, _, rfl, HM1.out, HR.out, HC3.out, HM3.out⟩
/-- Of, where nothing is kept by the key: what make answers, which is kept. -/
theorem ca_of_missP {w : World} {c : Nat} {M fd ak : Int} {L : List KV} {F : List Nat} (h : CA w c M fd ak L F) (k : List UInt8) (hk : k.length ≤ 1000000) (h0 : 0 ≤ ak) (h1 : ak ≤ 100000000) (g0 : 0 ≤ fd) (g1 : fd ≤ 100000000) (hM : 1 ≤ M) (hM2 : M ≤ 2000) (hh : hasV k L = false) (pk pm pa : Nat)
    (R : Int → Int → Int → List KV → List Nat → World → World → Prop)
    (hmk : ∀ (w1 : World) (F1 : List Nat), CA w1 c M fd (ak + 1) L F1 → (∀ i ∈ F1, i ∈ F) → Mod (fun i => i ∈ F) w w1 → Calls Try.prog 13 #[.string ⟨k.toArray⟩, .pointer (some ⟨pk, 0, none⟩), .pointer (some ⟨pm, 0, none⟩), .pointer (some ⟨pa, 0, none⟩)] w1 fun e w2 => ∃ v fd2 ak2 L2 F2, e = .returned (.int .i64 v) ∧ CA w2 c M fd2 ak2 L2 F2 ∧ (L2.length : Int) ≤ M ∧ R v fd2 ak2 L2 F2 w1 w2) :
    Calls Try.prog 12 #[.pointer (some ⟨c, 0, none⟩), .string ⟨k.toArray⟩, .func (.func 13) #[] #[.pointer (some ⟨pk, 0, none⟩), .pointer (some ⟨pm, 0, none⟩), .pointer (some ⟨pa, 0, none⟩)]] w fun e w' => ∃ v fd2 ak2 L2 F2 w1 w2, e = .returned (.int .i64 v) ∧ Mod (fun i => i ∈ F) w w1 ∧ R v fd2 ak2 L2 F2 w1 w2 ∧
      (∃ F', CA w' c M fd2 ak2 (((k, v) :: dropK k L2).take M.toNat) F' ∧ (∀ i ∈ F', i ∈ F2 ∨ w2.heap.size ≤ i)) ∧ Mod (fun i => i ∈ F2) w2 w' := by
  have hg := ca_get h k (by simp [maxLen]; omega) h0 h1 g0 g1
  rw [hh] at hg
  simp only [Bool.false_eq_true, if_false] at hg
  have HG := Lib.hid hg
  have HK := Lib.hid hk
  have HMM := Lib.hid (And.intro hM hM2)
  obtain ⟨v0, hv⟩ : ∃ v0, v0 = getV k L := ⟨_, rfl⟩
  rw [← hv] at HG
  have HMK := Lib.hid hmk
  clear h hk h0 h1 g0 g1 hh hg hv hM hM2 hmk
  go_enter_defers Try.func12, Try.ntmps12
  go_wp2_with fail
  refine HG.out.mono ?_
  rintro e w1 ⟨rfl, ⟨F1, hC, hs⟩, hm⟩
  have HX := Lib.hid (HMK.out w1 F1 hC hs hm)
  have HM1 := Lib.hid hm
  clear hC hs hm HG HMK
  go_wp2_with fail
  refine HX.out.mono ?_
  rintro e w2 ⟨v, fd2, ak2, L2, F2, rfl, hC2, hl2, hR⟩
  have HP := Lib.hid (ca_put hC2 k HK.out v HMM.out.1 HMM.out.2 hl2)
  have HR := Lib.hid hR
  clear hC2 hl2 hR HX
  go_wp2_with fail
  refine HP.out.mono ?_
  rintro e w3 ⟨rfl, hC3, hm3⟩
  have HC3 := Lib.hid hC3
  have HM3 := Lib.hid hm3
  clear hC3 hm3 HP
  go_wp2_with fail
  refine leaves_cons (f := 21) (args := #[]) (by simp) (by simp [go_sem]) ?_
  refine (of1_any w3).mono ?_
  rintro e u' w'' ⟨rfl, rfl, rfl⟩
  exact ⟨_, results_tmp rfl _ _ _, _, _, _, _, _, _, _, rfl, HM1.out, HR.out, HC3.out, HM3.out⟩
end Go.Proofs.Ytdiiechkhlbkcab

namespace Go.Proofs.Ytdiiechkhlbkcab
open Go.RowKit

def want : List UInt8 → Int
  | [] => 1
  | x :: l => (x.toNat : Int) + 3 * want l
theorem want_le : ∀ l : List UInt8, 1 ≤ want l + 0 ∧ want l ≤ 129 * 3 ^ l.length - 128
  | [] => by simp [want]
  | x :: l => by
    obtain ⟨h1, h2⟩ := want_le l
    have hx : x.toNat < 256 := x.toNat_lt
    simp only [want, List.length_cons, Int.pow_succ]
    omega
theorem want_12 (l : List UInt8) (h : l.length ≤ 12) : 1 ≤ want l ∧ want l ≤ 70000000 := by
  obtain ⟨h1, h2⟩ := want_le l
  have h3 : (3 : Nat) ^ l.length ≤ 3 ^ 12 := Nat.pow_le_pow_right (by omega) h
  have h4 : (3 : Nat) ^ 12 = 531441 := by rfl
  have h5 : ((3 ^ l.length : Nat) : Int) = (3 : Int) ^ l.length := by simp
  omega
theorem hasV_len : ∀ (k : List UInt8) (L : List KV), hasV k L = true → (dropK k L).length + 1 ≤ L.length
  | k, [], h => by simp [hasV] at h
  | k, x :: L, h => by
    unfold dropK
    by_cases e : x.1 = k
    · rw [List.filter_cons_of_neg (by simp [e])]
      have := List.length_filter_le (fun y : KV => y.1 != k) L
      simp only [List.length_cons]; omega
    · rw [List.filter_cons_of_pos (by simpa using e)]
      have h' : hasV k L = true := by
        unfold hasV at h ⊢
        rw [List.any_cons] at h
        have : (x.1 == k) = false := by simpa using e
        rw [this, Bool.false_or] at h; exact h
      have := hasV_len k L h'
      unfold dropK at this
      simp only [List.length_cons]; omega
def Good (L : List KV) : Prop := ∀ x ∈ L, x.2 = want x.1
theorem Good.drop {L : List KV} (h : Good L) (k : List UInt8) : Good (dropK k L) := fun x hx => h x (List.mem_filter.1 hx).1
theorem Good.cons {L : List KV} (h : Good L) (k : List UInt8) : Good ((k, want k) :: dropK k L) := by
  intro x hx
  rcases List.mem_cons.1 hx with rfl | hx
  · rfl
  · exact h.drop k x hx
theorem Good.take {L : List KV} (h : Good L) (n : Nat) : Good (L.take n) := fun x hx => h x (List.mem_of_mem_take hx)
theorem Good.get {L : List KV} (h : Good L) {k : List UInt8} (hk : hasV k L = true) : getV k L = want k := by
  unfold getV
  cases hf : L.find? fun x => x.1 == k with
  | none =>
    unfold hasV at hk
    obtain ⟨x, hx, e⟩ := List.any_eq_true.1 hk
    exact absurd e (by simpa using List.find?_eq_none.1 hf x hx)
  | some x =>
    have h1 := h x (List.mem_of_find?_eq_some hf)
    have h2 := List.find?_some hf
    have : x.1 = k := by simpa using h2
    rw [← this]; exact h1
abbrev fvA (pc po : Nat) : Value := .func (.func 18) #[] #[.pointer (some ⟨pc, 0, none⟩), .pointer (some ⟨po, 0, none⟩)]
/-- The cache, and the two variables that the function asks. -/
structure AS (w : World) (c pc po : Nat) (M B : Int) (F : List Nat) : Prop where
  ca : ∃ fd ak L, CA w c M fd ak L F ∧ Good L ∧ (L.length : Int) ≤ M ∧ 0 ≤ fd ∧ fd ≤ B ∧ 0 ≤ ak ∧ ak ≤ B
  c1 : w.cell? ⟨pc, 0, none⟩ = some (.pointer (some ⟨c, 0, none⟩))
  c2 : w.cell? ⟨po, 0, none⟩ = some (fvA pc po)
  n1 : pc ∉ F
  n2 : po ∉ F
theorem cell_lt {w : World} {i j : Nat} {v : Value} (h : w.cell? ⟨i, j, none⟩ = some v) : i < w.heap.size := by
  unfold World.cell? at h
  apply Nat.lt_of_not_le; intro hle
  rw [Array.getElem?_eq_none hle] at h
  simp at h
theorem AS.old {w w' : World} {c pc po : Nat} {M B : Int} {F : List Nat} (h : AS w c pc po M B F) (hb : Below w.heap.size w w') : AS w' c pc po M B F := by
  obtain ⟨fd, ak, L, hC, r⟩ := h.ca
  exact ⟨⟨fd, ak, L, hC.old hb, r⟩, (World.cell?_of_block (hb.block _ (cell_lt h.c1))).trans h.c1, (World.cell?_of_block (hb.block _ (cell_lt h.c2))).trans h.c2, h.n1, h.n2⟩
theorem AS.mono {w : World} {c pc po : Nat} {M B B' : Int} {F : List Nat} (h : AS w c pc po M B F) (hb : B ≤ B') : AS w c pc po M B' F := by
  obtain ⟨fd, ak, L, hC, hG, hl, h1, h2, h3, h4⟩ := h.ca
  exact ⟨⟨fd, ak, L, hC, hG, hl, h1, Int.le_trans h2 hb, h3, Int.le_trans h4 hb⟩, h.c1, h.c2, h.n1, h.n2⟩
/-- What a call leaves. -/
def AP (w w' : World) (c pc po : Nat) (M B : Int) (F : List Nat) : Prop := ∃ F', AS w' c pc po M B F' ∧ (∀ i ∈ F', i ∈ F ∨ w.heap.size ≤ i) ∧ Mod (fun i => i ∈ F) w w'
theorem AP.of {w w' : World} {c pc po : Nat} {M B B' : Int} {F F' : List Nat} {fd ak : Int} {L : List KV} (h : AS w c pc po M B F) (hC : CA w' c M fd ak L F') (hG : Good L) (hl : (L.length : Int) ≤ M) (h1 : 0 ≤ fd) (h2 : fd ≤ B') (h3 : 0 ≤ ak) (h4 : ak ≤ B') (hF : ∀ i ∈ F', i ∈ F ∨ w.heap.size ≤ i) (hm : Mod (fun i => i ∈ F) w w') : AP w w' c pc po M B' F := by
  have l1 := cell_lt h.c1
  have l2 := cell_lt h.c2
  refine ⟨F', ⟨⟨fd, ak, L, hC, hG, hl, h1, h2, h3, h4⟩, (World.cell?_of_block (hm.block _ l1 h.n1)).trans h.c1, (World.cell?_of_block (hm.block _ l2 h.n2)).trans h.c2, fun hi => ?_, fun hi => ?_⟩, hF, hm⟩
  · rcases hF _ hi with h' | h'
    · exact h.n1 h'
    · omega
  · rcases hF _ hi with h' | h'
    · exact h.n2 h'
    · omega
/-- Of, by a key that is asked for. -/
theorem of_as {w : World} {c pc po : Nat} {M B : Int} {F : List Nat} (h : AS w c pc po M B F) (hM : 1 ≤ M) (hM2 : M ≤ 2000) (hB : B ≤ 10000000) (k : List UInt8) (hk : k.length ≤ 12)
    (hcl : ∀ (w : World) (F : List Nat), AS w c pc po M (B + 1) F → Calls Try.prog 18 #[.string ⟨k.toArray⟩, .pointer (some ⟨pc, 0, none⟩), .pointer (some ⟨po, 0, none⟩)] w fun e w' => e = .returned (.int .i64 (want k)) ∧ AP w w' c pc po M (B + 1 + 20 * k.length) F) :
    Calls Try.prog 12 #[.pointer (some ⟨c, 0, none⟩), .string ⟨k.toArray⟩, fvA pc po] w fun e w' => e = .returned (.int .i64 (want k)) ∧ AP w w' c pc po M (B + 20 * k.length + 1) F := by
  obtain ⟨fd, ak, L, hC, hG, hl, h1, h2, h3, h4⟩ := h.ca
  cases hh : hasV k L with
  | true =>
    refine (ca_of_hit hC k (by simp [maxLen]; omega) h3 (by omega) h1 (by omega) _ hh).mono ?_
    rintro e w' ⟨rfl, ⟨F', hC', hs⟩, hm⟩
    rw [hG.get hh] at hC' ⊢
    have := hasV_len k L hh
    exact ⟨rfl, AP.of h hC' (hG.cons k) (by simp only [List.length_cons]; omega) (by omega) (by omega) (by omega) (by omega) (fun i hi => Or.inl (hs i hi)) hm⟩
  | false =>
    refine (ca_of_missA hC k (by omega) h3 (by omega) h1 (by omega) hM hM2 hh pc po (fun v fd2 ak2 L2 F2 _ w2 => v = want k ∧ Good L2 ∧ 0 ≤ fd2 ∧ fd2 ≤ B + 20 * k.length + 1 ∧ 0 ≤ ak2 ∧ ak2 ≤ B + 20 * k.length + 1 ∧ (∀ i ∈ F2, i ∈ F ∨ w.heap.size ≤ i) ∧ Mod (fun i => i ∈ F) w w2) ?_).mono ?_
    · intro w1 F1 hC1 hs1 hm1
      have hA1 : AS w1 c pc po M (B + 1) F1 := ⟨⟨fd, ak + 1, L, hC1, hG, hl, h1, by omega, by omega, by omega⟩, (World.cell?_of_block (hm1.block _ (cell_lt h.c1) h.n1)).trans h.c1, (World.cell?_of_block (hm1.block _ (cell_lt h.c2) h.n2)).trans h.c2, fun hi => h.n1 (hs1 _ hi), fun hi => h.n2 (hs1 _ hi)⟩
      refine (hcl w1 F1 hA1).mono ?_
      rintro e w2 ⟨rfl, F2, hA2, hs2, hm2⟩
      obtain ⟨fd2, ak2, L2, hC2, hG2, hl2, k1, k2, k3, k4⟩ := hA2.ca
      refine ⟨_, fd2, ak2, L2, F2, rfl, hC2, hl2, rfl, hG2, k1, by omega, k3, by omega, fun i hi => ?_, hm1.trans hm2 (fun i _ hi => hs1 i hi)⟩
      rcases hs2 i hi with h' | h'
      · exact Or.inl (hs1 i h')
      · exact Or.inr (Nat.le_trans hm1.size h')
    · rintro e w' ⟨v, fd2, ak2, L2, F2, w1, w2, rfl, hm1, ⟨rfl, hG2, k1, k2, k3, k4, hs2, hm2⟩, ⟨F', hC3, hs3⟩, hm3⟩
      refine ⟨rfl, AP.of h hC3 ((hG2.cons k).take _) (by rw [List.length_take]; omega) k1 k2 k3 k4 (fun i hi => ?_) (hm2.trans hm3 (fun i hi hi2 => ?_))⟩
      · rcases hs3 i hi with h' | h'
        · exact hs2 i h'
        · exact Or.inr (Nat.le_trans hm2.size h')
      · rcases hs2 i hi2 with h' | h'
        · exact h'
        · omega
end Go.Proofs.Ytdiiechkhlbkcab

namespace Go.Proofs.Ytdiiechkhlbkcab
open Go.RowKit

set_option maxRecDepth 20000 in
set_option maxHeartbeats 1000000 in
theorem clos_any (c pc po : Nat) (M : Int) (hM : 1 ≤ M) (hM2 : M ≤ 2000) : ∀ (k : List UInt8), k.length ≤ 12 → ∀ (w : World) (B : Int) (F : List Nat), B + 30 * k.length ≤ 10000000 → AS w c pc po M B F →
    Calls Try.prog 18 #[.string ⟨k.toArray⟩, .pointer (some ⟨pc, 0, none⟩), .pointer (some ⟨po, 0, none⟩)] w fun e w' => e = .returned (.int .i64 (want k)) ∧ AP w w' c pc po M (B + 20 * k.length) F
  | [], _, w, B, F, hB, h => by
    have HE : Hid (AP w w c pc po M (B + 20 * ([] : List UInt8).length) F) := Lib.hid (by
      obtain ⟨fd, ak, L, hC, hG, hl, h1, h2, h3, h4⟩ := h.ca
      exact AP.of h hC hG hl h1 (by simp; omega) h3 (by simp; omega) (fun i hi => Or.inl hi) (Mod.refl _ _))
    clear h hB
    go_enter Try.func18, Try.ntmps18
    go_wp2_with fail
    go_ret
    exact ⟨rfl, HE.out⟩
  | x0 :: tl, hk, w, B, F, hB, h => by
    have hk' : tl.length ≤ 12 := by simp only [List.length_cons] at hk; omega
    simp only [List.length_cons] at hB
    have hB9 : B + 1 + 30 * (tl.length : Int) ≤ 10000000 := by omega
    have hB8 : B ≤ 10000000 := by omega
    have HO : Hid (∀ w' : World, Below w.heap.size w w' → Calls Try.prog 12 #[.pointer (some ⟨c, 0, none⟩), .string ⟨tl.toArray⟩, fvA pc po] w' fun e w2 => e = .returned (.int .i64 (want tl)) ∧ AP w w2 c pc po M (B + 20 * tl.length + 1) F) := Lib.hid (by
      intro w' hb
      refine (of_as (h.old hb) hM hM2 (by omega) tl hk' (fun w1 F1 h1 => clos_any c pc po M hM hM2 tl hk' w1 (B + 1) F1 (by omega) h1)).mono ?_
      · rintro e w2 ⟨rfl, F', hA, hs, hm⟩
        exact ⟨rfl, F', hA, fun i hi => (hs i hi).imp id (fun h => Nat.le_trans hb.size h), (Mod.of_below hb |>.mono (T := fun i => i ∈ F) (fun i hi h => absurd hi (by omega))).trans hm (fun _ _ h => h)⟩)
    have HP : Hid (∀ w' : World, Below w.heap.size w w' → w'.cell? ⟨pc, 0, none⟩ = some (.pointer (some ⟨c, 0, none⟩)) ∧ w'.cell? ⟨po, 0, none⟩ = some (fvA pc po)) := Lib.hid (fun w' hb => ⟨(h.old hb).c1, (h.old hb).c2⟩)
    have hwt := want_12 tl hk'
    obtain ⟨T, hT⟩ : ∃ T, T = want tl := ⟨_, rfl⟩
    obtain ⟨T3, hT3⟩ : ∃ T3, T3 = 3 * T := ⟨_, rfl⟩
    have hxb : x0.toNat < 256 := x0.toNat_lt
    rw [← hT] at hwt HO
    have hw3 : IntKind.i64.wrap (3 * T) = T3 := by rw [hT3, IntKind.wrap_i64]; omega
    have hW : want (x0 :: tl) = (x0.toNat : Int) + T3 := by rw [hT3, hT]; rfl
    have hw4 : IntKind.i64.wrap ((x0.toNat : Int) + T3) = want (x0 :: tl) := by rw [hW, hT3, IntKind.wrap_i64]; omega
    have hx9 : IntKind.i64.wrap (x0.toNat : Int) = (x0.toNat : Int) := by rw [IntKind.wrap_i64]; omega
    have hl1 : 1 ≤ (tl.length : Int) + 1 := by omega
    have hx12 : (⟨(x0 :: tl).toArray⟩ : ByteArray).extract 1 (tl.length + 1) = ⟨tl.toArray⟩ := by
      apply ByteArray.ext
      simp
    clear hB hB8 hB9 h hk hk' hwt hT hT3 hW hxb
    go_enter Try.func18, Try.ntmps18
    go_wp2_with fail
    have HG0 : Hid ((fun (j : Nat) (_ : Value) (w' : World) => (j = 0 → Below w.heap.size w w') ∧ (j = 1 → AP w w' c pc po M (B + 20 * tl.length + 1) F)) 0 undef w.drew) := Lib.hid ⟨(fun _ => (Below.refl _ w).drew), (fun h => absurd h (by omega))⟩
    refine CV.wp_region_chain (fun t v => match t with
      | 7 => v = .string ⟨(x0 :: tl).toArray⟩
      | 8 => v = .int .u8 (x0.toNat : Int)
      | 9 => v = .int .i64 (x0.toNat : Int)
      | 10 => v = .pointer (some ⟨c, 0, none⟩)
      | 11 => v = .string ⟨(x0 :: tl).toArray⟩
      | 12 => v = .string ⟨tl.toArray⟩
      | 13 => v = fvA pc po
      | 14 => v = .int .i64 T
      | 15 => v = .int .i64 T3
      | 16 => v = .int .i64 (want (x0 :: tl))
      | 4 => v = .int .i64 (want (x0 :: tl))
      | _ => True) (fun (j : Nat) (_ : Value) (w' : World) => (j = 0 → Below w.heap.size w w') ∧ (j = 1 → AP w w' c pc po M (B + 20 * tl.length + 1) F)) [7] 17 (by kernel_rfl) (by decide +kernel) rfl (by decide +kernel) (by decide) (by decide) HG0.out (by
      refine OweAllC.cons (owesC_val 1 (by decide +kernel) (by decide) rfl rfl fun k' a w1 x hk ha hG hV => ?_) ?_
      · skip
        have h0 := ha.outer 0 (by decide +kernel)
        simp only [Act.eval] at h0
        exact ⟨.string ⟨(x0 :: tl).toArray⟩, wanted_free rfl, by simp [execOp, go_sem, h0], rfl⟩
      refine OweAllC.cons (owesC_val 1 (by decide +kernel) (by decide) rfl rfl fun k' a w1 x hk ha hG hV => ?_) ?_
      · skip
        have h7 : a.tmps.getD 7 undef = .string ⟨(x0 :: tl).toArray⟩ := hV.get 7 (by decide +kernel)
        exact ⟨.int .u8 (x0.toNat : Int), wanted_free rfl, by simp [execOp, go_sem, h7]; rfl, rfl⟩
      refine OweAllC.cons (owesC_val 1 (by decide +kernel) (by decide) rfl rfl fun k' a w1 x hk ha hG hV => ?_) ?_
      · skip
        have h8 : a.tmps.getD 8 undef = .int .u8 (x0.toNat : Int) := hV.get 8 (by decide +kernel)
        exact ⟨.int .i64 (x0.toNat : Int), wanted_free rfl, by simp [execOp, go_sem, h8, hx9], rfl⟩
      refine OweAllC.cons (owesC_val 0 (by decide +kernel) (by decide) rfl rfl fun k' a w1 x hk ha hG hV => ?_) ?_
      · skip
        have h1 := ha.outer 1 (by decide +kernel)
        simp only [Act.eval] at h1
        have cc := HP.out w1 (hG.1 (by omega))
        exact ⟨.pointer (some ⟨c, 0, none⟩), wanted_free rfl, by simp [execOp, go_sem, h1, cc.1], rfl⟩
      refine OweAllC.cons (owesC_val 0 (by decide +kernel) (by decide) rfl rfl fun k' a w1 x hk ha hG hV => ?_) ?_
      · skip
        have h0 := ha.outer 0 (by decide +kernel)
        simp only [Act.eval] at h0
        exact ⟨.string ⟨(x0 :: tl).toArray⟩, wanted_free rfl, by simp [execOp, go_sem, h0], rfl⟩
      refine OweAllC.cons (owesC_val 0 (by decide +kernel) (by decide) rfl rfl fun k' a w1 x hk ha hG hV => ?_) ?_
      · skip
        have h11 : a.tmps.getD 11 undef = .string ⟨(x0 :: tl).toArray⟩ := hV.get 11 (by decide +kernel)
        exact ⟨.string ⟨tl.toArray⟩, wanted_free rfl, by simp [execOp, go_sem, h11, hl1, hx12], rfl⟩
      refine OweAllC.cons (owesC_val 0 (by decide +kernel) (by decide) rfl rfl fun k' a w1 x hk ha hG hV => ?_) ?_
      · skip
        have h2 := ha.outer 2 (by decide +kernel)
        simp only [Act.eval] at h2
        have cc := HP.out w1 (hG.1 (by omega))
        exact ⟨fvA pc po, wanted_free rfl, by simp [execOp, go_sem, h2, cc.2], rfl⟩
      refine OweAllC.cons (owesC_call 0 rfl rfl rfl 12 fun a w1 x ha hG hx hV => ?_) ?_
      · skip
        have h10 : a.tmps.getD 10 undef = .pointer (some ⟨c, 0, none⟩) := hV.get 10 (by decide +kernel)
        have h12 : a.tmps.getD 12 undef = .string ⟨tl.toArray⟩ := hV.get 12 (by decide +kernel)
        have h13 : a.tmps.getD 13 undef = fvA pc po := hV.get 13 (by decide +kernel)
        refine ⟨#[.pointer (some ⟨c, 0, none⟩), .string ⟨tl.toArray⟩, fvA pc po], wanted_free rfl, by simp [go_sem, h10, h12, h13], ?_⟩
        refine (HO.out w1 (hG.1 rfl)).mono ?_
        rintro e u2 ⟨rfl, hA⟩
        exact ⟨_, rfl, rfl, (fun h => absurd h (by omega)), fun _ => hA⟩
      refine OweAllC.cons (owesC_val 1 (by decide +kernel) (by decide) rfl rfl fun k' a w1 x hk ha hG hV => ?_) ?_
      · skip
        have h14 : a.tmps.getD 14 undef = .int .i64 T := hV.get 14 (by decide +kernel)
        exact ⟨.int .i64 T3, wanted_free rfl, by simp [execOp, go_sem, h14, hw3], rfl⟩
      refine OweAllC.cons (owesC_val 1 (by decide +kernel) (by decide) rfl rfl fun k' a w1 x hk ha hG hV => ?_) ?_
      · skip
        have h9 : a.tmps.getD 9 undef = .int .i64 (x0.toNat : Int) := hV.get 9 (by decide +kernel)
        have h15 : a.tmps.getD 15 undef = .int .i64 T3 := hV.get 15 (by decide +kernel)
        exact ⟨.int .i64 (want (x0 :: tl)), wanted_free rfl, by simp [execOp, go_sem, h9, h15, hw4], rfl⟩
      refine OweAllC.cons (owesC_val 1 (by decide +kernel) (by decide) rfl rfl fun k' a w1 x hk ha hG hV => ?_) ?_
      · skip
        have h16 : a.tmps.getD 16 undef = .int .i64 (want (x0 :: tl)) := hV.get 16 (by decide +kernel)
        exact ⟨.int .i64 (want (x0 :: tl)), wanted_free rfl, by simp [execOp, go_sem, h16], rfl⟩
      exact OweAllC.nil
      ) ?_
    intro f wz xz hG hx hv
    have e4 : f 4 = .int .i64 (want (x0 :: tl)) := hv 10 _ 4 rfl rfl
    first | (rename_i hK; refine hK _ _ ?_; clear hK) | (rename_i hK _; refine hK _ _ ?_; clear hK) | (rename_i hK _ _; refine hK _ _ ?_; clear hK) | (rename_i hK _ _ _; refine hK _ _ ?_; clear hK)
    clear hv hx
    simp only [dsts, puts, List.filterMap_cons, List.filterMap_nil, List.foldl_cons, List.foldl_nil, Act.put, List.setIfInBounds_toArray, List.set_cons_succ, List.set_cons_zero, e4]
    clear e4
    have HE := Lib.hid (hG.2 rfl)
    clear hG
    go_wp2_with fail
    go_ret
    obtain ⟨F', hA, hs, hm⟩ := HE.out
    exact ⟨rfl, F', hA.mono (by omega), hs, hm⟩
end Go.Proofs.Ytdiiechkhlbkcab

namespace Go.Proofs.Ytdiiechkhlbkcab
open Go.RowKit

set_option maxRecDepth 20000 in
theorem awake12_any (w : World) : Calls Try.prog 6 #[] w fun e w' => e = .returned (.bool true) ∧ Below w.heap.size w w' := by
  go_enter Try.func6, Try.ntmps6
  go_wp2_with fail
  refine (ca_new 2 w).mono ?_
  rintro e w1 ⟨c, F1, rfl, hC, hf, hb⟩
  have hP := ca_put hC [97] (by simp) 1 (by decide) (by decide) (by decide)
  have HP := Lib.hid hP
  have HB1 := Lib.hid hb
  have HF1 := Lib.hid hf
  clear hC hP hb hf
  go_wp2_with fail
  refine HP.out.mono ?_
  rintro e w2 ⟨rfl, ⟨F2, hC, hf⟩, hm⟩
  have hP := ca_put hC [98] (by simp) 2 (by decide) (by decide) (by decide)
  have HP2 := Lib.hid hP
  have HM2 := Lib.hid hm
  have HF2 := Lib.hid hf
  clear hC hP hm hf HP
  go_wp2_with fail
  refine HP2.out.mono ?_
  rintro e w3 ⟨rfl, ⟨F3, hC, hf⟩, hm⟩
  have hP := ca_get hC [97] (by decide) (by decide) (by decide) (by decide) (by decide)
  have HP3 : Hid (Calls Try.prog 11 #[.pointer (some ⟨c, 0, none⟩), .string ⟨#[97]⟩] w3 fun e w' => e = .returned (.tuple #[.int .i64 1, .bool true]) ∧ (∃ F', CA w' c 2 1 1 [([97], 1), ([98], 2)] F' ∧ (∀ i ∈ F', i ∈ F3)) ∧ Mod (fun i => i ∈ F3) w3 w') := Lib.hid hP
  have HM3 := Lib.hid hm
  have HF3 := Lib.hid hf
  clear hC hP hm hf HP2
  go_wp2_with fail
  refine HP3.out.mono ?_
  rintro e w4 ⟨rfl, ⟨F4, hC, hf⟩, hm⟩
  have hP := ca_put hC [99] (by simp) 3 (by decide) (by decide) (by decide)
  have HP4 := Lib.hid hP
  have HM4 := Lib.hid hm
  have HF4 := Lib.hid hf
  clear hC hP hm hf HP3
  go_wp2_with fail
  refine HP4.out.mono ?_
  rintro e w5 ⟨rfl, ⟨F5, hC, hf⟩, hm⟩
  have hP := ca_get hC [98] (by decide) (by decide) (by decide) (by decide) (by decide)
  have HP5 : Hid (Calls Try.prog 11 #[.pointer (some ⟨c, 0, none⟩), .string ⟨#[98]⟩] w5 fun e w' => e = .returned (.tuple #[.int .i64 0, .bool false]) ∧ (∃ F', CA w' c 2 1 2 [([99], 3), ([97], 1)] F' ∧ (∀ i ∈ F', i ∈ F5)) ∧ Mod (fun i => i ∈ F5) w5 w') := Lib.hid hP
  have HM5 := Lib.hid hm
  have HF5 := Lib.hid hf
  clear hC hP hm hf HP4
  go_wp2_with fail
  refine HP5.out.mono ?_
  rintro e w6 ⟨rfl, ⟨F6, hC, hf⟩, hm⟩
  have hP := ca_len hC
  have HP6 : Hid (Calls Try.prog 17 #[.pointer (some ⟨c, 0, none⟩)] w6 fun e w' => e = .returned (.int .i64 2) ∧ w' = w6) := Lib.hid hP
  have HM6 := Lib.hid hm
  clear hC hP hm hf HP5
  go_wp2_with fail
  refine HP6.out.mono ?_
  rintro e w7 ⟨rfl, hw⟩
  have HW := Lib.hid hw
  clear hw HP6
  go_wp2_with fail
  go_ret
  have g2 : ∀ i ∈ F2, w.heap.size ≤ i := fun i hi => (HF2.out i hi).elim (fun h => HF1.out i h) (fun h => Nat.le_trans HB1.out.size h)
  have g3 : ∀ i ∈ F3, w.heap.size ≤ i := fun i hi => (HF3.out i hi).elim (fun h => g2 i h) (fun h => Nat.le_trans HB1.out.size (Nat.le_trans HM2.out.size h))
  have g4 : ∀ i ∈ F4, w.heap.size ≤ i := fun i hi => g3 i (HF4.out i hi)
  have g5 : ∀ i ∈ F5, w.heap.size ≤ i := fun i hi => (HF5.out i hi).elim (fun h => g4 i h) (fun h => Nat.le_trans HB1.out.size (Nat.le_trans HM2.out.size (Nat.le_trans HM3.out.size (Nat.le_trans HM4.out.size h))))
  have bb : ∀ {a b : World} {F : List Nat}, (∀ i ∈ F, w.heap.size ≤ i) → w.heap.size ≤ a.heap.size → Mod (fun i => i ∈ F) a b → Below w.heap.size a b := fun hF hs hm => hm.to_below hs (fun i hi h => absurd (hF i h) (by omega))
  have s1 := HB1.out.size
  have b2 := HB1.out.trans (bb HF1.out s1 HM2.out)
  have b3 := b2.trans (bb g2 b2.size HM3.out)
  have b4 := b3.trans (bb g3 b3.size HM4.out)
  have b5 := b4.trans (bb g4 b4.size HM5.out)
  have b6 := b5.trans (bb g5 b5.size HM6.out)
  rw [HW.out]
  exact ⟨rfl, b6⟩
end Go.Proofs.Ytdiiechkhlbkcab

namespace Go.Proofs.Ytdiiechkhlbkcab
open Go.RowKit

/-- How an element lies in memory: k cells. -/
structure Enc (α : Type) where
  f : α → List Value
  k : Nat
  len : ∀ x, (f x).length = k
  one : ∀ x, ∀ v ∈ f x, v.oneCell' = true
  pos : 0 < k

section
variable {α : Type} (E : Enc α)
def Enc.all (L : List α) : List Value := L.flatMap E.f
theorem Enc.all_nil : E.all [] = [] := rfl
theorem Enc.all_app (A B : List α) : E.all (A ++ B) = E.all A ++ E.all B := by simp [Enc.all]
theorem Enc.all_len (L : List α) : (E.all L).length = L.length * E.k := by
  induction L with
  | nil => simp [Enc.all]
  | cons x l ih => rw [show x :: l = [x] ++ l from rfl, E.all_app, List.length_append, ih]; simp [Enc.all, E.len, Nat.add_mul]; omega
theorem Enc.all_one (L : List α) : ∀ v ∈ E.all L, v.oneCell' = true := by
  intro v hv
  obtain ⟨x, _, h⟩ := List.mem_flatMap.1 hv
  exact E.one x v h
theorem Enc.all_get (L : List α) (j i : Nat) (hj : j < L.length) (hi : i < E.k) : (E.all L)[j * E.k + i]? = (E.f L[j])[i]? := by
  induction L generalizing j with
  | nil => simp at hj
  | cons x l ih =>
    rw [show E.all (x :: l) = E.f x ++ E.all l by simp [Enc.all]]
    cases j with
    | zero => rw [Nat.zero_mul, Nat.zero_add, List.getElem?_append_left (by rw [E.len]; exact hi)]; rfl
    | succ j =>
      rw [List.getElem?_append_right (by rw [E.len, Nat.add_mul]; omega), E.len, show (j + 1) * E.k + i - E.k = j * E.k + i by rw [Nat.add_mul]; omega, ih j (by simpa using hj)]
      rfl

/-- The slice at p holds L from its block's head on; nil holds none. -/
def Rw (T : TypeId) (w : World) (p : Option Addr) (cap : Nat) (L : List α) : Prop := w.ownsRow 0 T E.k (.slice p L.length cap) L.length (E.all L)
/-- L is read at ao. -/
def Rd (w : World) (ao : Option Addr) (L : List α) : Prop :=
  ∀ j (h : j < L.length), ∃ bs off, ao = some ⟨bs, off, none⟩ ∧ bs < w.heap.size ∧ ∀ i u, (E.f L[j])[i]? = some u → w.cell? ⟨bs, off + j * E.k + i, none⟩ = some u

variable {E}
theorem Rd.old {w w' : World} {ao : Option Addr} {L : List α} (h : Rd E w ao L) (hb : Below w.heap.size w w') : Rd E w' ao L := by
  intro j hj
  obtain ⟨bs, off, e, hlt, hc⟩ := h j hj
  exact ⟨bs, off, e, Nat.lt_of_lt_of_le hlt hb.size, fun i u hu => (World.cell?_of_block (hb.block bs hlt)).trans (hc i u hu)⟩
theorem Rd.nil (w : World) (ao : Option Addr) : Rd E w ao [] := fun j hj => by simp at hj
theorem Rd.take {w : World} {ao : Option Addr} {L : List α} (h : Rd E w ao L) (n : Nat) : Rd E w ao (L.take n) := by
  intro j hj
  have hj2 : j < L.length := by rw [List.length_take] at hj; omega
  obtain ⟨bs, off, e, hlt, c1⟩ := h j hj2
  refine ⟨bs, off, e, hlt, ?_⟩
  rw [List.getElem_take]; exact c1
theorem Rw.shape {T : TypeId} {w : World} {p : Option Addr} {cap : Nat} {L : List α} (h : Rw E T w p cap L) :
    (p = none ∧ L = [] ∧ cap = 0) ∨ ∃ g, p = some ⟨g, 0, none⟩ ∧ g < w.heap.size ∧ L.length ≤ cap ∧ cap ≤ maxLen ∧ ∃ cur : Array Value, w.heap[g]? = some (.cells cur T (0, 0)) ∧ cur.size = cap * E.k ∧ cur.toList.take (L.length * E.k) = E.all L := by
  rcases h.2 with ⟨e, h0⟩ | ⟨g, cap', cur, e, _, hh, h1, h2, h3, h4⟩
  · simp only [Value.slice.injEq] at e
    exact .inl ⟨e.1, List.eq_nil_of_length_eq_zero h0, e.2.2⟩
  · simp only [Value.slice.injEq] at e
    obtain ⟨rfl, _, rfl⟩ := e
    exact .inr ⟨g, rfl, (Array.getElem?_eq_some_iff.1 hh).1, h1, h2, cur, hh, h3, h4⟩
theorem Rw.of_row {T : TypeId} {w : World} {g cap : Nat} {L : List α} {cur : Array Value} (hh : w.heap[g]? = some (.cells cur T (0, 0))) (h1 : L.length ≤ cap) (h2 : cap ≤ maxLen) (h3 : cur.size = cap * E.k) (h4 : cur.toList.take (L.length * E.k) = E.all L) :
    Rw E T w (some ⟨g, 0, none⟩) cap L := ⟨by rw [E.all_len], .inr ⟨g, cap, cur, rfl, Nat.zero_le _, hh, h1, h2, h3, h4⟩⟩
theorem Rw.empty (T : TypeId) (w : World) : Rw E T w none 0 ([] : List α) := World.ownsRow_nil _ _ _ _
theorem Rw.cap_le {T : TypeId} {w : World} {p : Option Addr} {cap : Nat} {L : List α} (h : Rw E T w p cap L) : L.length ≤ cap := by
  rcases h.shape with ⟨_, rfl, _⟩ | ⟨g, _, _, hc, _⟩
  · exact Nat.zero_le _
  · exact hc
theorem Rw.made (T : TypeId) (w : World) (L : List α) (hl : L.length ≤ maxLen) : Rw E T (w.alloc (.cells (E.all L).toArray T)) (some ⟨w.heap.size, 0, none⟩) L.length L :=
  Rw.of_row (heap_alloc_new _ _) (Nat.le_refl _) hl (by rw [List.size_toArray, E.all_len]) (by rw [List.take_of_length_le (by simp [E.all_len])])
theorem Rw.lt {T : TypeId} {w : World} {a : Addr} {cap : Nat} {L : List α} (h : Rw E T w (some a) cap L) : a.block < w.heap.size := by
  rcases h.shape with ⟨e, _⟩ | ⟨g, e, hl, _⟩
  · cases e
  · cases e; exact hl
theorem Rw.kept {T : TypeId} {w w' : World} {p : Option Addr} {cap : Nat} {L : List α} {S : Nat → Prop} (h : Rw E T w p cap L) (hm : Mod S w w') (hp : ∀ a, p = some a → ¬ S a.block) : Rw E T w' p cap L := by
  rcases h.shape with ⟨rfl, rfl, rfl⟩ | ⟨g, rfl, hl, h1, h2, cur, hh, h3, h4⟩
  · exact Rw.empty _ _
  · exact Rw.of_row ((hm.block g hl (hp _ rfl)).trans hh) h1 h2 h3 h4
theorem Rw.old {T : TypeId} {w w' : World} {p : Option Addr} {cap : Nat} {L : List α} (h : Rw E T w p cap L) (hb : Below w.heap.size w w') : Rw E T w' p cap L :=
  h.kept (Mod.of_below hb) (fun a e hs => by subst e; exact Nat.lt_irrefl _ (Nat.lt_of_lt_of_le h.lt hs))
theorem Rw.rd {T : TypeId} {w : World} {p : Option Addr} {cap : Nat} {L : List α} (h : Rw E T w p cap L) : Rd E w p L := by
  intro j hj
  rcases h.shape with ⟨rfl, rfl, rfl⟩ | ⟨g, rfl, hl, h1, h2, cur, hh, h3, h4⟩
  · simp at hj
  · refine ⟨g, 0, rfl, hl, fun i u hu => ?_⟩
    have hi : i < E.k := by have := (List.getElem?_eq_some_iff.1 hu).1; rwa [E.len] at this
    rw [← E.all_get L j i hj hi, ← h4] at hu
    have hlt : j * E.k + i < L.length * E.k := by
      have := Nat.mul_le_mul_right E.k (show j + 1 ≤ L.length by omega); rw [Nat.add_mul] at this; omega
    rw [List.getElem?_take_of_lt hlt] at hu
    rw [cell_of_row w g _ _ T (0, 0) hh, Nat.zero_add]
    simpa using hu
/-- Behind an append: the slice holds more, in its own block or in a new one. -/
def PushR (E : Enc α) (T : TypeId) (w : World) (p : Option Addr) (B : List α) (q : Option Addr) (cap : Nat) (w' : World) : Prop :=
  Rw E T w' q cap B ∧ Mod (fun i => ∃ a, p = some a ∧ i = a.block) w w' ∧ ∀ a, q = some a → p = some a ∨ w.heap.size ≤ a.block
theorem run_append_no {P : Program} {w : World} (t ty e : TypeId) (i : TypeInfo) (ht : P.underlying t = some (.slice e)) (hi : P.info? e = some i)
    (p : Option Addr) (n cap : Nat) (hle : n ≤ cap) (hn : p = none → n = 0 ∧ cap = 0) (q : Option Addr) (c : Nat) :
    (Builtin.append_ #[t, t] ty #[.slice p n cap, .slice q 0 c]).run P w = .ok (.slice p n cap) w := by
  cases p with
  | some a => cases q <;> simp [Builtin.append_, run_underlying ht, sizeOf, typeInfo, hi, Builtin.lenOf, Builtin.firstCells, hle, storeCells, loadCells, loadCellsFrom]
  | none =>
    obtain ⟨rfl, rfl⟩ := hn rfl
    cases q <;> simp [Builtin.append_, run_underlying ht, sizeOf, typeInfo, hi, Builtin.lenOf, Builtin.firstCells, loadCells, loadCellsFrom]
theorem wpList_pushR {P : Program} {ops : Array Oper} {rest : List Oper} {o : Oper} {a : Act} {Q : Exit → Act → World → Prop} {w : World} (E : Enc α) (hgd : o.guard = none) (s x : Operand) (Ts T : TypeId) (z : Value) (by_ : Nat)
    (ho : o.op = .call { callee := .builtin .append, args := #[s, x], argTypes := #[Ts, Ts] }) (hT : P.underlying Ts = some (.slice T)) (hi : (P.info? T).map (fun i => (i.zero, i.size, i.bytes)) = some (some z, E.k, by_)) (hzs : z.cells.size = E.k) (hby : by_ ≤ 1024)
    (p : Option Addr) (cap n : Nat) (L : List α) (hn : L.length = n) (hs : a.eval s = .slice p n cap) (hS : Rw E T w p cap L) (ao : Option Addr) (m cx : Nat) (Y : List α) (hm : Y.length = m) (hx : a.eval x = .slice ao m cx) (hY : Rd E w ao Y) (hl : n + m ≤ 100000000000)
    (h : ∀ q c w', PushR E T w p (L ++ Y) q c w' → wpList P ops Q rest (a.put o.dst (.slice q (n + m) c)) w') :
    wpList P ops Q (o :: rest) a w := by
  cases hq : P.info? T with
  | none => rw [hq] at hi; cases hi
  | some i =>
    rw [hq] at hi
    simp only [Option.map_some, Option.some.injEq, Prod.mk.injEq] at hi
    obtain ⟨hz, h1, h2⟩ := hi
    subst hn
    subst hm
    have hmul : (L.length + Y.length) * by_ ≤ 140737488355328 := Nat.le_trans (Nat.mul_le_mul hl hby) (by decide)
    by_cases h0 : 0 < Y.length
    · obtain ⟨bs, off, rfl, hbs, _⟩ := hY 0 h0
      refine wpList_append_lies _ hgd s x Ts ho 0 T i z E.k by_ hT hq hz h1 h2 hzs E.pos _ L.length (E.all L) hs hS ⟨bs, off, none⟩ Y.length cx (E.all Y) hx (E.all_len Y) ?_ (E.all_one _) h0 (by unfold maxLen; omega) hmul (Nat.zero_le _) _ rfl ?_
      · intro j u hj
        have hjl : j < Y.length * E.k := by
          have := (List.getElem?_eq_some_iff.1 hj).1
          rwa [E.all_len] at this
        have hd : j / E.k < Y.length := by rw [Nat.div_lt_iff_lt_mul E.pos]; exact hjl
        have hr : j % E.k < E.k := Nat.mod_lt _ E.pos
        have he : j / E.k * E.k + j % E.k = j := by rw [Nat.mul_comm]; exact Nat.div_add_mod j E.k
        obtain ⟨bs', off', e, _, c1⟩ := hY (j / E.k) hd
        cases e
        have hadd : (⟨bs, off, none⟩ : Addr).add j = ⟨bs, off + j, none⟩ := by unfold Addr.add; split <;> simp_all
        rw [← he, E.all_get Y _ _ hd hr] at hj
        have := c1 _ _ hj
        rw [Nat.add_assoc, he] at this
        rw [hadd, this]
      · intro g c w' hown hgrow hat _
        refine h (some ⟨g, 0, none⟩) c w' ⟨?_, ?_, ?_⟩
        · unfold Rw; rw [List.length_append, E.all_app]; exact hown
        · refine (Mod.refl _ w).grown hgrow ?_
          intro j hj _
          cases p with
          | none => simp [Value.ownBlock] at hj
          | some a => simp [Value.ownBlock] at hj; exact ⟨a, rfl, hj.symm⟩
        · rintro a' e; cases e
          rcases hat with hat | hat
          · left
            rcases hS.shape with ⟨rfl, _⟩ | ⟨g', rfl, _⟩
            · simp [Value.ownBlock] at hat
            · simp [Value.ownBlock] at hat; subst hat; rfl
          · right; rw [hat]; exact Nat.le_refl _
    · obtain rfl : Y = [] := List.eq_nil_of_length_eq_zero (by omega)
      refine wpList_plain hgd fun K hK => ?_
      have hfin := h p cap w ⟨by rw [List.append_nil]; exact hS, Mod.refl _ w, fun a e => .inl e⟩
      have hle : L.length ≤ cap := hS.cap_le
      have hno : p = none → L.length = 0 ∧ cap = 0 := by
        intro e
        rcases hS.shape with ⟨_, rfl, hc⟩ | ⟨g', e', _⟩
        · exact ⟨rfl, hc⟩
        · rw [e] at e'; cases e'
      have hrun := run_append_no (P := P) (w := w) Ts o.type T i hT hq p L.length cap hle hno ao cx
      unfold Oper.wp
      simp only [List.length_nil] at hx
      simp [execOp, ho, resolve, invoke, builtin, hs, hx, hrun, Result.andThen]
      simp at hfin
      exact hK _ _ hfin
/-- Elements are gathered in a row of its own. -/
structure AccR (E : Enc α) (T : TypeId) (w : World) (i : Nat) (D : List α) (q : Option Addr) (c : Nat) (wr : World) : Prop where
  s : Rw E T wr q c D
  len : D.length = i
  new : ∀ a, q = some a → w.heap.size ≤ a.block
  m : Below w.heap.size w wr
theorem AccR.zero (E : Enc α) (T : TypeId) (w : World) : AccR E T w 0 [] none 0 w := ⟨Rw.empty _ _, rfl, (fun a e => by cases e), Below.refl _ _⟩
theorem AccR.push {T : TypeId} {w : World} {i : Nat} {D : List α} {q : Option Addr} {c : Nat} {wr w' : World} (h : AccR E T w i D q c wr) {Y : List α} {q' : Option Addr} {c' : Nat} (hP : PushR E T wr q (D ++ Y) q' c' w') : AccR E T w (i + Y.length) (D ++ Y) q' c' w' := by
  obtain ⟨hS, hm, hor⟩ := hP
  refine ⟨hS, by rw [List.length_append, h.len], ?_, h.m.trans (hm.to_below h.m.size (by rintro j hj ⟨a, e, rfl⟩; have := h.new a e; omega))⟩
  intro a e
  rcases hor a e with h1 | h1
  · exact h.new _ h1
  · exact Nat.le_trans h.m.size h1
theorem AccR.below {T : TypeId} {w : World} {i : Nat} {D : List α} {q : Option Addr} {c : Nat} {wr w' : World} (h : AccR E T w i D q c wr) (hb : Below wr.heap.size wr w') : AccR E T w i D q c w' :=
  ⟨h.s.old hb, h.len, h.new, h.m.trans (hb.mono h.m.size)⟩
theorem AccR.take {T : TypeId} {w : World} {i : Nat} {D : List α} {q : Option Addr} {c : Nat} {wr : World} (h : AccR E T w i D q c wr) : Rd E wr q D := h.s.rd
end
/-- Elements that were just laid. -/
theorem Rd.made {α : Type} (E : Enc α) (w : World) (T : TypeId) (L : List α) (hl : L.length ≤ maxLen) : Rd E (w.alloc (.cells (E.all L).toArray T)) (some ⟨w.heap.size, 0, none⟩) L := (Rw.made (E := E) T w L hl).rd

/-- Texts. -/
def encS : Enc (List UInt8) := ⟨fun s => [.string ⟨s.toArray⟩], 1, fun _ => rfl, fun _ v hv => by rw [List.mem_singleton.1 hv]; rfl, Nat.one_pos⟩
/-- Ints. -/
def encI : Enc Int := ⟨fun x => [.int .i64 x], 1, fun _ => rfl, fun _ v hv => by rw [List.mem_singleton.1 hv]; rfl, Nat.one_pos⟩
theorem encS_all (ss : List (List UInt8)) : encS.all ss = ss.map fun s => Value.string ⟨s.toArray⟩ := by
  induction ss with
  | nil => rfl
  | cons a l ih => rw [show encS.all (a :: l) = encS.f a ++ encS.all l from rfl, ih]; rfl
theorem Rd.str {w : World} {ao : Option Addr} {L : List (List UInt8)} (h : Rd encS w ao L) (j : Nat) (hj : j < L.length) : ∃ bs off, ao = some ⟨bs, off, none⟩ ∧ bs < w.heap.size ∧ w.cell? ⟨bs, off + j, none⟩ = some (.string ⟨(L[j]).toArray⟩) := by
  obtain ⟨bs, off, e, hlt, hc⟩ := h j hj
  exact ⟨bs, off, e, hlt, by have := hc 0 _ rfl; simpa [encS] using this⟩
end Go.Proofs.Ytdiiechkhlbkcab

namespace Go.Proofs.Ytdiiechkhlbkcab
open Go.ChangeShapes Go.WideShapes Go.ChangeAt Go.RowKit Go.Deep

theorem cell_block {w : World} {a : Addr} {v : Value} (h : w.cell? a = some v) : a.block < w.heap.size := by
  unfold World.cell? at h
  apply Nat.lt_of_not_le; intro hle
  rw [Array.getElem?_eq_none hle] at h
  simp at h

set_option maxRecDepth 20000 in
theorem open_texts {H : Type} {enc : TypeId × Value → H} {W : World} {base : Nat} {v : Value} {d : DataW H} {ps : List MemPlace} (hval : Value.okWide Try.prog W .any base 39 v) (h : DataW.Trod enc Try.prog W 0 (fun _ => true) true 39 v d ps) :
    ∃ ao cap L, v = .slice ao L.length cap ∧ Rd encS W ao L ∧ (∀ s ∈ L, (s.length : Int) ≤ 9223372036854775807) ∧ L.length ≤ 9223372036854775807 ∧ L.length ≤ cap := by
  obtain ⟨a, len, cap, rfl⟩ := okWide_slice Try.underlying39 hval
  obtain ⟨fuel, hf⟩ := h
  rcases open_strings Try.underlying39 Try.underlying9 (by kernel_rfl) hf with ⟨hc, _⟩ | ⟨a', len', cap', ss, hc, _, hl, hm, hss, _, hcell, hsz⟩
  · have hc2 : [Value.slice a len cap] = [Value.slice none 0 0] := hc
    simp only [List.cons.injEq, Value.slice.injEq, and_true] at hc2
    obtain ⟨rfl, rfl, rfl⟩ := hc2
    exact ⟨none, 0, [], rfl, Rd.nil _ _, fun s hs => by simp at hs, Nat.zero_le _, Nat.le_refl _⟩
  · have hc2 : [Value.slice a len cap] = [Value.slice (some a') len' cap'] := hc
    simp only [List.cons.injEq, Value.slice.injEq, and_true] at hc2
    obtain ⟨rfl, rfl, rfl⟩ := hc2
    simp only [if_true] at hss
    have hlen : (ss.take len).length = len := by rw [List.length_take]; omega
    refine ⟨some a', cap, (ss.take len).map (fun (b : ByteArray) => b.data.toList), by rw [List.length_map, hlen], ?_, ?_, ?_, ?_⟩
    · intro j hj
      have hjl : j < len := by rw [List.length_map, hlen] at hj; exact hj
      have hc0 := hcell 0 (by omega)
      obtain ⟨bs, off, spot⟩ := a'
      have hspot : spot = none := by simpa [Addr.add] using World.cell?_spot hc0
      subst hspot
      have hcj := hcell j (by omega)
      refine ⟨bs, off, rfl, cell_block (by simpa [Addr.add_lit] using hcj), fun i u hu => ?_⟩
      have hi0 : i = 0 := by
        have := (List.getElem?_eq_some_iff.1 hu).1
        simp [encS] at this; exact this
      subst hi0
      simp only [encS, List.getElem?_cons_zero, Option.some.injEq] at hu
      subst hu
      have e : (ss.getD j ByteArray.empty) = ⟨(((ss.take len).map (fun (b : ByteArray) => b.data.toList))[j]'hj).toArray⟩ := by
        rw [List.getElem_map, List.getElem_take]
        simp [List.getD, List.getElem?_eq_getElem (show j < ss.length by omega)]
      rw [← e]
      simpa [Addr.add_lit, encS] using hcj
    · intro s hs
      obtain ⟨b, hb, rfl⟩ := List.mem_map.1 hs
      have := hsz b (List.mem_of_mem_take hb)
      unfold maxLen at this
      have e : b.data.toList.length = b.size := rfl
      omega
    · unfold maxLen at hm; rw [List.length_map, hlen]; omega
    · rw [List.length_map, hlen]; exact hl

theorem extract_head (s : List UInt8) (k : Nat) : (ByteArray.mk s.toArray).extract 0 k = ⟨(s.take k).toArray⟩ := by
  rw [ByteArray.extract_mk]; simp
set_option maxHeartbeats 400000 in
theorem cut_any (s : List UInt8) (n : Nat) (w : World) (_hl : s.length ≤ maxLen) (_hn : n ≤ 1000000) :
    Calls Try.prog 8 #[.string ⟨s.toArray⟩, .int .i64 n] w fun r w' => r = .returned (.string ⟨(s.take n).toArray⟩) ∧ w' = w := by
  have h0 : (0 : Int) ≤ n := by omega
  by_cases h : n < s.length
  · go_enter Try.func8, Try.ntmps8
    go_wp2_with fail
    rw [extract_head]
    go_ret
    exact ⟨rfl, rfl⟩
  · have e : s.take n = s := List.take_of_length_le (by omega)
    rw [e]
    clear e
    go_enter Try.func8, Try.ntmps8
    go_wp2_with fail
    go_ret
    exact ⟨rfl, rfl⟩
end Go.Proofs.Ytdiiechkhlbkcab
