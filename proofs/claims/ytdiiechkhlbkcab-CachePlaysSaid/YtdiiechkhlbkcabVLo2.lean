/- Texts 2: what the laws lean on. -/
import Derived.Test.YtdiiechkhlbkcabVLo1
import Derived.Test.YtdiiechkhlbkcabShelf
import Derived.BigQuiet
import Derived.RangeFuncNested
import Derived.RangeFuncBox
import Derived.RangeFuncLeaves
import Derived.WalkKit
import Derived.OwnWalkIn
import Derived.RangeFuncBound
import Derived.RangeFuncCalls
import Derived.Shelf.Abstract
import Derived.Shelf.RegionOpen
import Derived.TacticsInMore
import Derived.LoopNIn
import Derived.LoopIn
import Derived.LaidEql
import Derived.Deep.AppendLies
namespace Go.Proofs.Ytdiiechkhlbkcab
open Go.RowKit

def entN (kf : Nat → List UInt8) (y : Nat) : Ent := (kf y, .pointer (some ⟨y, 0, none⟩))
/-- Cache c: map b, ring r, and what stands in the ring, the one used last first. -/
structure CI (w : World) (c b r : Nat) (M fd ak : Int) (bs : List Nat) (kf : Nat → List UInt8) (vf : Nat → Int) (nw od : Nat → Nat) : Prop where
  row : w.heap[c]? = some (.cells #[.int .i64 M, .map (some b), .pointer (some ⟨r, 0, none⟩), .int .i64 fd, .int .i64 ak] 52 (0, 0))
  nodes : Nodes w (r :: bs) kf vf nw od
  lk : Lk nw od (r :: bs ++ [r])
  nd : (r :: bs).Nodup
  map : MapAt Try.prog 9 w b (bs.map (entN kf))
section
variable {w w' : World} {c b r : Nat} {M fd ak : Int} {bs : List Nat} {kf : Nat → List UInt8} {vf : Nat → Int} {nw od : Nat → Nat}
theorem CI.nc (h : CI w c b r M fd ak bs kf vf nw od) {y : Nat} (hy : y ∈ r :: bs) : c ≠ y := by
  rintro rfl
  have h1 := h.row
  rw [h.nodes c hy] at h1
  simp [entR] at h1
theorem CI.cb (h : CI w c b r M fd ak bs kf vf nw od) : c ≠ b := h.map.notCells h.row
theorem CI.yb (h : CI w c b r M fd ak bs kf vf nw od) {y : Nat} (hy : y ∈ r :: bs) : y ≠ b := h.map.notCells (h.nodes y hy)
theorem CI.clt (h : CI w c b r M fd ak bs kf vf nw od) : c < w.heap.size := (Array.getElem?_eq_some_iff.1 h.row).1
theorem CI.ylt (h : CI w c b r M fd ak bs kf vf nw od) {y : Nat} (hy : y ∈ r :: bs) : y < w.heap.size := h.nodes.lt hy
theorem CI.cell (h : CI w c b r M fd ak bs kf vf nw od) : w.cell? ⟨c, 0, none⟩ = some (.int .i64 M) ∧ w.cell? ⟨c, 1, none⟩ = some (.map (some b)) ∧ w.cell? ⟨c, 2, none⟩ = some (.pointer (some ⟨r, 0, none⟩)) ∧ w.cell? ⟨c, 3, none⟩ = some (.int .i64 fd) ∧ w.cell? ⟨c, 4, none⟩ = some (.int .i64 ak) := by
  refine ⟨?_, ?_, ?_, ?_, ?_⟩ <;> (unfold World.cell?; rw [h.row]; rfl)
theorem CI.froz (h : CI w c b r M fd ak bs kf vf nw od) (i : Nat) : w.frozen? ⟨c, i, none⟩ = false := frozen_of_row w c i _ 52 h.row
/-- What a change leaves alone. -/
theorem CI.kept (h : CI w c b r M fd ak bs kf vf nw od) {S : Nat → Prop} (hm : Mod S w w') (hc : ¬ S c) (hb : ¬ S b) (hy : ∀ y ∈ r :: bs, ¬ S y) : CI w' c b r M fd ak bs kf vf nw od :=
  ⟨(hm.block c h.clt hc).trans h.row, h.nodes.same fun y hy' => hm.block y (h.ylt hy') (hy y hy'), h.lk, h.nd, h.map.kept hm hb⟩
theorem CI.old (h : CI w c b r M fd ak bs kf vf nw od) (hb : Below w.heap.size w w') : CI w' c b r M fd ak bs kf vf nw od :=
  ⟨(hb.block c h.clt).trans h.row, h.nodes.same fun y hy => hb.block y (h.ylt hy), h.lk, h.nd, h.map.old hb⟩
theorem CI.setFd (h : CI w c b r M fd ak bs kf vf nw od) (x : Int) : CI (w.setCell ⟨c, 3, none⟩ (.int .i64 x)) c b r M x ak bs kf vf nw od := by
  refine ⟨?_, h.nodes.same fun y hy => Below.heap_setCell _ _ _ _ (fun e => h.nc hy e.symm), h.lk, h.nd, h.map.same (Below.heap_setCell _ _ _ _ (fun e => h.cb e.symm))⟩
  rw [heap_setCell_same w c 3 _ 52 (.int .i64 x) h.row]; rfl
theorem CI.setAk (h : CI w c b r M fd ak bs kf vf nw od) (x : Int) : CI (w.setCell ⟨c, 4, none⟩ (.int .i64 x)) c b r M fd x bs kf vf nw od := by
  refine ⟨?_, h.nodes.same fun y hy => Below.heap_setCell _ _ _ _ (fun e => h.nc hy e.symm), h.lk, h.nd, h.map.same (Below.heap_setCell _ _ _ _ (fun e => h.cb e.symm))⟩
  rw [heap_setCell_same w c 4 _ 52 (.int .i64 x) h.row]; rfl
theorem Apart.key {L : List Ent} (h : Apart L) {x y : Ent} (hx : x ∈ L) (hy : y ∈ L) (e : x.1 = y.1) : x = y := by
  induction L with
  | nil => cases hx
  | cons z l ih =>
    obtain ⟨h1, h2⟩ := List.pairwise_cons.1 h
    rcases List.mem_cons.1 hx with e1 | h3
    · rcases List.mem_cons.1 hy with e2 | h4
      · rw [e1, e2]
      · rw [e1] at e; exact absurd e (h1 _ h4)
    · rcases List.mem_cons.1 hy with e2 | h4
      · rw [e2] at e; exact absurd e.symm (h1 _ h3)
      · exact ih h2 h3 h4
theorem CI.inj (h : CI w c b r M fd ak bs kf vf nw od) {y z : Nat} (hy : y ∈ bs) (hz : z ∈ bs) (e : kf y = kf z) : y = z := by
  have := h.map.ap.key (List.mem_map_of_mem (f := entN kf) hy) (List.mem_map_of_mem (f := entN kf) hz) e
  simp [entN] at this
  exact this.2
theorem without_ring {A R : List Nat} {x : Nat} (h : Apart ((A ++ x :: R).map (entN kf))) : without (kf x) ((A ++ x :: R).map (entN kf)) = (A ++ R).map (entN kf) := by
  unfold Apart at h
  rw [List.map_append, List.map_cons, List.pairwise_append, List.pairwise_cons] at h
  obtain ⟨_, ⟨h1, _⟩, h2⟩ := h
  unfold without
  have e1 : (List.map (entN kf) A).filter (fun y => y.1 != kf x) = A.map (entN kf) := List.filter_eq_self.2 fun y hy => by
    have := h2 y hy _ (List.mem_cons_self ..)
    simpa [entN] using this
  have e2 : (List.map (entN kf) R).filter (fun y => y.1 != kf x) = R.map (entN kf) := List.filter_eq_self.2 fun y hy => by
    have := h1 y hy
    simp only [entN] at this ⊢
    simpa using fun e => this e.symm
  rw [List.map_append, List.map_cons, List.filter_append, List.filter_cons, e1, e2, List.map_append]
  simp [entN]
theorem hasK_ring (k : List UInt8) (bs : List Nat) : hasK k (bs.map (entN kf)) = bs.any fun y => kf y == k := by
  unfold hasK; rw [List.any_map]; rfl
theorem getK_ring (k : List UInt8) (bs : List Nat) : getK k (bs.map (entN kf)) (.pointer none) = match bs.find? fun y => kf y == k with | some y => .pointer (some ⟨y, 0, none⟩) | none => .pointer none := by
  unfold getK; rw [List.find?_map]
  have : ((fun x : Ent => x.1 == k) ∘ entN kf) = fun y => kf y == k := rfl
  rw [this]
  cases bs.find? fun y => kf y == k <;> rfl
end
/-- A ring that one leaves. -/
theorem ring_leave {nw od : Nat → Nat} {r x : Nat} {A R : List Nat} (h : Lk nw od (r :: (A ++ x :: R) ++ [r])) (hd : (r :: (A ++ x :: R)).Nodup) :
    ∃ p n, nw x = p ∧ od x = n ∧ p ∈ r :: (A ++ R) ∧ n ∈ r :: (A ++ R) ∧ x ≠ p ∧ Lk (upd nw n p) (upd od p n) (r :: (A ++ R) ++ [r]) := by
  obtain ⟨A', p, hA⟩ : ∃ A' p, r :: A = A' ++ [p] := ⟨(r :: A).dropLast, (r :: A).getLast (by simp), (List.dropLast_concat_getLast (by simp)).symm⟩
  obtain ⟨n, B, hB⟩ : ∃ n B, n :: B = R ++ [r] := by cases R with | nil => exact ⟨r, [], rfl⟩ | cons a l => exact ⟨a, l ++ [r], rfl⟩
  have e1 : r :: (A ++ x :: R) ++ [r] = A' ++ p :: x :: n :: B := by
    rw [hB]
    have : r :: (A ++ x :: R) ++ [r] = (r :: A) ++ (x :: (R ++ [r])) := by simp
    rw [this, hA]; simp
  have e2 : r :: (A ++ x :: R) = A' ++ p :: x :: R := by
    have : r :: (A ++ x :: R) = (r :: A) ++ (x :: R) := by simp
    rw [this, hA]; simp
  have e3 : r :: (A ++ R) ++ [r] = A' ++ p :: n :: B := by
    rw [hB]
    have : r :: (A ++ R) ++ [r] = (r :: A) ++ (R ++ [r]) := by simp
    rw [this, hA]; simp
  rw [e1] at h
  rw [e2] at hd
  obtain ⟨h1, h2, h3⟩ := Lk_leave h (r := r) (by rw [← hA]; rfl) hB hd
  have hp : p ∈ r :: A := by rw [hA]; simp
  have hpm : p ∈ r :: (A ++ R) := by
    rcases List.mem_cons.1 hp with h | h
    · exact h ▸ List.mem_cons_self ..
    · exact List.mem_cons_of_mem _ (List.mem_append_left _ h)
  have hn : n ∈ R ++ [r] := by rw [← hB]; simp
  refine ⟨p, n, h2, h1, hpm, ?_, ?_, e3 ▸ h3⟩
  · rcases List.mem_append.1 hn with h | h
    · exact List.mem_cons_of_mem _ (List.mem_append_right _ h)
    · rw [List.mem_singleton.1 h]; exact List.mem_cons_self ..
  · rintro rfl
    have := (List.nodup_append.1 hd).2.1
    exact (List.nodup_cons.1 this).1 (List.mem_cons_self ..)
/-- A ring that one enters. -/
theorem ring_enter {nw od : Nat → Nat} {r x : Nat} {bs : List Nat} (h : Lk nw od (r :: bs ++ [r])) (hd : (r :: bs).Nodup) (hx : x ∉ r :: bs) :
    ∃ g, od r = g ∧ g ∈ r :: bs ∧ Lk (upd (upd nw x r) g x) (upd (upd od x g) r x) (r :: (x :: bs) ++ [r]) := by
  obtain ⟨g, B, hB⟩ : ∃ g B, g :: B = bs ++ [r] := by cases bs with | nil => exact ⟨r, [], rfl⟩ | cons a l => exact ⟨a, l ++ [r], rfl⟩
  have h' : Lk nw od (r :: g :: B) := by rw [hB]; exact h
  obtain ⟨h1, h2⟩ := Lk_enter h' hB hd hx
  refine ⟨g, h1, ?_, ?_⟩
  · have hn : g ∈ bs ++ [r] := by rw [← hB]; simp
    rcases List.mem_append.1 hn with h | h
    · exact List.mem_cons_of_mem _ h
    · rw [List.mem_singleton.1 h]; exact List.mem_cons_self ..
  · rw [hB] at h2; exact h2
/-- The one that is used the longest ago. -/
theorem ring_last {nw od : Nat → Nat} {r x : Nat} {A : List Nat} (h : Lk nw od (r :: (A ++ [x]) ++ [r])) : nw r = x := by
  have e : r :: (A ++ [x]) ++ [r] = (r :: A) ++ x :: [r] := by simp
  rw [e, Lk_app] at h
  exact h.2.1.2
theorem nodup_mid {r x : Nat} {A R : List Nat} (hd : (r :: (A ++ x :: R)).Nodup) : (r :: (A ++ R)).Nodup ∧ x ∉ r :: (A ++ R) := by
  have hp : (r :: (A ++ x :: R)).Perm (x :: r :: (A ++ R)) := ((List.perm_middle (l₁ := A) (l₂ := R) (a := x)).cons r).trans (List.Perm.swap x r _)
  have := (hp.nodup_iff).1 hd
  exact ⟨(List.nodup_cons.1 this).2, (List.nodup_cons.1 this).1⟩
end Go.Proofs.Ytdiiechkhlbkcab

namespace Go.Proofs.Ytdiiechkhlbkcab
open Go.RowKit

section
variable {P : Program} {ops : Array Oper} {Q : Exit → Act → World → Prop} {md : Region.Mode} {V : Tmp → Value → Prop} {G : Nat → Value → World → Prop} {C : List Nat} {a0 : Act}
/-- A call of the chain whose answer nobody takes. -/
theorem owesC_eff {i : Nat} {o : Oper} (m : Nat) (hm : C[m]? = some i) (hi : ops[i]? = some o) (ht : o.dst = none)
    (h : ∀ a w x, AgreeC ops C m a0 a → G m x w → Holds' ops C a m x → AllV (fun t v _ => V t v) a w (waits md ops o) → ∃ v w', Region.wanted o (yielded ops a.tmps) = true ∧ (execOp a.eval o).run P w = .ok (.value v) w' ∧ G (m + 1) undef w') : OwesC P md ops Q V G C a0 i o := by
  refine .inl ⟨m, hm, fun a w x ha hG hh hV => ?_⟩
  obtain ⟨v, w', hw, hr, h2⟩ := h a w x ha hG hh hV
  unfold wpOp
  rw [hi]
  simp only [hw, if_true, Oper.wp, hr, Oper.upon, ht]
  exact .inl ⟨undef, rfl, fun u hu => (by cases hu), h2⟩
end

theorem clen_any (c b r : Nat) (M fd ak : Int) (bs : List Nat) (kf : Nat → List UInt8) (vf : Nat → Int) (nw od : Nat → Nat) (w : World) (h : CI w c b r M fd ak bs kf vf nw od) :
    Calls Try.prog 17 #[.pointer (some ⟨c, 0, none⟩)] w fun e w' => e = .returned (.int .i64 (bs.length : Nat)) ∧ w' = w := by
  have c1 := h.cell.2.1
  have hl := fun ty => h.map.len Try.underlying50 ty
  rw [List.length_map] at hl
  clear h
  go_enter Try.func17, Try.ntmps17
  go_wp2_with fail
  go_ret
  exact ⟨rfl, rfl⟩
theorem hits_any (c b r : Nat) (M fd ak : Int) (bs : List Nat) (kf : Nat → List UInt8) (vf : Nat → Int) (nw od : Nat → Nat) (w : World) (h : CI w c b r M fd ak bs kf vf nw od) :
    Calls Try.prog 16 #[.pointer (some ⟨c, 0, none⟩)] w fun e w' => e = .returned (.tuple #[.int .i64 fd, .int .i64 ak]) ∧ Below w.heap.size w w' := by
  have c3 := h.cell.2.2.2.1
  have c4 := h.cell.2.2.2.2
  clear h
  go_enter Try.func16, Try.ntmps16
  go_wp2_with fail
  go_quiet (fail)
  go_wp2_with fail
  go_ret2
  exact ⟨rfl, ((Mod.refl (fun _ => False) w).drewN _).to_below (Nat.le_refl _) (fun _ _ h => h)⟩

set_option maxRecDepth 20000 in
set_option maxHeartbeats 1000000 in
theorem cdrop_any (c b r nd : Nat) (M fd ak : Int) (A R : List Nat) (kf : Nat → List UInt8) (vf : Nat → Int) (nw od : Nat → Nat) (w : World) (h : CI w c b r M fd ak (A ++ nd :: R) kf vf nw od) :
    Calls Try.prog 22 #[.pointer (some ⟨c, 0, none⟩), .pointer (some ⟨nd, 0, none⟩)] w fun e w' => e = .returned (.tuple #[]) ∧ (∃ nw' od', CI w' c b r M fd ak (A ++ R) kf vf nw' od') ∧ Mod (fun i => i = b ∨ i ∈ r :: (A ++ nd :: R)) w w' := by
  obtain ⟨p, n, e1, e2, hp, hn, hxp, hl⟩ := ring_leave h.lk h.nd
  have hsub : ∀ y ∈ r :: (A ++ R), y ∈ r :: (A ++ nd :: R) := by
    intro y hy
    rcases List.mem_cons.1 hy with h | hy
    · exact h ▸ List.mem_cons_self ..
    · refine List.mem_cons_of_mem _ ?_
      rcases List.mem_append.1 hy with h | h
      · exact List.mem_append_left _ h
      · exact List.mem_append_right _ (List.mem_cons_of_mem _ h)
  have hxm : nd ∈ r :: (A ++ nd :: R) := List.mem_cons_of_mem _ (List.mem_append_right _ (List.mem_cons_self ..))
  have HLV := Lib.hid (leave_any nd p n _ kf vf nw od w h.nodes hxm (hsub p hp) (hsub n hn) e1 e2 hxp)
  obtain ⟨nw1, hnw⟩ : ∃ f, f = upd nw n p := ⟨_, rfl⟩
  obtain ⟨od1, hod⟩ : ∃ f, f = upd od p n := ⟨_, rfl⟩
  rw [← hnw, ← hod] at hl HLV
  have hkl : (kf nd).length ≤ maxLen := h.map.le (entN kf nd) (List.mem_map_of_mem (List.mem_append_right _ (List.mem_cons_self ..)))
  have HF : Hid (∀ W1 : World, Nodes W1 (r :: (A ++ nd :: R)) kf vf nw1 od1 → Mod (fun i => i ∈ r :: (A ++ nd :: R)) w W1 →
      (∀ w' : World, Below W1.heap.size W1 w' → w'.cell? ⟨c, 1, none⟩ = some (.map (some b)) ∧ w'.cell? ⟨nd, 0, none⟩ = some (.string ⟨(kf nd).toArray⟩)) ∧
      (∀ w' : World, Below W1.heap.size W1 w' → ∃ w2, (∀ ty, (Builtin.delete_ #[50, 9] ty #[.map (some b), .string ⟨(kf nd).toArray⟩]).run Try.prog w' = .ok (.tuple #[]) w2) ∧ CI w2 c b r M fd ak (A ++ R) kf vf nw1 od1 ∧ Mod (fun i => i = b) w' w2)) := Lib.hid (by
    intro W1 hN hm
    have hc : ∀ w', Below W1.heap.size W1 w' → w'.heap[c]? = w.heap[c]? := fun w' hb => (hb.block c (Nat.lt_of_lt_of_le h.clt hm.size)).trans (hm.block c h.clt (fun hi => h.nc hi rfl))
    have hb' : ∀ w', Below W1.heap.size W1 w' → w'.heap[b]? = w.heap[b]? := fun w' hb => (hb.block b (Nat.lt_of_lt_of_le h.map.lt hm.size)).trans (hm.block b h.map.lt (fun hi => h.yb hi rfl))
    have hN' : ∀ w', Below W1.heap.size W1 w' → Nodes w' (r :: (A ++ nd :: R)) kf vf nw1 od1 := fun w' hb => hN.same fun y hy => hb.block y (hN.lt hy)
    refine ⟨fun w' hb => ⟨?_, ((hN' w' hb).cell hxm).1⟩, fun w' hb => ?_⟩
    · exact (World.cell?_of_block (hc w' hb)).trans h.cell.2.1
    · obtain ⟨w2, hr, hM, hmd⟩ := (h.map.same (hb' w' hb)).drop Try.underlying9 Try.underlying50 (kf nd) hkl 0
      rw [without_ring h.map.ap] at hM
      have hcw : c < w'.heap.size := Nat.lt_of_lt_of_le (Nat.lt_of_lt_of_le h.clt hm.size) hb.size
      exact ⟨w2, fun _ => hr, ⟨((hmd.block c hcw h.cb).trans (hc w' hb)).trans h.row, ((hN' w' hb).sub hsub).same fun y hy => hmd.block y ((hN' w' hb).lt (hsub y hy)) (h.yb (hsub y hy)), hl, (nodup_mid h.nd).1, hM⟩, hmd⟩)
  clear h e1 e2 hp hn hxp hl hsub hxm hkl hnw hod
  go_enter Try.func22, Try.ntmps22
  go_wp2_with fail
  refine HLV.out.mono ?_
  rintro e W1 ⟨rfl, hN1, hm1⟩
  obtain ⟨hp, hs⟩ := HF.out W1 hN1 hm1
  have HP := Lib.hid hp
  have HS := Lib.hid hs
  have HM := Lib.hid hm1
  clear hN1 hm1 hp hs HLV HF
  go_wp2_with fail
  have HG0 : Hid ((fun (j : Nat) (_ : Value) (w' : World) => (j = 0 → Below W1.heap.size W1 w') ∧ (j = 1 → ∃ w1, Below W1.heap.size W1 w1 ∧ CI w' c b r M fd ak (A ++ R) kf vf nw1 od1 ∧ Mod (fun i => i = b) w1 w')) 0 undef W1.drew) := Lib.hid ⟨(fun _ => (Below.refl _ W1).drew), (fun h => absurd h (by omega))⟩
  refine CV.wp_region_chain (fun t v => match t with
    | 6 => v = .pointer (some ⟨c, 0, none⟩)
    | 7 => v = .pointer (some ⟨c, 0, none⟩)
    | 8 => v = .pointer (some ⟨c, 1, none⟩)
    | 9 => v = .map (some b)
    | 10 => v = .pointer (some ⟨nd, 0, none⟩)
    | 11 => v = .pointer (some ⟨nd, 0, none⟩)
    | 12 => v = .pointer (some ⟨nd, 0, none⟩)
    | 13 => v = .string ⟨(kf nd).toArray⟩
    | _ => True) (fun (j : Nat) (_ : Value) (w' : World) => (j = 0 → Below W1.heap.size W1 w') ∧ (j = 1 → ∃ w1, Below W1.heap.size W1 w1 ∧ CI w' c b r M fd ak (A ++ R) kf vf nw1 od1 ∧ Mod (fun i => i = b) w1 w')) [8] 14 (by kernel_rfl) (by decide +kernel) rfl (by decide +kernel) (by decide) (by decide) HG0.out (by
    refine OweAllC.cons (owesC_val 0 (by decide +kernel) (by decide) rfl rfl fun k' a w1 x hk ha hG hV => ?_) ?_
    · skip
      have h0 := ha.outer 0 (by decide +kernel)
      simp only [Act.eval] at h0
      exact ⟨.pointer (some ⟨c, 0, none⟩), wanted_free rfl, by simp [execOp, go_sem, h0], rfl⟩
    refine OweAllC.cons (owesC_val 0 (by decide +kernel) (by decide) rfl rfl fun k' a w1 x hk ha hG hV => ?_) ?_
    · skip
      have h6 : a.tmps.getD 6 undef = .pointer (some ⟨c, 0, none⟩) := hV.get 6 (by decide +kernel)
      exact ⟨.pointer (some ⟨c, 0, none⟩), wanted_free rfl, by simp [execOp, go_sem, h6], rfl⟩
    refine OweAllC.cons (owesC_val 0 (by decide +kernel) (by decide) rfl rfl fun k' a w1 x hk ha hG hV => ?_) ?_
    · skip
      have h7 : a.tmps.getD 7 undef = .pointer (some ⟨c, 0, none⟩) := hV.get 7 (by decide +kernel)
      exact ⟨.pointer (some ⟨c, 1, none⟩), wanted_free rfl, by simp [execOp, go_sem, h7], rfl⟩
    refine OweAllC.cons (owesC_val 0 (by decide +kernel) (by decide) rfl rfl fun k' a w1 x hk ha hG hV => ?_) ?_
    · skip
      have h8 : a.tmps.getD 8 undef = .pointer (some ⟨c, 1, none⟩) := hV.get 8 (by decide +kernel)
      have cc := HP.out w1 (hG.1 (by omega))
      exact ⟨.map (some b), wanted_free rfl, by simp [execOp, go_sem, h8, cc.1], rfl⟩
    refine OweAllC.cons (owesC_val 0 (by decide +kernel) (by decide) rfl rfl fun k' a w1 x hk ha hG hV => ?_) ?_
    · skip
      have h1 := ha.outer 1 (by decide +kernel)
      simp only [Act.eval] at h1
      exact ⟨.pointer (some ⟨nd, 0, none⟩), wanted_free rfl, by simp [execOp, go_sem, h1], rfl⟩
    refine OweAllC.cons (owesC_val 0 (by decide +kernel) (by decide) rfl rfl fun k' a w1 x hk ha hG hV => ?_) ?_
    · skip
      have h10 : a.tmps.getD 10 undef = .pointer (some ⟨nd, 0, none⟩) := hV.get 10 (by decide +kernel)
      exact ⟨.pointer (some ⟨nd, 0, none⟩), wanted_free rfl, by simp [execOp, go_sem, h10], rfl⟩
    refine OweAllC.cons (owesC_val 0 (by decide +kernel) (by decide) rfl rfl fun k' a w1 x hk ha hG hV => ?_) ?_
    · skip
      have h11 : a.tmps.getD 11 undef = .pointer (some ⟨nd, 0, none⟩) := hV.get 11 (by decide +kernel)
      exact ⟨.pointer (some ⟨nd, 0, none⟩), wanted_free rfl, by simp [execOp, go_sem, h11], rfl⟩
    refine OweAllC.cons (owesC_val 0 (by decide +kernel) (by decide) rfl rfl fun k' a w1 x hk ha hG hV => ?_) ?_
    · skip
      have h12 : a.tmps.getD 12 undef = .pointer (some ⟨nd, 0, none⟩) := hV.get 12 (by decide +kernel)
      have cc := HP.out w1 (hG.1 (by omega))
      exact ⟨.string ⟨(kf nd).toArray⟩, wanted_free rfl, by simp [execOp, go_sem, h12, cc.2], rfl⟩
    refine OweAllC.cons (owesC_eff 0 rfl rfl rfl fun a w1 x ha hG hx hV => ?_) ?_
    · skip
      have h9 : a.tmps.getD 9 undef = .map (some b) := hV.get 9 (by decide +kernel)
      have h13 : a.tmps.getD 13 undef = .string ⟨(kf nd).toArray⟩ := hV.get 13 (by decide +kernel)
      have hb := hG.1 (by omega)
      obtain ⟨w2, hr, hm, hmd⟩ := HS.out w1 hb
      exact ⟨.tuple #[], w2, wanted_free rfl, by simp [go_sem, h9, h13, hr], (fun h => absurd h (by omega)), fun _ => ⟨w1, hb, hm, hmd⟩⟩
    exact OweAllC.nil
    ) ?_
  intro f wz xz hG hx hv
  clear hv hx
  have HE := Lib.hid (hG.2 rfl)
  clear hG
  go_end0
  obtain ⟨w1, hb, hC, hmd⟩ := HE.out
  refine ⟨rfl, ⟨_, _, hC⟩, ?_⟩
  exact ((HM.out.mono (fun _ _ h => Or.inr h)).trans (Mod.of_below hb |>.mono (T := fun i => W1.heap.size ≤ i) (fun _ _ h => h)) (fun i hi h => absurd (Nat.lt_of_lt_of_le hi HM.out.size) (by omega))).trans hmd (fun _ _ h => Or.inl h)
end Go.Proofs.Ytdiiechkhlbkcab

namespace Go.Proofs.Ytdiiechkhlbkcab
open Go.RowKit

set_option maxRecDepth 20000 in
theorem cnew_any (m : Int) (w : World) :
    Calls Try.prog 7 #[.int .i64 m] w fun e w' => ∃ c b r, e = .returned (.pointer (some ⟨c, 0, none⟩)) ∧ CI w' c b r (min (max m 1) 1024) 0 0 [] (fun _ => []) (fun _ => 0) (fun _ => r) (fun _ => r) ∧ Below w.heap.size w w' ∧ w.heap.size ≤ c ∧ w.heap.size ≤ b ∧ w.heap.size ≤ r := by
  obtain ⟨M, hM⟩ : ∃ M, min (max m 1) 1024 = M := ⟨_, rfl⟩
  rw [hM]
  have hmk : ∀ w : World, (Instr.makeMap 50 none).run Try.prog w = .ok (.map (some w.heap.size)) (w.alloc (.map #[] 0)) := fun w => run_makeMap _ _
  have hr0 : (w.alloc (.cells #[.string ⟨#[]⟩, .int .i64 0, .pointer none, .pointer none] 49)).heap[w.heap.size]? = some (.cells #[.string ⟨#[]⟩, .int .i64 0, .pointer none, .pointer none] 49 (0, 0)) := heap_alloc_new _ _
  have hB0 : Below w.heap.size w (w.alloc (.cells #[.string ⟨#[]⟩, .int .i64 0, .pointer none, .pointer none] 49)) := (Below.refl _ w).alloc (Nat.le_refl _) _
  have hz0 : w.heap.size < (w.alloc (.cells #[.string ⟨#[]⟩, .int .i64 0, .pointer none, .pointer none] 49)).heap.size := by simp
  go_enter Try.func7, Try.ntmps7
  go_upto_region 2 with fail
  generalize (w.alloc (.cells #[.string ⟨#[]⟩, .int .i64 0, .pointer none, .pointer none] 49)) = W0 at hr0 hB0 hz0 ⊢
  obtain ⟨n0, hn0⟩ : ∃ n0, n0 = w.heap.size := ⟨_, rfl⟩
  have HN0 := Lib.hid hn0
  rw [← hn0] at hr0 hz0 hB0 ⊢
  clear hn0
  have c2 : W0.cell? ⟨n0, 2, none⟩ = some (.pointer none) := by unfold World.cell?; rw [hr0]; rfl
  have c3 : W0.cell? ⟨n0, 3, none⟩ = some (.pointer none) := by unfold World.cell?; rw [hr0]; rfl
  have f2 := frozen_of_row W0 n0 2 _ _ hr0
  have f3 := frozen_of_row W0 n0 3 _ _ hr0
  have h1 := heap_setCell_same W0 n0 2 _ 49 (.pointer (some ⟨n0, 0, none⟩)) hr0
  have h2 := heap_setCell_same (W0.setCell ⟨n0, 2, none⟩ (.pointer (some ⟨n0, 0, none⟩))) n0 3 _ 49 (.pointer (some ⟨n0, 0, none⟩)) h1
  have hM2 : Mod (fun i => i = n0) W0 ((W0.setCell ⟨n0, 2, none⟩ (.pointer (some ⟨n0, 0, none⟩))).setCell ⟨n0, 3, none⟩ (.pointer (some ⟨n0, 0, none⟩))) := ((Mod.refl (fun i => i = n0) W0).setCell (fun _ => rfl) _).setCell (fun _ => rfl) _
  have H2 := Lib.hid h2
  have HM2 := Lib.hid hM2
  have HB0 := Lib.hid hB0
  have HZ0 := Lib.hid hz0
  clear hr0 h1 h2 hM2 hB0 hz0
  go_upto_region 3 with fail
  generalize (W0.setCell ⟨n0, 2, none⟩ (.pointer (some ⟨n0, 0, none⟩))).setCell ⟨n0, 3, none⟩ (.pointer (some ⟨n0, 0, none⟩)) = W1 at H2 HM2 ⊢
  clear c2 c3 f2 f3
  go_wp2_with fail
  go_ret
  have hB1 : Below w.heap.size w W1 := by
    refine Mod.to_below (S := fun i => n0 ≤ i) (((Mod.of_below HB0.out).trans HM2.out (fun i _ e => by omega))) (Nat.le_refl _) (fun i hi h => ?_)
    have := HN0.out; omega
  have hz1 : n0 < W1.heap.size := Nat.lt_of_lt_of_le HZ0.out HM2.out.size
  have hn := HN0.out
  refine ⟨_, W1.heap.size, n0, rfl, ⟨?_, ?_, ⟨⟨rfl, rfl⟩, trivial⟩, by simp, ?_⟩, (hB1.alloc hB1.size _).alloc (by simp; have := hB1.size; omega) _, by have := hB1.size; omega, hB1.size, by omega⟩
  · have := heap_alloc_new (W1.alloc (.map #[] 0)) (.cells #[.int .i64 M, .map (some W1.heap.size), .pointer (some ⟨n0, 0, none⟩), .int .i64 0, .int .i64 0] 52)
    simpa using this
  · intro y hy
    rw [List.mem_singleton.1 hy]
    exact ((Below.heap_alloc _ _ _ (by simp; omega)).trans (Below.heap_alloc _ _ _ hz1)).trans H2.out
  · exact (MapAt.made _ _ W1).same (Below.heap_alloc _ _ _ (by simp))
end Go.Proofs.Ytdiiechkhlbkcab

namespace Go.Proofs.Ytdiiechkhlbkcab
open Go.RowKit

theorem zeroE (w : World) : (zeroValue 47).run Try.prog w = .ok (.pointer none) w := by kernel_rfl
theorem wrap_small (x : Int) (h0 : 0 ≤ x) (h1 : x ≤ 1000000000) : IntKind.i64.wrap x = x := by
  rw [IntKind.wrap_i64]; omega

set_option maxRecDepth 20000 in
set_option maxHeartbeats 1000000 in
theorem cget_miss (c b r : Nat) (M fd ak : Int) (bs : List Nat) (kf : Nat → List UInt8) (vf : Nat → Int) (nw od : Nat → Nat) (w : World) (h : CI w c b r M fd ak bs kf vf nw od) (k : List UInt8) (hk : k.length ≤ maxLen) (h0 : 0 ≤ ak) (h1 : ak ≤ 100000000)
    (hm : ∀ y ∈ bs, kf y ≠ k) :
    Calls Try.prog 11 #[.pointer (some ⟨c, 0, none⟩), .string ⟨k.toArray⟩] w fun e w' => e = .returned (.tuple #[.int .i64 0, .bool false]) ∧ CI w' c b r M fd (ak + 1) bs kf vf nw od ∧ Mod (fun i => i = c) w w' := by
  have hw := wrap_small (ak + 1) (by omega) (by omega)
  have c4 := h.cell.2.2.2.2
  have f4 := h.froz 4
  obtain ⟨W1, hW⟩ : ∃ W1, W1 = w.setCell ⟨c, 4, none⟩ (.int .i64 (ak + 1)) := ⟨_, rfl⟩
  have hC := h.setAk (ak + 1)
  rw [← hW] at hC
  have hM : Mod (fun i => i = c) w W1 := hW ▸ (Mod.refl (fun i => i = c) w).setCell (fun _ => rfl) _
  have hl := hC.map.look_ok Try.underlying9 Try.underlying50 (zeroE W1) k hk
  have hn : (bs.find? fun y => kf y == k) = none := List.find?_eq_none.2 (fun y hy => by simpa using hm y hy)
  have ha : (bs.any fun y => kf y == k) = false := List.any_eq_false.2 (fun y hy => by simpa using hm y hy)
  rw [getK_ring, hasK_ring, hn, ha] at hl
  simp only at hl
  have c1 := hC.cell.2.1
  have HE := Lib.hid (And.intro hC hM)
  have HW := Lib.hid hW
  clear hm hn ha hk h0 h1 h hC hM hW
  go_enter Try.func11, Try.ntmps11
  go_upto_region 2 with fail
  rw [← HW.out]
  clear c4 f4
  go_wp2_with fail
  go_ret2
  exact ⟨rfl, HE.out⟩

set_option maxRecDepth 20000 in
set_option maxHeartbeats 2000000 in
theorem cget_hit (c b r x : Nat) (M fd ak : Int) (A R : List Nat) (kf : Nat → List UInt8) (vf : Nat → Int) (nw od : Nat → Nat) (w : World) (h : CI w c b r M fd ak (A ++ x :: R) kf vf nw od) (h0 : 0 ≤ ak) (h1 : ak ≤ 100000000) (g0 : 0 ≤ fd) (g1 : fd ≤ 100000000) :
    Calls Try.prog 11 #[.pointer (some ⟨c, 0, none⟩), .string ⟨(kf x).toArray⟩] w fun e w' => e = .returned (.tuple #[.int .i64 (vf x), .bool true]) ∧ (∃ nw' od', CI w' c b r M (fd + 1) (ak + 1) (x :: (A ++ R)) kf vf nw' od') ∧ Mod (fun i => i = c ∨ i ∈ r :: (A ++ x :: R)) w w' := by
  have hk : (kf x).length ≤ maxLen := h.map.le (entN kf x) (List.mem_map_of_mem (List.mem_append_right _ (List.mem_cons_self ..)))
  have hw := wrap_small (ak + 1) (by omega) (by omega)
  have hv := wrap_small (fd + 1) (by omega) (by omega)
  have c4 := h.cell.2.2.2.2
  have f4 := h.froz 4
  obtain ⟨W1, hW⟩ : ∃ W1, W1 = w.setCell ⟨c, 4, none⟩ (.int .i64 (ak + 1)) := ⟨_, rfl⟩
  have hC := h.setAk (ak + 1)
  rw [← hW] at hC
  have hM : Mod (fun i => i = c) w W1 := hW ▸ (Mod.refl (fun i => i = c) w).setCell (fun _ => rfl) _
  have hl := hC.map.look_ok Try.underlying9 Try.underlying50 (zeroE W1) (kf x) hk
  have hxm : x ∈ A ++ x :: R := List.mem_append_right _ (List.mem_cons_self ..)
  have hn : ((A ++ x :: R).find? fun y => kf y == kf x) = some x := by
    rw [List.find?_append, List.find?_cons_of_pos (by simp), List.find?_eq_none.2, Option.none_or]
    intro y hy he
    have e := h.inj (List.mem_append_left _ hy) hxm (by simpa using he)
    have hd := (List.nodup_cons.1 h.nd).2
    exact (List.nodup_append.1 hd).2.2 y hy x (List.mem_cons_self ..) e
  have ha : ((A ++ x :: R).any fun y => kf y == kf x) = true := List.any_eq_true.2 ⟨x, hxm, by simp⟩
  rw [getK_ring, hasK_ring, hn, ha] at hl
  simp only at hl
  have c1 := hC.cell.2.1
  obtain ⟨W2, hW2⟩ : ∃ W2, W2 = W1.setCell ⟨c, 3, none⟩ (.int .i64 (fd + 1)) := ⟨_, rfl⟩
  have c3 := hC.cell.2.2.2.1
  have f3 := hC.froz 3
  have hC2 := hC.setFd (fd + 1)
  rw [← hW2] at hC2
  have hM2 : Mod (fun i => i = c) W1 W2 := hW2 ▸ (Mod.refl (fun i => i = c) W1).setCell (fun _ => rfl) _
  obtain ⟨p, n, e1, e2, hp, hn', hxp, hlk⟩ := ring_leave h.lk h.nd
  have hsub : ∀ y ∈ r :: (A ++ R), y ∈ r :: (A ++ x :: R) := by
    intro y hy
    rcases List.mem_cons.1 hy with h | hy
    · exact h ▸ List.mem_cons_self ..
    · refine List.mem_cons_of_mem _ ?_
      rcases List.mem_append.1 hy with h | h
      · exact List.mem_append_left _ h
      · exact List.mem_append_right _ (List.mem_cons_of_mem _ h)
  have hxr : x ∈ r :: (A ++ x :: R) := List.mem_cons_of_mem _ hxm
  have HLV := Lib.hid (leave_any x p n _ kf vf nw od W2 hC2.nodes hxr (hsub p hp) (hsub n hn') e1 e2 hxp)
  obtain ⟨nw1, hnw⟩ : ∃ f, f = upd nw n p := ⟨_, rfl⟩
  obtain ⟨od1, hod⟩ : ∃ f, f = upd od p n := ⟨_, rfl⟩
  rw [← hnw, ← hod] at hlk HLV
  obtain ⟨hd1, hx1⟩ := nodup_mid h.nd
  obtain ⟨g, eg, hg, hlk2⟩ := ring_enter hlk hd1 hx1
  have HEN : Hid (∀ W3 : World, Nodes W3 (r :: (A ++ x :: R)) kf vf nw1 od1 → Mod (fun i => i ∈ r :: (A ++ x :: R)) W2 W3 →
      Calls Try.prog 20 #[.pointer (some ⟨c, 0, none⟩), .pointer (some ⟨x, 0, none⟩)] W3 fun e w' => e = .returned (.tuple #[]) ∧ w'.cell? ⟨x, 1, none⟩ = some (.int .i64 (vf x)) ∧ (∃ nw' od', CI w' c b r M (fd + 1) (ak + 1) (x :: (A ++ R)) kf vf nw' od') ∧ Mod (fun i => i ∈ r :: (A ++ x :: R)) W2 w') := Lib.hid (by
    intro W3 hN hm
    have hcW : W3.heap[c]? = W2.heap[c]? := hm.block c hC2.clt (fun hi => hC2.nc hi rfl)
    have hbW : W3.heap[b]? = W2.heap[b]? := hm.block b hC2.map.lt (fun hi => hC2.yb hi rfl)
    have hcc : W3.cell? ⟨c, 2, none⟩ = some (.pointer (some ⟨r, 0, none⟩)) := (World.cell?_of_block hcW).trans hC2.cell.2.2.1
    refine (enter_any c x r g (r :: (A ++ R)) kf vf nw1 od1 _ _ W3 (hN.sub hsub) (List.mem_cons_self ..) hg hx1 eg hcc (hC2.nc hxr) (hN x hxr)).mono ?_
    rintro e w' ⟨rfl, hN', hm'⟩
    have hsx : ∀ y ∈ x :: r :: (A ++ R), y ∈ r :: (A ++ x :: R) := by
      intro y hy
      rcases List.mem_cons.1 hy with h | hy
      · exact h ▸ hxr
      · exact hsub y hy
    have hsy : ∀ y ∈ r :: (x :: (A ++ R)), y ∈ x :: r :: (A ++ R) := by
      intro y hy
      simp only [List.mem_cons] at hy ⊢
      rcases hy with h | h | h
      · exact Or.inr (Or.inl h)
      · exact Or.inl h
      · exact Or.inr (Or.inr h)
    have hcW' : w'.heap[c]? = W3.heap[c]? := hm'.block c (Nat.lt_of_lt_of_le hC2.clt hm.size) (fun hi => hC2.nc (hsx _ hi) rfl)
    have hbW' : w'.heap[b]? = W3.heap[b]? := hm'.block b (Nat.lt_of_lt_of_le hC2.map.lt hm.size) (fun hi => hC2.yb (hsx _ hi) rfl)
    refine ⟨rfl, (hN'.cell (List.mem_cons_self ..)).2.1, ⟨_, _, ⟨(hcW'.trans hcW).trans hC2.row, hN'.sub hsy, hlk2, ?_, ?_⟩⟩, hm.trans hm' (fun i _ hi => hsx i hi)⟩
    · have hp2 : (r :: (x :: (A ++ R))).Perm (x :: r :: (A ++ R)) := List.Perm.swap x r _
      exact (hp2.nodup_iff).2 (List.nodup_cons.2 ⟨hx1, hd1⟩)
    · exact (hC2.map.same (hbW'.trans hbW)).perm (List.perm_middle.map _))
  have HE := Lib.hid (And.intro hM hM2)
  have HW := Lib.hid hW
  have HW2 := Lib.hid hW2
  generalize kf x = kx at hl ⊢
  clear h h0 h1 g0 g1 hk hC hM hM2 hC2 hxm hn ha e1 e2 hp hn' hxp hlk hsub hxr hnw hod hd1 hx1 eg hg hlk2 hW hW2
  go_enter Try.func11, Try.ntmps11
  go_upto_region 2 with fail
  rw [← HW.out]
  clear c4 f4
  go_upto_region 7 with fail
  rw [← HW2.out]
  clear c1 c3 f3 hl
  go_wp2_with fail
  refine HLV.out.mono ?_
  rintro e W3 ⟨rfl, hN3, hm3⟩
  have HX := Lib.hid (HEN.out W3 hN3 hm3)
  clear hN3 hm3 HLV HEN
  go_wp2_with fail
  refine HX.out.mono ?_
  rintro e W4 ⟨rfl, cx, hC4, hm4⟩
  have HC := Lib.hid hC4
  have HM4 := Lib.hid hm4
  clear hC4 hm4 HX
  go_wp2_with fail
  go_ret2
  obtain ⟨m1, m2⟩ := HE.out
  exact ⟨rfl, HC.out, ((m1.trans m2 (fun _ _ h => h)).mono (fun _ _ h => Or.inl h)).trans HM4.out (fun _ _ h => Or.inr h)⟩
end Go.Proofs.Ytdiiechkhlbkcab

namespace Go.Proofs.Ytdiiechkhlbkcab
open Go.RowKit

theorem sclone_any (k : List UInt8) (w : World) (hk : k.length ≤ 1000000) :
    Calls Try.prog 23 #[.string ⟨k.toArray⟩] w fun r w' => r = .returned (.string ⟨k.toArray⟩) ∧ Below w.heap.size w w' := by
  have h := fun w => Try.stringslite_Clone ⟨k.toArray⟩ w (by simp [ByteArray.size]; omega)
  have H := Lib.hid h
  clear h
  go_enter Try.func23, Try.ntmps23
  go_wp2_with fail
  refine (H.out _).mono ?_
  rintro r w1 ⟨rfl, hb⟩
  have HB := Lib.hid hb
  clear hb
  go_wp2_with fail
  go_ret
  exact ⟨rfl, HB.out⟩
def updK (f : Nat → List UInt8) (a : Nat) (b : List UInt8) : Nat → List UInt8 := fun x => if x = a then b else f x
def updV (f : Nat → Int) (a : Nat) (b : Int) : Nat → Int := fun x => if x = a then b else f x
/-- An entry that is about to come into the ring. -/
structure PI (w : World) (c b r x : Nat) (M fd ak : Int) (bs : List Nat) (kf : Nat → List UInt8) (vf : Nat → Int) (nw od : Nat → Nat) : Prop where
  row : w.heap[c]? = some (.cells #[.int .i64 M, .map (some b), .pointer (some ⟨r, 0, none⟩), .int .i64 fd, .int .i64 ak] 52 (0, 0))
  nodes : Nodes w (r :: bs) kf vf nw od
  xrow : w.heap[x]? = some (.cells #[.string ⟨(kf x).toArray⟩, .int .i64 (vf x), .pointer none, .pointer none] 49 (0, 0))
  nx : x ∉ r :: bs
  lk : Lk nw od (r :: bs ++ [r])
  nd : (r :: bs).Nodup
  map : MapAt Try.prog 9 w b ((x :: bs).map (entN kf))
theorem PI.enter {w : World} {c b r x : Nat} {M fd ak : Int} {bs : List Nat} {kf : Nat → List UInt8} {vf : Nat → Int} {nw od : Nat → Nat} (h : PI w c b r x M fd ak bs kf vf nw od) :
    Calls Try.prog 20 #[.pointer (some ⟨c, 0, none⟩), .pointer (some ⟨x, 0, none⟩)] w fun e w' => e = .returned (.tuple #[]) ∧ (∃ nw' od', CI w' c b r M fd ak (x :: bs) kf vf nw' od') ∧ Mod (fun i => i ∈ x :: r :: bs) w w' := by
  obtain ⟨g, eg, hg, hl⟩ := ring_enter h.lk h.nd h.nx
  have hcx : c ≠ x := by
    rintro rfl
    have h1 := h.row
    rw [h.xrow] at h1
    simp at h1
  have hcn : ∀ y ∈ r :: bs, c ≠ y := by
    rintro y hy rfl
    have h1 := h.row
    rw [h.nodes c hy] at h1
    simp [entR] at h1
  have hcc : w.cell? ⟨c, 2, none⟩ = some (.pointer (some ⟨r, 0, none⟩)) := by unfold World.cell?; rw [h.row]; rfl
  refine (enter_any c x r g (r :: bs) kf vf nw od _ _ w h.nodes (List.mem_cons_self ..) hg h.nx eg hcc hcx h.xrow).mono ?_
  rintro e w' ⟨rfl, hN, hm⟩
  have hcm : c ∉ x :: r :: bs := by
    intro hi
    rcases List.mem_cons.1 hi with h1 | h1
    · exact hcx h1
    · exact hcn c h1 rfl
  have hbm : b ∉ x :: r :: bs := by
    intro hi
    rcases List.mem_cons.1 hi with h1 | h1
    · exact h.map.notCells h.xrow h1.symm
    · exact h.map.notCells (h.nodes b h1) rfl
  refine ⟨rfl, ⟨_, _, ⟨(hm.block c (Array.getElem?_eq_some_iff.1 h.row).1 hcm).trans h.row, hN.sub ?_, hl, ?_, h.map.kept hm hbm⟩⟩, hm⟩
  · intro y hy
    simp only [List.mem_cons] at hy ⊢
    rcases hy with h | h | h
    · exact Or.inr (Or.inl h)
    · exact Or.inl h
    · exact Or.inr (Or.inr h)
  · have hp2 : (r :: (x :: bs)).Perm (x :: r :: bs) := List.Perm.swap x r _
    exact (hp2.nodup_iff).2 (List.nodup_cons.2 ⟨h.nx, h.nd⟩)
/-- A new entry's box, and its place in the map. -/
theorem CI.grow {w w2 : World} {c b r : Nat} {M fd ak : Int} {bs : List Nat} {kf : Nat → List UInt8} {vf : Nat → Int} {nw od : Nat → Nat} (h : CI w c b r M fd ak bs kf vf nw od) (k : List UInt8) (v : Int) (hk : k.length ≤ maxLen) (hn : bs.length ≤ 100000) (hm : ∀ y ∈ bs, kf y ≠ k)
    (hw : w2 = w.alloc (.cells #[.string ⟨k.toArray⟩, .int .i64 v, .pointer none, .pointer none] 49)) (w' : World) (hb : Below w2.heap.size w2 w') :
    (w'.cell? ⟨c, 1, none⟩ = some (.map (some b)) ∧ w'.cell? ⟨w.heap.size, 0, none⟩ = some (.string ⟨k.toArray⟩)) ∧
    ∃ w3, (Instr.mapUpdate 50 (.map (some b)) (.string ⟨k.toArray⟩) (.pointer (some ⟨w.heap.size, 0, none⟩))).run Try.prog w' = .ok () w3 ∧ PI w3 c b r w.heap.size M fd ak bs (updK kf w.heap.size k) (updV vf w.heap.size v) nw od ∧ Mod (fun i => i = b) w' w3 := by
  have hC2 : CI w2 c b r M fd ak bs kf vf nw od := h.old (hw ▸ (Below.refl _ w).alloc (Nat.le_refl _) _)
  have hC := hC2.old hb
  have hx2 : w2.heap[w.heap.size]? = some (.cells #[.string ⟨k.toArray⟩, .int .i64 v, .pointer none, .pointer none] 49 (0, 0)) := by rw [hw]; exact heap_alloc_new _ _
  have hx : w'.heap[w.heap.size]? = _ := (hb.block _ (Array.getElem?_eq_some_iff.1 hx2).1).trans hx2
  refine ⟨⟨hC.cell.2.1, by unfold World.cell?; rw [hx]; rfl⟩, ?_⟩
  obtain ⟨w3, hr, hM, hmd⟩ := hC.map.store Try.underlying9 Try.underlying50 (by rw [List.length_map]; exact Nat.lt_of_le_of_lt hn (by simp [maxLen])) k hk (.pointer (some ⟨w.heap.size, 0, none⟩))
  have hne : ∀ y ∈ r :: bs, y ≠ w.heap.size := fun y hy e => Nat.lt_irrefl _ (e ▸ h.ylt hy)
  have hwo : without k (bs.map (entN kf)) = bs.map (entN kf) := List.filter_eq_self.2 fun y hy => by
    obtain ⟨z, hz, rfl⟩ := List.mem_map.1 hy
    simpa [entN] using hm z hz
  have hmp : bs.map (entN (updK kf w.heap.size k)) = bs.map (entN kf) := List.map_congr_left fun y hy => by
    unfold entN updK
    rw [if_neg (hne y (List.mem_cons_of_mem _ hy))]
  have hxb : w.heap.size ≠ b := fun e => Nat.lt_irrefl _ (e ▸ h.map.lt)
  refine ⟨w3, hr, ⟨(hmd.block c hC.clt hC.cb).trans hC.row, ?_, ?_, fun hi => hne _ hi rfl, h.lk, h.nd, ?_⟩, hmd⟩
  · intro y hy
    unfold updK updV
    rw [if_neg (hne y hy), if_neg (hne y hy)]
    exact (hmd.block y (hC.ylt hy) (hC.yb hy)).trans (hC.nodes y hy)
  · unfold updK updV
    rw [if_pos rfl, if_pos rfl]
    exact (hmd.block _ (Array.getElem?_eq_some_iff.1 hx).1 hxb).trans hx
  · rw [List.map_cons, hmp]
    rw [hwo] at hM
    have e : entN (updK kf w.heap.size k) w.heap.size = (k, .pointer (some ⟨w.heap.size, 0, none⟩)) := by unfold entN updK; rw [if_pos rfl]
    rw [e]; exact hM

set_option maxRecDepth 20000 in
set_option maxHeartbeats 2000000 in
theorem cput_fits (c b r : Nat) (M fd ak : Int) (bs : List Nat) (kf : Nat → List UInt8) (vf : Nat → Int) (nw1 od1 : Nat → Nat) (W1 : World) (h : CI W1 c b r M fd ak bs kf vf nw1 od1) (k : List UInt8) (hk : k.length ≤ 1000000) (v : Int) (hn : bs.length ≤ 100000) (hm : ∀ y ∈ bs, kf y ≠ k)
    (hf : ((bs.length + 1 : Nat) : Int) ≤ M) :
    Calls Try.prog 14 #[.pointer (some ⟨c, 0, none⟩), .string ⟨k.toArray⟩, .int .i64 v] W1 fun e w' => e = .returned (.tuple #[]) ∧ (∃ nd nw' od', W1.heap.size ≤ nd ∧ CI w' c b r M fd ak (nd :: bs) (updK kf nd k) (updV vf nd v) nw' od') ∧ Mod (fun i => i = b ∨ i ∈ r :: bs) W1 w' := by
  have hkm : k.length ≤ maxLen := by simp [maxLen]; omega
  have hl := h.map.look_ok Try.underlying9 Try.underlying50 (zeroE W1) k hkm
  have hq : (bs.find? fun y => kf y == k) = none := List.find?_eq_none.2 (fun y hy => by simpa using hm y hy)
  have ha : (bs.any fun y => kf y == k) = false := List.any_eq_false.2 (fun y hy => by simpa using hm y hy)
  rw [getK_ring, hasK_ring, hq, ha] at hl
  simp only at hl
  have c1 := h.cell.2.1
  have HC1 := Lib.hid h
  have HK := Lib.hid hkm
  have HK1 := Lib.hid hk
  have HN := Lib.hid hn
  have HNE := Lib.hid hm
  have HF := Lib.hid hf
  clear h hk hkm hq ha hn hm hf
  go_enter Try.func14, Try.ntmps14
  go_upto_region 1 with fail
  clear hl c1
  go_wp2_with fail
  refine (sclone_any k W1 HK1.out).mono ?_
  rintro e W1b ⟨rfl, hb1⟩
  have hC1b := HC1.out.old hb1
  have HB1 := Lib.hid hb1
  obtain ⟨nd, hnd⟩ : ∃ nd, nd = W1b.heap.size := ⟨_, rfl⟩
  obtain ⟨W2, hW2⟩ : ∃ W2, W2 = W1b.alloc (.cells #[.string ⟨k.toArray⟩, .int .i64 v, .pointer none, .pointer none] 49) := ⟨_, rfl⟩
  have HGR := Lib.hid (hC1b.grow k v HK.out HN.out HNE.out hW2)
  obtain ⟨kf2, hkf⟩ : ∃ kf2, kf2 = updK kf W1b.heap.size k := ⟨_, rfl⟩
  obtain ⟨vf2, hvf⟩ : ∃ vf2, vf2 = updV vf W1b.heap.size v := ⟨_, rfl⟩
  have HKF := Lib.hid (And.intro hkf hvf)
  rw [← hkf, ← hvf, ← hnd] at HGR
  have HS : Hid (∀ w' : World, Below W2.heap.size W2 w' → ∃ w3, (Instr.mapUpdate 50 (.map (some b)) (.string ⟨k.toArray⟩) (.pointer (some ⟨nd, 0, none⟩))).run Try.prog w' = .ok () w3 ∧ PI w3 c b r nd M fd ak bs kf2 vf2 nw1 od1 ∧ Mod (fun i => i = b) w' w3) := Lib.hid (fun w' hb => (HGR.out w' hb).2)
  have HP : Hid (∀ w' : World, Below W2.heap.size W2 w' → w'.cell? ⟨c, 1, none⟩ = some (.map (some b)) ∧ w'.cell? ⟨nd, 0, none⟩ = some (.string ⟨k.toArray⟩)) := Lib.hid (fun w' hb => (HGR.out w' hb).1)
  have HB2 : Hid (Below W1b.heap.size W1b W2) := Lib.hid (hW2 ▸ (Below.refl _ W1b).alloc (Nat.le_refl _) _)
  have HW2 := Lib.hid hW2
  have HND := Lib.hid hnd
  clear hb1 hC1b HGR hkf hvf hW2 hnd
  go_upto_region 4 with fail
  rw [← HW2.out, ← HND.out]
  have HG0 : Hid ((fun (j : Nat) (_ : Value) (w' : World) => (j = 0 → Below W2.heap.size W2 w') ∧ (j = 1 → ∃ w1, Below W2.heap.size W2 w1 ∧ PI w' c b r nd M fd ak bs kf2 vf2 nw1 od1 ∧ Mod (fun i => i = b) w1 w')) 0 undef W2.drew) := Lib.hid ⟨(fun _ => (Below.refl _ W2).drew), (fun h => absurd h (by omega))⟩
  refine CV.wp_region_chain (fun t v => match t with
    | 27 => v = .pointer (some ⟨c, 0, none⟩)
    | 28 => v = .pointer (some ⟨c, 0, none⟩)
    | 29 => v = .pointer (some ⟨c, 1, none⟩)
    | 30 => v = .map (some b)
    | 31 => v = .pointer (some ⟨nd, 0, none⟩)
    | 32 => v = .pointer (some ⟨nd, 0, none⟩)
    | 33 => v = .pointer (some ⟨nd, 0, none⟩)
    | 34 => v = .string ⟨k.toArray⟩
    | 35 => v = .pointer (some ⟨nd, 0, none⟩)
    | _ => True) (fun (j : Nat) (_ : Value) (w' : World) => (j = 0 → Below W2.heap.size W2 w') ∧ (j = 1 → ∃ w1, Below W2.heap.size W2 w1 ∧ PI w' c b r nd M fd ak bs kf2 vf2 nw1 od1 ∧ Mod (fun i => i = b) w1 w')) [9] 55 (by kernel_rfl) (by decide +kernel) rfl (by decide +kernel) (by decide) (by decide) HG0.out (by
    refine OweAllC.cons (owesC_val 0 (by decide +kernel) (by decide) rfl rfl fun k' a w1 x hk ha hG hV => ?_) ?_
    · skip
      have h0 := ha.outer 0 (by decide +kernel)
      simp only [Act.eval] at h0
      exact ⟨.pointer (some ⟨c, 0, none⟩), wanted_free rfl, by simp [execOp, go_sem, h0], rfl⟩
    refine OweAllC.cons (owesC_val 0 (by decide +kernel) (by decide) rfl rfl fun k' a w1 x hk ha hG hV => ?_) ?_
    · skip
      have h27 : a.tmps.getD 27 undef = .pointer (some ⟨c, 0, none⟩) := hV.get 27 (by decide +kernel)
      exact ⟨.pointer (some ⟨c, 0, none⟩), wanted_free rfl, by simp [execOp, go_sem, h27], rfl⟩
    refine OweAllC.cons (owesC_val 0 (by decide +kernel) (by decide) rfl rfl fun k' a w1 x hk ha hG hV => ?_) ?_
    · skip
      have h28 : a.tmps.getD 28 undef = .pointer (some ⟨c, 0, none⟩) := hV.get 28 (by decide +kernel)
      exact ⟨.pointer (some ⟨c, 1, none⟩), wanted_free rfl, by simp [execOp, go_sem, h28], rfl⟩
    refine OweAllC.cons (owesC_val 0 (by decide +kernel) (by decide) rfl rfl fun k' a w1 x hk ha hG hV => ?_) ?_
    · skip
      have h29 : a.tmps.getD 29 undef = .pointer (some ⟨c, 1, none⟩) := hV.get 29 (by decide +kernel)
      have cc := HP.out w1 (hG.1 (by omega))
      exact ⟨.map (some b), wanted_free rfl, by simp [execOp, go_sem, h29, cc.1], rfl⟩
    refine OweAllC.cons (owesC_val 0 (by decide +kernel) (by decide) rfl rfl fun k' a w1 x hk ha hG hV => ?_) ?_
    · skip
      have h8 := ha.outer 8 (by decide +kernel)
      simp only [Act.eval] at h8
      exact ⟨.pointer (some ⟨nd, 0, none⟩), wanted_free rfl, by simp [execOp, go_sem, h8], rfl⟩
    refine OweAllC.cons (owesC_val 0 (by decide +kernel) (by decide) rfl rfl fun k' a w1 x hk ha hG hV => ?_) ?_
    · skip
      have h31 : a.tmps.getD 31 undef = .pointer (some ⟨nd, 0, none⟩) := hV.get 31 (by decide +kernel)
      exact ⟨.pointer (some ⟨nd, 0, none⟩), wanted_free rfl, by simp [execOp, go_sem, h31], rfl⟩
    refine OweAllC.cons (owesC_val 0 (by decide +kernel) (by decide) rfl rfl fun k' a w1 x hk ha hG hV => ?_) ?_
    · skip
      have h32 : a.tmps.getD 32 undef = .pointer (some ⟨nd, 0, none⟩) := hV.get 32 (by decide +kernel)
      exact ⟨.pointer (some ⟨nd, 0, none⟩), wanted_free rfl, by simp [execOp, go_sem, h32], rfl⟩
    refine OweAllC.cons (owesC_val 0 (by decide +kernel) (by decide) rfl rfl fun k' a w1 x hk ha hG hV => ?_) ?_
    · skip
      have h33 : a.tmps.getD 33 undef = .pointer (some ⟨nd, 0, none⟩) := hV.get 33 (by decide +kernel)
      have cc := HP.out w1 (hG.1 (by omega))
      exact ⟨.string ⟨k.toArray⟩, wanted_free rfl, by simp [execOp, go_sem, h33, cc.2], rfl⟩
    refine OweAllC.cons (owesC_val 0 (by decide +kernel) (by decide) rfl rfl fun k' a w1 x hk ha hG hV => ?_) ?_
    · skip
      have h8 := ha.outer 8 (by decide +kernel)
      simp only [Act.eval] at h8
      exact ⟨.pointer (some ⟨nd, 0, none⟩), wanted_free rfl, by simp [execOp, go_sem, h8], rfl⟩
    refine OweAllC.cons (owesC_store 0 rfl rfl rfl fun a w1 x ha hG hx hV => ?_) ?_
    · skip
      have h30 : a.tmps.getD 30 undef = .map (some b) := hV.get 30 (by decide +kernel)
      have h34 : a.tmps.getD 34 undef = .string ⟨k.toArray⟩ := hV.get 34 (by decide +kernel)
      have h35 : a.tmps.getD 35 undef = .pointer (some ⟨nd, 0, none⟩) := hV.get 35 (by decide +kernel)
      have hb := hG.1 (by omega)
      obtain ⟨w2, hr, hm, hmd⟩ := HS.out w1 hb
      exact ⟨w2, wanted_free rfl, by simp [execOp, go_sem, h30, h34, h35, hr], (fun h => absurd h (by omega)), fun _ => ⟨w1, hb, hm, hmd⟩⟩
    exact OweAllC.nil
    ) ?_
  intro f wz xz hG hx hv
  first | (rename_i hK; refine hK _ _ ?_; clear hK) | (rename_i hK _; refine hK _ _ ?_; clear hK) | (rename_i hK _ _; refine hK _ _ ?_; clear hK) | (rename_i hK _ _ _; refine hK _ _ ?_; clear hK)
  clear hv hx
  simp only [dsts, puts, List.filterMap_cons, List.filterMap_nil, List.foldl_cons, List.foldl_nil, Act.put, List.setIfInBounds_toArray, List.set_cons_succ, List.set_cons_zero]
  obtain ⟨w1', hb3, hP3, hm3⟩ := hG.2 rfl
  have HEN := Lib.hid hP3.enter
  have HB3 := Lib.hid hb3
  have HMD3 := Lib.hid hm3
  have HPI := Lib.hid hP3
  clear hG hb3 hP3 hm3
  go_wp2_with fail
  refine HEN.out.mono ?_
  rintro e W4 ⟨rfl, ⟨nw4, od4, hC4⟩, hm4⟩
  have HC4 := Lib.hid hC4
  have HM4 := Lib.hid hm4
  obtain ⟨n, hnn⟩ : ∃ n, n = (nd :: bs).length := ⟨_, rfl⟩
  have HNN := Lib.hid hnn
  have HL : Hid (∀ w', Below W4.heap.size W4 w' → Calls Try.prog 17 #[.pointer (some ⟨c, 0, none⟩)] w' fun r w'' => r = .returned (.int .i64 (n : Int)) ∧ w'' = w') := Lib.hid (by
    intro w' hb
    have := clen_any c b r M fd ak _ kf2 vf2 nw4 od4 w' (HC4.out.old hb)
    rw [← HNN.out] at this; exact this)
  have hf2 : (n : Int) ≤ M := by have := HF.out; have := HNN.out; simp only [List.length_cons] at this; omega
  have HMA : Hid (Mod (fun i => i = b ∨ i ∈ r :: bs) W1 W4) := Lib.hid (by
    have m1 := (Mod.of_below HB1.out).trans (Mod.of_below HB2.out) (fun i hi h => Nat.le_trans HB1.out.size h)
    have m2 := m1.trans (Mod.of_below HB3.out) (fun i hi h => Nat.le_trans (Nat.le_trans HB1.out.size HB2.out.size) h)
    have m3 := (m2.mono (T := fun i => i = b ∨ i ∈ r :: bs) (fun i hi h => absurd hi (by omega))).trans HMD3.out (fun _ _ h => Or.inl h)
    refine m3.trans HM4.out (fun i hi h => ?_)
    rcases List.mem_cons.1 h with h1 | h1
    · have := HND.out; have := HB1.out.size; omega
    · exact Or.inr h1)
  clear hC4 hm4 hnn HEN HS HP
  go_wp2_with fail
  refine wp_region_puts (fun t v w => VK (match t with
    | 39 => .eq (.pointer (some ⟨c, 0, none⟩))
    | 40 => .eq (.int .i64 (n : Int))
    | 41 => .eq (.pointer (some ⟨c, 0, none⟩))
    | 42 => .eq (.pointer (some ⟨c, 0, none⟩))
    | 43 => .eq (.pointer (some ⟨c, 0, none⟩))
    | 44 => .eq (.int .i64 M)
    | 45 => .eq (Value.bool false)
    | _ => .any) v w) (fun w' => Below W4.heap.size W4 w') 55 (by kernel_rfl) (by decide +kernel) rfl (Below.refl _ _).drew (by
    refine OweAll.cons (owesK rfl rfl fun a w1 ha hG hV => ?_) ?_
    · skip
      have h0 := ha.outer 0 (by decide +kernel)
      simp only [Act.eval] at h0
      exact ⟨.pointer (some ⟨c, 0, none⟩), w1, wanted_free rfl, by simp [execOp, go_sem, h0], Below.refl _ _, rfl⟩
    refine OweAll.cons (owesK_call rfl rfl 17 fun a w1 ha hG hV => ?_) ?_
    · skip
      have h39 : a.tmps.getD 39 undef = .pointer (some ⟨c, 0, none⟩) := hV.get 39 (by decide +kernel)
      refine ⟨#[.pointer (some ⟨c, 0, none⟩)], wanted_free rfl, by simp [go_sem, h39], ?_⟩
      refine (HL.out w1 hG).mono ?_
      rintro e u2 ⟨rfl, rfl⟩; exact ⟨_, rfl, rfl, Below.refl _ _⟩
    refine OweAll.cons (owesK rfl rfl fun a w1 ha hG hV => ?_) ?_
    · skip
      have h0 := ha.outer 0 (by decide +kernel)
      simp only [Act.eval] at h0
      exact ⟨.pointer (some ⟨c, 0, none⟩), w1, wanted_free rfl, by simp [execOp, go_sem, h0], Below.refl _ _, rfl⟩
    refine OweAll.cons (owesK rfl rfl fun a w1 ha hG hV => ?_) ?_
    · skip
      have h41 : a.tmps.getD 41 undef = .pointer (some ⟨c, 0, none⟩) := hV.get 41 (by decide +kernel)
      exact ⟨.pointer (some ⟨c, 0, none⟩), w1, wanted_free rfl, by simp [execOp, go_sem, h41], Below.refl _ _, rfl⟩
    refine OweAll.cons (owesK rfl rfl fun a w1 ha hG hV => ?_) ?_
    · skip
      have h42 : a.tmps.getD 42 undef = .pointer (some ⟨c, 0, none⟩) := hV.get 42 (by decide +kernel)
      exact ⟨.pointer (some ⟨c, 0, none⟩), w1, wanted_free rfl, by simp [execOp, go_sem, h42], Below.refl _ _, rfl⟩
    refine OweAll.cons (owesK rfl rfl fun a w1 ha hG hV => ?_) ?_
    · skip
      have h43 : a.tmps.getD 43 undef = .pointer (some ⟨c, 0, none⟩) := hV.get 43 (by decide +kernel)
      have cc : w1.cell? ⟨c, 0, none⟩ = some (.int .i64 M) := (HC4.out.old hG).cell.1
      exact ⟨.int .i64 M, w1, wanted_free rfl, by simp [execOp, go_sem, h43, cc], Below.refl _ _, rfl⟩
    refine OweAll.cons (owesK rfl rfl fun a w1 ha hG hV => ?_) ?_
    · skip
      have h40 : a.tmps.getD 40 undef = .int .i64 (n : Int) := hV.get 40 (by decide +kernel)
      have h44 : a.tmps.getD 44 undef = .int .i64 M := hV.get 44 (by decide +kernel)
      exact ⟨Value.bool false, w1, wanted_free rfl, by simp [execOp, go_sem, h40, h44, hf2], Below.refl _ _, rfl⟩
    exact OweAll.nil
    ) ?_
  intro f wz hG hv
  have e45 : f 45 = Value.bool false := hv 6 _ 45 rfl rfl
  rename_i hK
  refine hK _ _ ?_
  clear hK hv
  simp only [dsts, puts, List.filterMap_cons, List.filterMap_nil, List.foldl_cons, List.foldl_nil, Act.put, List.setIfInBounds_toArray, List.set_cons_succ, List.set_cons_zero, e45]
  clear e45
  have HE : Hid (Below W4.heap.size W4 wz) := Lib.hid hG
  clear hG
  go_wp2_with fail
  go_end0
  obtain ⟨ek, ev⟩ := HKF.out
  rw [← HND.out] at ek ev
  have hC5 := HC4.out.old HE.out
  rw [ek, ev] at hC5
  have hnd1 := HND.out
  have hs1 := HB1.out.size
  exact ⟨rfl, ⟨nd, nw4, od4, by omega, hC5⟩, HMA.out.trans (Mod.of_below HE.out |>.mono (T := fun i => W4.heap.size ≤ i) (fun _ _ h => h)) (fun i hi h => absurd (Nat.lt_of_lt_of_le hi HMA.out.size) (by omega))⟩

set_option maxRecDepth 20000 in
set_option maxHeartbeats 2000000 in
theorem cput_goes (c b r z : Nat) (M fd ak : Int) (A : List Nat) (kf : Nat → List UInt8) (vf : Nat → Int) (nw1 od1 : Nat → Nat) (W1 : World) (h : CI W1 c b r M fd ak (A ++ [z]) kf vf nw1 od1) (k : List UInt8) (hk : k.length ≤ 1000000) (v : Int) (hn : (A ++ [z]).length ≤ 100000) (hm : ∀ y ∈ A ++ [z], kf y ≠ k)
    (hf : M < (((A ++ [z]).length + 1 : Nat) : Int)) :
    Calls Try.prog 14 #[.pointer (some ⟨c, 0, none⟩), .string ⟨k.toArray⟩, .int .i64 v] W1 fun e w' => e = .returned (.tuple #[]) ∧ (∃ nd nw' od', W1.heap.size ≤ nd ∧ CI w' c b r M fd ak (nd :: A) (updK kf nd k) (updV vf nd v) nw' od') ∧ Mod (fun i => i = b ∨ i ∈ r :: (A ++ [z])) W1 w' := by
  obtain ⟨bs, hbs⟩ : ∃ bs, bs = A ++ [z] := ⟨_, rfl⟩
  rw [← hbs] at h hn hm hf ⊢
  have hkm : k.length ≤ maxLen := by simp [maxLen]; omega
  have hl := h.map.look_ok Try.underlying9 Try.underlying50 (zeroE W1) k hkm
  have hq : (bs.find? fun y => kf y == k) = none := List.find?_eq_none.2 (fun y hy => by simpa using hm y hy)
  have ha : (bs.any fun y => kf y == k) = false := List.any_eq_false.2 (fun y hy => by simpa using hm y hy)
  rw [getK_ring, hasK_ring, hq, ha] at hl
  simp only at hl
  have c1 := h.cell.2.1
  have HC1 := Lib.hid h
  have HK := Lib.hid hkm
  have HK1 := Lib.hid hk
  have HN := Lib.hid hn
  have HNE := Lib.hid hm
  have HF := Lib.hid hf
  have HBS := Lib.hid hbs
  clear h hk hkm hq ha hn hm hf hbs
  go_enter Try.func14, Try.ntmps14
  go_upto_region 1 with fail
  clear hl c1
  go_wp2_with fail
  refine (sclone_any k W1 HK1.out).mono ?_
  rintro e W1b ⟨rfl, hb1⟩
  have hC1b := HC1.out.old hb1
  have HB1 := Lib.hid hb1
  obtain ⟨nd, hnd⟩ : ∃ nd, nd = W1b.heap.size := ⟨_, rfl⟩
  obtain ⟨W2, hW2⟩ : ∃ W2, W2 = W1b.alloc (.cells #[.string ⟨k.toArray⟩, .int .i64 v, .pointer none, .pointer none] 49) := ⟨_, rfl⟩
  have HGR := Lib.hid (hC1b.grow k v HK.out HN.out HNE.out hW2)
  obtain ⟨kf2, hkf⟩ : ∃ kf2, kf2 = updK kf W1b.heap.size k := ⟨_, rfl⟩
  obtain ⟨vf2, hvf⟩ : ∃ vf2, vf2 = updV vf W1b.heap.size v := ⟨_, rfl⟩
  have HKF := Lib.hid (And.intro hkf hvf)
  rw [← hkf, ← hvf, ← hnd] at HGR
  have HS : Hid (∀ w' : World, Below W2.heap.size W2 w' → ∃ w3, (Instr.mapUpdate 50 (.map (some b)) (.string ⟨k.toArray⟩) (.pointer (some ⟨nd, 0, none⟩))).run Try.prog w' = .ok () w3 ∧ PI w3 c b r nd M fd ak bs kf2 vf2 nw1 od1 ∧ Mod (fun i => i = b) w' w3) := Lib.hid (fun w' hb => (HGR.out w' hb).2)
  have HP : Hid (∀ w' : World, Below W2.heap.size W2 w' → w'.cell? ⟨c, 1, none⟩ = some (.map (some b)) ∧ w'.cell? ⟨nd, 0, none⟩ = some (.string ⟨k.toArray⟩)) := Lib.hid (fun w' hb => (HGR.out w' hb).1)
  have HB2 : Hid (Below W1b.heap.size W1b W2) := Lib.hid (hW2 ▸ (Below.refl _ W1b).alloc (Nat.le_refl _) _)
  have HW2 := Lib.hid hW2
  have HND := Lib.hid hnd
  clear hb1 hC1b HGR hkf hvf hW2 hnd
  go_upto_region 4 with fail
  rw [← HW2.out, ← HND.out]
  have HG0 : Hid ((fun (j : Nat) (_ : Value) (w' : World) => (j = 0 → Below W2.heap.size W2 w') ∧ (j = 1 → ∃ w1, Below W2.heap.size W2 w1 ∧ PI w' c b r nd M fd ak bs kf2 vf2 nw1 od1 ∧ Mod (fun i => i = b) w1 w')) 0 undef W2.drew) := Lib.hid ⟨(fun _ => (Below.refl _ W2).drew), (fun h => absurd h (by omega))⟩
  refine CV.wp_region_chain (fun t v => match t with
    | 27 => v = .pointer (some ⟨c, 0, none⟩)
    | 28 => v = .pointer (some ⟨c, 0, none⟩)
    | 29 => v = .pointer (some ⟨c, 1, none⟩)
    | 30 => v = .map (some b)
    | 31 => v = .pointer (some ⟨nd, 0, none⟩)
    | 32 => v = .pointer (some ⟨nd, 0, none⟩)
    | 33 => v = .pointer (some ⟨nd, 0, none⟩)
    | 34 => v = .string ⟨k.toArray⟩
    | 35 => v = .pointer (some ⟨nd, 0, none⟩)
    | _ => True) (fun (j : Nat) (_ : Value) (w' : World) => (j = 0 → Below W2.heap.size W2 w') ∧ (j = 1 → ∃ w1, Below W2.heap.size W2 w1 ∧ PI w' c b r nd M fd ak bs kf2 vf2 nw1 od1 ∧ Mod (fun i => i = b) w1 w')) [9] 55 (by kernel_rfl) (by decide +kernel) rfl (by decide +kernel) (by decide) (by decide) HG0.out (by
    refine OweAllC.cons (owesC_val 0 (by decide +kernel) (by decide) rfl rfl fun k' a w1 x hk ha hG hV => ?_) ?_
    · skip
      have h0 := ha.outer 0 (by decide +kernel)
      simp only [Act.eval] at h0
      exact ⟨.pointer (some ⟨c, 0, none⟩), wanted_free rfl, by simp [execOp, go_sem, h0], rfl⟩
    refine OweAllC.cons (owesC_val 0 (by decide +kernel) (by decide) rfl rfl fun k' a w1 x hk ha hG hV => ?_) ?_
    · skip
      have h27 : a.tmps.getD 27 undef = .pointer (some ⟨c, 0, none⟩) := hV.get 27 (by decide +kernel)
      exact ⟨.pointer (some ⟨c, 0, none⟩), wanted_free rfl, by simp [execOp, go_sem, h27], rfl⟩
    refine OweAllC.cons (owesC_val 0 (by decide +kernel) (by decide) rfl rfl fun k' a w1 x hk ha hG hV => ?_) ?_
    · skip
      have h28 : a.tmps.getD 28 undef = .pointer (some ⟨c, 0, none⟩) := hV.get 28 (by decide +kernel)
      exact ⟨.pointer (some ⟨c, 1, none⟩), wanted_free rfl, by simp [execOp, go_sem, h28], rfl⟩
    refine OweAllC.cons (owesC_val 0 (by decide +kernel) (by decide) rfl rfl fun k' a w1 x hk ha hG hV => ?_) ?_
    · skip
      have h29 : a.tmps.getD 29 undef = .pointer (some ⟨c, 1, none⟩) := hV.get 29 (by decide +kernel)
      have cc := HP.out w1 (hG.1 (by omega))
      exact ⟨.map (some b), wanted_free rfl, by simp [execOp, go_sem, h29, cc.1], rfl⟩
    refine OweAllC.cons (owesC_val 0 (by decide +kernel) (by decide) rfl rfl fun k' a w1 x hk ha hG hV => ?_) ?_
    · skip
      have h8 := ha.outer 8 (by decide +kernel)
      simp only [Act.eval] at h8
      exact ⟨.pointer (some ⟨nd, 0, none⟩), wanted_free rfl, by simp [execOp, go_sem, h8], rfl⟩
    refine OweAllC.cons (owesC_val 0 (by decide +kernel) (by decide) rfl rfl fun k' a w1 x hk ha hG hV => ?_) ?_
    · skip
      have h31 : a.tmps.getD 31 undef = .pointer (some ⟨nd, 0, none⟩) := hV.get 31 (by decide +kernel)
      exact ⟨.pointer (some ⟨nd, 0, none⟩), wanted_free rfl, by simp [execOp, go_sem, h31], rfl⟩
    refine OweAllC.cons (owesC_val 0 (by decide +kernel) (by decide) rfl rfl fun k' a w1 x hk ha hG hV => ?_) ?_
    · skip
      have h32 : a.tmps.getD 32 undef = .pointer (some ⟨nd, 0, none⟩) := hV.get 32 (by decide +kernel)
      exact ⟨.pointer (some ⟨nd, 0, none⟩), wanted_free rfl, by simp [execOp, go_sem, h32], rfl⟩
    refine OweAllC.cons (owesC_val 0 (by decide +kernel) (by decide) rfl rfl fun k' a w1 x hk ha hG hV => ?_) ?_
    · skip
      have h33 : a.tmps.getD 33 undef = .pointer (some ⟨nd, 0, none⟩) := hV.get 33 (by decide +kernel)
      have cc := HP.out w1 (hG.1 (by omega))
      exact ⟨.string ⟨k.toArray⟩, wanted_free rfl, by simp [execOp, go_sem, h33, cc.2], rfl⟩
    refine OweAllC.cons (owesC_val 0 (by decide +kernel) (by decide) rfl rfl fun k' a w1 x hk ha hG hV => ?_) ?_
    · skip
      have h8 := ha.outer 8 (by decide +kernel)
      simp only [Act.eval] at h8
      exact ⟨.pointer (some ⟨nd, 0, none⟩), wanted_free rfl, by simp [execOp, go_sem, h8], rfl⟩
    refine OweAllC.cons (owesC_store 0 rfl rfl rfl fun a w1 x ha hG hx hV => ?_) ?_
    · skip
      have h30 : a.tmps.getD 30 undef = .map (some b) := hV.get 30 (by decide +kernel)
      have h34 : a.tmps.getD 34 undef = .string ⟨k.toArray⟩ := hV.get 34 (by decide +kernel)
      have h35 : a.tmps.getD 35 undef = .pointer (some ⟨nd, 0, none⟩) := hV.get 35 (by decide +kernel)
      have hb := hG.1 (by omega)
      obtain ⟨w2, hr, hm, hmd⟩ := HS.out w1 hb
      exact ⟨w2, wanted_free rfl, by simp [execOp, go_sem, h30, h34, h35, hr], (fun h => absurd h (by omega)), fun _ => ⟨w1, hb, hm, hmd⟩⟩
    exact OweAllC.nil
    ) ?_
  intro f wz xz hG hx hv
  first | (rename_i hK; refine hK _ _ ?_; clear hK) | (rename_i hK _; refine hK _ _ ?_; clear hK) | (rename_i hK _ _; refine hK _ _ ?_; clear hK) | (rename_i hK _ _ _; refine hK _ _ ?_; clear hK)
  clear hv hx
  simp only [dsts, puts, List.filterMap_cons, List.filterMap_nil, List.foldl_cons, List.foldl_nil, Act.put, List.setIfInBounds_toArray, List.set_cons_succ, List.set_cons_zero]
  obtain ⟨w1', hb3, hP3, hm3⟩ := hG.2 rfl
  have HEN := Lib.hid hP3.enter
  have HB3 := Lib.hid hb3
  have HMD3 := Lib.hid hm3
  have HPI := Lib.hid hP3
  clear hG hb3 hP3 hm3
  go_wp2_with fail
  refine HEN.out.mono ?_
  rintro e W4 ⟨rfl, ⟨nw4, od4, hC4⟩, hm4⟩
  have HC4 := Lib.hid hC4
  have HM4 := Lib.hid hm4
  obtain ⟨n, hnn⟩ : ∃ n, n = (nd :: bs).length := ⟨_, rfl⟩
  have HNN := Lib.hid hnn
  have HL : Hid (∀ w', Below W4.heap.size W4 w' → Calls Try.prog 17 #[.pointer (some ⟨c, 0, none⟩)] w' fun r w'' => r = .returned (.int .i64 (n : Int)) ∧ w'' = w') := Lib.hid (by
    intro w' hb
    have := clen_any c b r M fd ak _ kf2 vf2 nw4 od4 w' (HC4.out.old hb)
    rw [← HNN.out] at this; exact this)
  have hf2 : ¬ (n : Int) ≤ M := by have := HF.out; have := HNN.out; simp only [List.length_cons] at this; omega
  have HMA : Hid (Mod (fun i => i = b ∨ i ∈ r :: bs) W1 W4) := Lib.hid (by
    have m1 := (Mod.of_below HB1.out).trans (Mod.of_below HB2.out) (fun i hi h => Nat.le_trans HB1.out.size h)
    have m2 := m1.trans (Mod.of_below HB3.out) (fun i hi h => Nat.le_trans (Nat.le_trans HB1.out.size HB2.out.size) h)
    have m3 := (m2.mono (T := fun i => i = b ∨ i ∈ r :: bs) (fun i hi h => absurd hi (by omega))).trans HMD3.out (fun _ _ h => Or.inl h)
    refine m3.trans HM4.out (fun i hi h => ?_)
    rcases List.mem_cons.1 h with h1 | h1
    · have := HND.out; have := HB1.out.size; omega
    · exact Or.inr h1)
  clear hC4 hm4 hnn HEN HS HP
  go_wp2_with fail
  refine wp_region_puts (fun t v w => VK (match t with
    | 39 => .eq (.pointer (some ⟨c, 0, none⟩))
    | 40 => .eq (.int .i64 (n : Int))
    | 41 => .eq (.pointer (some ⟨c, 0, none⟩))
    | 42 => .eq (.pointer (some ⟨c, 0, none⟩))
    | 43 => .eq (.pointer (some ⟨c, 0, none⟩))
    | 44 => .eq (.int .i64 M)
    | 45 => .eq (Value.bool true)
    | _ => .any) v w) (fun w' => Below W4.heap.size W4 w') 55 (by kernel_rfl) (by decide +kernel) rfl (Below.refl _ _).drew (by
    refine OweAll.cons (owesK rfl rfl fun a w1 ha hG hV => ?_) ?_
    · skip
      have h0 := ha.outer 0 (by decide +kernel)
      simp only [Act.eval] at h0
      exact ⟨.pointer (some ⟨c, 0, none⟩), w1, wanted_free rfl, by simp [execOp, go_sem, h0], Below.refl _ _, rfl⟩
    refine OweAll.cons (owesK_call rfl rfl 17 fun a w1 ha hG hV => ?_) ?_
    · skip
      have h39 : a.tmps.getD 39 undef = .pointer (some ⟨c, 0, none⟩) := hV.get 39 (by decide +kernel)
      refine ⟨#[.pointer (some ⟨c, 0, none⟩)], wanted_free rfl, by simp [go_sem, h39], ?_⟩
      refine (HL.out w1 hG).mono ?_
      rintro e u2 ⟨rfl, rfl⟩; exact ⟨_, rfl, rfl, Below.refl _ _⟩
    refine OweAll.cons (owesK rfl rfl fun a w1 ha hG hV => ?_) ?_
    · skip
      have h0 := ha.outer 0 (by decide +kernel)
      simp only [Act.eval] at h0
      exact ⟨.pointer (some ⟨c, 0, none⟩), w1, wanted_free rfl, by simp [execOp, go_sem, h0], Below.refl _ _, rfl⟩
    refine OweAll.cons (owesK rfl rfl fun a w1 ha hG hV => ?_) ?_
    · skip
      have h41 : a.tmps.getD 41 undef = .pointer (some ⟨c, 0, none⟩) := hV.get 41 (by decide +kernel)
      exact ⟨.pointer (some ⟨c, 0, none⟩), w1, wanted_free rfl, by simp [execOp, go_sem, h41], Below.refl _ _, rfl⟩
    refine OweAll.cons (owesK rfl rfl fun a w1 ha hG hV => ?_) ?_
    · skip
      have h42 : a.tmps.getD 42 undef = .pointer (some ⟨c, 0, none⟩) := hV.get 42 (by decide +kernel)
      exact ⟨.pointer (some ⟨c, 0, none⟩), w1, wanted_free rfl, by simp [execOp, go_sem, h42], Below.refl _ _, rfl⟩
    refine OweAll.cons (owesK rfl rfl fun a w1 ha hG hV => ?_) ?_
    · skip
      have h43 : a.tmps.getD 43 undef = .pointer (some ⟨c, 0, none⟩) := hV.get 43 (by decide +kernel)
      have cc : w1.cell? ⟨c, 0, none⟩ = some (.int .i64 M) := (HC4.out.old hG).cell.1
      exact ⟨.int .i64 M, w1, wanted_free rfl, by simp [execOp, go_sem, h43, cc], Below.refl _ _, rfl⟩
    refine OweAll.cons (owesK rfl rfl fun a w1 ha hG hV => ?_) ?_
    · skip
      have h40 : a.tmps.getD 40 undef = .int .i64 (n : Int) := hV.get 40 (by decide +kernel)
      have h44 : a.tmps.getD 44 undef = .int .i64 M := hV.get 44 (by decide +kernel)
      exact ⟨Value.bool true, w1, wanted_free rfl, by simp [execOp, go_sem, h40, h44, hf2], Below.refl _ _, rfl⟩
    exact OweAll.nil
    ) ?_
  intro f wz hG hv
  have e45 : f 45 = Value.bool true := hv 6 _ 45 rfl rfl
  rename_i hK
  refine hK _ _ ?_
  clear hK hv
  simp only [dsts, puts, List.filterMap_cons, List.filterMap_nil, List.foldl_cons, List.foldl_nil, Act.put, List.setIfInBounds_toArray, List.set_cons_succ, List.set_cons_zero, e45]
  clear e45
  have HE : Hid (Below W4.heap.size W4 wz) := Lib.hid hG
  clear hG
  have hC5 := HC4.out.old HE.out
  have e1 : nd :: bs = (nd :: A) ++ z :: [] := by rw [HBS.out]; rfl
  rw [e1] at hC5
  have er : nw4 r = z := ring_last (A := nd :: A) hC5.lk
  have c2 := hC5.cell.2.2.1
  have c3 := (hC5.nodes.cell (List.mem_cons_self ..)).2.2.1
  rw [er] at c3
  have HDR := Lib.hid (cdrop_any c b r z M fd ak (nd :: A) [] kf2 vf2 nw4 od4 wz hC5)
  clear hC5 e1 er hf2
  go_wp2_with fail
  refine HDR.out.mono ?_
  rintro e W6 ⟨rfl, ⟨nw6, od6, hC6⟩, hm6⟩
  have HC6 := Lib.hid hC6
  have HM6 := Lib.hid hm6
  clear hC6 hm6 HDR c2 c3
  go_wp2_with fail
  go_end0
  obtain ⟨ek, ev⟩ := HKF.out
  rw [← HND.out] at ek ev
  have hC7 := HC6.out
  rw [ek, ev, List.append_nil] at hC7
  have hnd1 := HND.out
  have hs1 := HB1.out.size
  have ms := HMA.out.trans (Mod.of_below HE.out |>.mono (T := fun i => W4.heap.size ≤ i) (fun _ _ h => h)) (fun i hi h => absurd (Nat.lt_of_lt_of_le hi HMA.out.size) (by omega))
  refine ⟨rfl, ⟨nd, nw6, od6, by omega, hC7⟩, ms.trans HM6.out (fun i hi h => ?_)⟩
  rcases h with h | h
  · exact Or.inl h
  · refine Or.inr ?_
    rw [HBS.out]
    have hi2 : i ≠ nd := by omega
    simp only [List.mem_cons, List.cons_append] at h ⊢
    rcases h with h | h | h
    · exact Or.inl h
    · exact absurd h hi2
    · exact Or.inr h

set_option maxRecDepth 20000 in
set_option maxHeartbeats 2000000 in
theorem cput_old (c b r x : Nat) (M fd ak : Int) (A R : List Nat) (kf : Nat → List UInt8) (vf : Nat → Int) (nw od : Nat → Nat) (w : World) (h : CI w c b r M fd ak (A ++ x :: R) kf vf nw od) (k : List UInt8) (hkx : kf x = k) (hk : k.length ≤ 1000000) (v : Int) (hn : (A ++ x :: R).length ≤ 100000)
    (hf : ((A ++ x :: R).length : Int) ≤ M) :
    Calls Try.prog 14 #[.pointer (some ⟨c, 0, none⟩), .string ⟨k.toArray⟩, .int .i64 v] w fun e w' => e = .returned (.tuple #[]) ∧ (∃ nd nw' od', w.heap.size ≤ nd ∧ CI w' c b r M fd ak (nd :: (A ++ R)) (updK kf nd k) (updV vf nd v) nw' od') ∧ Mod (fun i => i = b ∨ i ∈ r :: (A ++ x :: R)) w w' := by
  obtain ⟨bs, hbs⟩ : ∃ bs, bs = A ++ R := ⟨_, rfl⟩
  have hkm : k.length ≤ maxLen := by simp [maxLen]; omega
  have hl := h.map.look_ok Try.underlying9 Try.underlying50 (zeroE w) k hkm
  have hxm : x ∈ A ++ x :: R := List.mem_append_right _ (List.mem_cons_self ..)
  obtain ⟨hd1, hx1⟩ := nodup_mid h.nd
  have hq : ((A ++ x :: R).find? fun y => kf y == k) = some x := by
    rw [List.find?_append, List.find?_cons_of_pos (by simp [hkx]), List.find?_eq_none.2, Option.none_or]
    intro y hy he
    have e := h.inj (List.mem_append_left _ hy) hxm (by rw [hkx]; simpa using he)
    exact hx1 (e ▸ List.mem_cons_of_mem _ (List.mem_append_left _ hy))
  have ha : ((A ++ x :: R).any fun y => kf y == k) = true := List.any_eq_true.2 ⟨x, hxm, by simp [hkx]⟩
  have hm : ∀ y ∈ bs, kf y ≠ k := by
    intro y hy he
    rw [hbs] at hy
    have hy2 : y ∈ A ++ x :: R := by
      rcases List.mem_append.1 hy with h | h
      · exact List.mem_append_left _ h
      · exact List.mem_append_right _ (List.mem_cons_of_mem _ h)
    have e := h.inj hy2 hxm (by rw [hkx]; exact he)
    exact hx1 (e ▸ List.mem_cons_of_mem _ hy)
  rw [getK_ring, hasK_ring, hq, ha] at hl
  simp only at hl
  have c1 := h.cell.2.1
  have HDR := cdrop_any c b r x M fd ak A R kf vf nw od w h
  rw [← hbs] at HDR ⊢
  have HDR := Lib.hid HDR
  have HK := Lib.hid hkm
  have HK1 := Lib.hid hk
  have hlen : (A ++ x :: R).length = bs.length + 1 := by rw [hbs]; simp; omega
  have HN : Hid (bs.length ≤ 100000) := Lib.hid (by omega)
  have HNE := Lib.hid hm
  have HF : Hid (((bs.length + 1 : Nat) : Int) ≤ M) := Lib.hid (by rw [hlen] at hf; exact hf)
  have HSB : Hid (∀ i, i ∈ r :: bs → i ∈ r :: (A ++ x :: R)) := Lib.hid (by
    intro i hi
    rw [hbs] at hi
    rcases List.mem_cons.1 hi with h | hi
    · exact h ▸ List.mem_cons_self ..
    · refine List.mem_cons_of_mem _ ?_
      rcases List.mem_append.1 hi with h | h
      · exact List.mem_append_left _ h
      · exact List.mem_append_right _ (List.mem_cons_of_mem _ h))
  clear h hk hkm hq ha hn hm hf hbs hlen hd1 hx1 hxm hkx
  go_enter Try.func14, Try.ntmps14
  go_wp2_with fail
  refine HDR.out.mono ?_
  rintro e W1 ⟨rfl, ⟨nw1, od1, hC1⟩, hmd⟩
  have HC1 := Lib.hid hC1
  have HMD := Lib.hid hmd
  clear hl c1 hC1 hmd HDR
  go_wp2_with fail
  refine (sclone_any k W1 HK1.out).mono ?_
  rintro e W1b ⟨rfl, hb1⟩
  have hC1b := HC1.out.old hb1
  have HB1 := Lib.hid hb1
  obtain ⟨nd, hnd⟩ : ∃ nd, nd = W1b.heap.size := ⟨_, rfl⟩
  obtain ⟨W2, hW2⟩ : ∃ W2, W2 = W1b.alloc (.cells #[.string ⟨k.toArray⟩, .int .i64 v, .pointer none, .pointer none] 49) := ⟨_, rfl⟩
  have HGR := Lib.hid (hC1b.grow k v HK.out HN.out HNE.out hW2)
  obtain ⟨kf2, hkf⟩ : ∃ kf2, kf2 = updK kf W1b.heap.size k := ⟨_, rfl⟩
  obtain ⟨vf2, hvf⟩ : ∃ vf2, vf2 = updV vf W1b.heap.size v := ⟨_, rfl⟩
  have HKF := Lib.hid (And.intro hkf hvf)
  rw [← hkf, ← hvf, ← hnd] at HGR
  have HS : Hid (∀ w' : World, Below W2.heap.size W2 w' → ∃ w3, (Instr.mapUpdate 50 (.map (some b)) (.string ⟨k.toArray⟩) (.pointer (some ⟨nd, 0, none⟩))).run Try.prog w' = .ok () w3 ∧ PI w3 c b r nd M fd ak bs kf2 vf2 nw1 od1 ∧ Mod (fun i => i = b) w' w3) := Lib.hid (fun w' hb => (HGR.out w' hb).2)
  have HP : Hid (∀ w' : World, Below W2.heap.size W2 w' → w'.cell? ⟨c, 1, none⟩ = some (.map (some b)) ∧ w'.cell? ⟨nd, 0, none⟩ = some (.string ⟨k.toArray⟩)) := Lib.hid (fun w' hb => (HGR.out w' hb).1)
  have HB2 : Hid (Below W1b.heap.size W1b W2) := Lib.hid (hW2 ▸ (Below.refl _ W1b).alloc (Nat.le_refl _) _)
  have HW2 := Lib.hid hW2
  have HND := Lib.hid hnd
  clear hb1 hC1b HGR hkf hvf hW2 hnd
  go_upto_region 4 with fail
  rw [← HW2.out, ← HND.out]
  have HG0 : Hid ((fun (j : Nat) (_ : Value) (w' : World) => (j = 0 → Below W2.heap.size W2 w') ∧ (j = 1 → ∃ w1, Below W2.heap.size W2 w1 ∧ PI w' c b r nd M fd ak bs kf2 vf2 nw1 od1 ∧ Mod (fun i => i = b) w1 w')) 0 undef W2.drew) := Lib.hid ⟨(fun _ => (Below.refl _ W2).drew), (fun h => absurd h (by omega))⟩
  refine CV.wp_region_chain (fun t v => match t with
    | 27 => v = .pointer (some ⟨c, 0, none⟩)
    | 28 => v = .pointer (some ⟨c, 0, none⟩)
    | 29 => v = .pointer (some ⟨c, 1, none⟩)
    | 30 => v = .map (some b)
    | 31 => v = .pointer (some ⟨nd, 0, none⟩)
    | 32 => v = .pointer (some ⟨nd, 0, none⟩)
    | 33 => v = .pointer (some ⟨nd, 0, none⟩)
    | 34 => v = .string ⟨k.toArray⟩
    | 35 => v = .pointer (some ⟨nd, 0, none⟩)
    | _ => True) (fun (j : Nat) (_ : Value) (w' : World) => (j = 0 → Below W2.heap.size W2 w') ∧ (j = 1 → ∃ w1, Below W2.heap.size W2 w1 ∧ PI w' c b r nd M fd ak bs kf2 vf2 nw1 od1 ∧ Mod (fun i => i = b) w1 w')) [9] 55 (by kernel_rfl) (by decide +kernel) rfl (by decide +kernel) (by decide) (by decide) HG0.out (by
    refine OweAllC.cons (owesC_val 0 (by decide +kernel) (by decide) rfl rfl fun k' a w1 x hk ha hG hV => ?_) ?_
    · skip
      have h0 := ha.outer 0 (by decide +kernel)
      simp only [Act.eval] at h0
      exact ⟨.pointer (some ⟨c, 0, none⟩), wanted_free rfl, by simp [execOp, go_sem, h0], rfl⟩
    refine OweAllC.cons (owesC_val 0 (by decide +kernel) (by decide) rfl rfl fun k' a w1 x hk ha hG hV => ?_) ?_
    · skip
      have h27 : a.tmps.getD 27 undef = .pointer (some ⟨c, 0, none⟩) := hV.get 27 (by decide +kernel)
      exact ⟨.pointer (some ⟨c, 0, none⟩), wanted_free rfl, by simp [execOp, go_sem, h27], rfl⟩
    refine OweAllC.cons (owesC_val 0 (by decide +kernel) (by decide) rfl rfl fun k' a w1 x hk ha hG hV => ?_) ?_
    · skip
      have h28 : a.tmps.getD 28 undef = .pointer (some ⟨c, 0, none⟩) := hV.get 28 (by decide +kernel)
      exact ⟨.pointer (some ⟨c, 1, none⟩), wanted_free rfl, by simp [execOp, go_sem, h28], rfl⟩
    refine OweAllC.cons (owesC_val 0 (by decide +kernel) (by decide) rfl rfl fun k' a w1 x hk ha hG hV => ?_) ?_
    · skip
      have h29 : a.tmps.getD 29 undef = .pointer (some ⟨c, 1, none⟩) := hV.get 29 (by decide +kernel)
      have cc := HP.out w1 (hG.1 (by omega))
      exact ⟨.map (some b), wanted_free rfl, by simp [execOp, go_sem, h29, cc.1], rfl⟩
    refine OweAllC.cons (owesC_val 0 (by decide +kernel) (by decide) rfl rfl fun k' a w1 x hk ha hG hV => ?_) ?_
    · skip
      have h8 := ha.outer 8 (by decide +kernel)
      simp only [Act.eval] at h8
      exact ⟨.pointer (some ⟨nd, 0, none⟩), wanted_free rfl, by simp [execOp, go_sem, h8], rfl⟩
    refine OweAllC.cons (owesC_val 0 (by decide +kernel) (by decide) rfl rfl fun k' a w1 x hk ha hG hV => ?_) ?_
    · skip
      have h31 : a.tmps.getD 31 undef = .pointer (some ⟨nd, 0, none⟩) := hV.get 31 (by decide +kernel)
      exact ⟨.pointer (some ⟨nd, 0, none⟩), wanted_free rfl, by simp [execOp, go_sem, h31], rfl⟩
    refine OweAllC.cons (owesC_val 0 (by decide +kernel) (by decide) rfl rfl fun k' a w1 x hk ha hG hV => ?_) ?_
    · skip
      have h32 : a.tmps.getD 32 undef = .pointer (some ⟨nd, 0, none⟩) := hV.get 32 (by decide +kernel)
      exact ⟨.pointer (some ⟨nd, 0, none⟩), wanted_free rfl, by simp [execOp, go_sem, h32], rfl⟩
    refine OweAllC.cons (owesC_val 0 (by decide +kernel) (by decide) rfl rfl fun k' a w1 x hk ha hG hV => ?_) ?_
    · skip
      have h33 : a.tmps.getD 33 undef = .pointer (some ⟨nd, 0, none⟩) := hV.get 33 (by decide +kernel)
      have cc := HP.out w1 (hG.1 (by omega))
      exact ⟨.string ⟨k.toArray⟩, wanted_free rfl, by simp [execOp, go_sem, h33, cc.2], rfl⟩
    refine OweAllC.cons (owesC_val 0 (by decide +kernel) (by decide) rfl rfl fun k' a w1 x hk ha hG hV => ?_) ?_
    · skip
      have h8 := ha.outer 8 (by decide +kernel)
      simp only [Act.eval] at h8
      exact ⟨.pointer (some ⟨nd, 0, none⟩), wanted_free rfl, by simp [execOp, go_sem, h8], rfl⟩
    refine OweAllC.cons (owesC_store 0 rfl rfl rfl fun a w1 x ha hG hx hV => ?_) ?_
    · skip
      have h30 : a.tmps.getD 30 undef = .map (some b) := hV.get 30 (by decide +kernel)
      have h34 : a.tmps.getD 34 undef = .string ⟨k.toArray⟩ := hV.get 34 (by decide +kernel)
      have h35 : a.tmps.getD 35 undef = .pointer (some ⟨nd, 0, none⟩) := hV.get 35 (by decide +kernel)
      have hb := hG.1 (by omega)
      obtain ⟨w2, hr, hm, hmd⟩ := HS.out w1 hb
      exact ⟨w2, wanted_free rfl, by simp [execOp, go_sem, h30, h34, h35, hr], (fun h => absurd h (by omega)), fun _ => ⟨w1, hb, hm, hmd⟩⟩
    exact OweAllC.nil
    ) ?_
  intro f wz xz hG hx hv
  first | (rename_i hK; refine hK _ _ ?_; clear hK) | (rename_i hK _; refine hK _ _ ?_; clear hK) | (rename_i hK _ _; refine hK _ _ ?_; clear hK) | (rename_i hK _ _ _; refine hK _ _ ?_; clear hK)
  clear hv hx
  simp only [dsts, puts, List.filterMap_cons, List.filterMap_nil, List.foldl_cons, List.foldl_nil, Act.put, List.setIfInBounds_toArray, List.set_cons_succ, List.set_cons_zero]
  obtain ⟨w1', hb3, hP3, hm3⟩ := hG.2 rfl
  have HEN := Lib.hid hP3.enter
  have HB3 := Lib.hid hb3
  have HMD3 := Lib.hid hm3
  have HPI := Lib.hid hP3
  clear hG hb3 hP3 hm3
  go_wp2_with fail
  refine HEN.out.mono ?_
  rintro e W4 ⟨rfl, ⟨nw4, od4, hC4⟩, hm4⟩
  have HC4 := Lib.hid hC4
  have HM4 := Lib.hid hm4
  obtain ⟨n, hnn⟩ : ∃ n, n = (nd :: bs).length := ⟨_, rfl⟩
  have HNN := Lib.hid hnn
  have HL : Hid (∀ w', Below W4.heap.size W4 w' → Calls Try.prog 17 #[.pointer (some ⟨c, 0, none⟩)] w' fun r w'' => r = .returned (.int .i64 (n : Int)) ∧ w'' = w') := Lib.hid (by
    intro w' hb
    have := clen_any c b r M fd ak _ kf2 vf2 nw4 od4 w' (HC4.out.old hb)
    rw [← HNN.out] at this; exact this)
  have hf2 : (n : Int) ≤ M := by have := HF.out; have := HNN.out; simp only [List.length_cons] at this; omega
  have HMA : Hid (Mod (fun i => i = b ∨ i ∈ r :: bs) W1 W4) := Lib.hid (by
    have m1 := (Mod.of_below HB1.out).trans (Mod.of_below HB2.out) (fun i hi h => Nat.le_trans HB1.out.size h)
    have m2 := m1.trans (Mod.of_below HB3.out) (fun i hi h => Nat.le_trans (Nat.le_trans HB1.out.size HB2.out.size) h)
    have m3 := (m2.mono (T := fun i => i = b ∨ i ∈ r :: bs) (fun i hi h => absurd hi (by omega))).trans HMD3.out (fun _ _ h => Or.inl h)
    refine m3.trans HM4.out (fun i hi h => ?_)
    rcases List.mem_cons.1 h with h1 | h1
    · have := HND.out; have := HB1.out.size; omega
    · exact Or.inr h1)
  clear hC4 hm4 hnn HEN HS HP
  go_wp2_with fail
  refine wp_region_puts (fun t v w => VK (match t with
    | 39 => .eq (.pointer (some ⟨c, 0, none⟩))
    | 40 => .eq (.int .i64 (n : Int))
    | 41 => .eq (.pointer (some ⟨c, 0, none⟩))
    | 42 => .eq (.pointer (some ⟨c, 0, none⟩))
    | 43 => .eq (.pointer (some ⟨c, 0, none⟩))
    | 44 => .eq (.int .i64 M)
    | 45 => .eq (Value.bool false)
    | _ => .any) v w) (fun w' => Below W4.heap.size W4 w') 55 (by kernel_rfl) (by decide +kernel) rfl (Below.refl _ _).drew (by
    refine OweAll.cons (owesK rfl rfl fun a w1 ha hG hV => ?_) ?_
    · skip
      have h0 := ha.outer 0 (by decide +kernel)
      simp only [Act.eval] at h0
      exact ⟨.pointer (some ⟨c, 0, none⟩), w1, wanted_free rfl, by simp [execOp, go_sem, h0], Below.refl _ _, rfl⟩
    refine OweAll.cons (owesK_call rfl rfl 17 fun a w1 ha hG hV => ?_) ?_
    · skip
      have h39 : a.tmps.getD 39 undef = .pointer (some ⟨c, 0, none⟩) := hV.get 39 (by decide +kernel)
      refine ⟨#[.pointer (some ⟨c, 0, none⟩)], wanted_free rfl, by simp [go_sem, h39], ?_⟩
      refine (HL.out w1 hG).mono ?_
      rintro e u2 ⟨rfl, rfl⟩; exact ⟨_, rfl, rfl, Below.refl _ _⟩
    refine OweAll.cons (owesK rfl rfl fun a w1 ha hG hV => ?_) ?_
    · skip
      have h0 := ha.outer 0 (by decide +kernel)
      simp only [Act.eval] at h0
      exact ⟨.pointer (some ⟨c, 0, none⟩), w1, wanted_free rfl, by simp [execOp, go_sem, h0], Below.refl _ _, rfl⟩
    refine OweAll.cons (owesK rfl rfl fun a w1 ha hG hV => ?_) ?_
    · skip
      have h41 : a.tmps.getD 41 undef = .pointer (some ⟨c, 0, none⟩) := hV.get 41 (by decide +kernel)
      exact ⟨.pointer (some ⟨c, 0, none⟩), w1, wanted_free rfl, by simp [execOp, go_sem, h41], Below.refl _ _, rfl⟩
    refine OweAll.cons (owesK rfl rfl fun a w1 ha hG hV => ?_) ?_
    · skip
      have h42 : a.tmps.getD 42 undef = .pointer (some ⟨c, 0, none⟩) := hV.get 42 (by decide +kernel)
      exact ⟨.pointer (some ⟨c, 0, none⟩), w1, wanted_free rfl, by simp [execOp, go_sem, h42], Below.refl _ _, rfl⟩
    refine OweAll.cons (owesK rfl rfl fun a w1 ha hG hV => ?_) ?_
    · skip
      have h43 : a.tmps.getD 43 undef = .pointer (some ⟨c, 0, none⟩) := hV.get 43 (by decide +kernel)
      have cc : w1.cell? ⟨c, 0, none⟩ = some (.int .i64 M) := (HC4.out.old hG).cell.1
      exact ⟨.int .i64 M, w1, wanted_free rfl, by simp [execOp, go_sem, h43, cc], Below.refl _ _, rfl⟩
    refine OweAll.cons (owesK rfl rfl fun a w1 ha hG hV => ?_) ?_
    · skip
      have h40 : a.tmps.getD 40 undef = .int .i64 (n : Int) := hV.get 40 (by decide +kernel)
      have h44 : a.tmps.getD 44 undef = .int .i64 M := hV.get 44 (by decide +kernel)
      exact ⟨Value.bool false, w1, wanted_free rfl, by simp [execOp, go_sem, h40, h44, hf2], Below.refl _ _, rfl⟩
    exact OweAll.nil
    ) ?_
  intro f wz hG hv
  have e45 : f 45 = Value.bool false := hv 6 _ 45 rfl rfl
  rename_i hK
  refine hK _ _ ?_
  clear hK hv
  simp only [dsts, puts, List.filterMap_cons, List.filterMap_nil, List.foldl_cons, List.foldl_nil, Act.put, List.setIfInBounds_toArray, List.set_cons_succ, List.set_cons_zero, e45]
  clear e45
  have HE : Hid (Below W4.heap.size W4 wz) := Lib.hid hG
  clear hG
  go_wp2_with fail
  go_end0
  obtain ⟨ek, ev⟩ := HKF.out
  rw [← HND.out] at ek ev
  have hC5 := HC4.out.old HE.out
  rw [ek, ev] at hC5
  have hnd1 := HND.out
  have hs1 := HB1.out.size
  have hs2 := HMD.out.size
  exact ⟨rfl, ⟨nd, nw4, od4, by omega, hC5⟩, HMD.out.trans (HMA.out.trans (Mod.of_below HE.out |>.mono (T := fun i => W4.heap.size ≤ i) (fun _ _ h => h)) (fun i hi h => absurd (Nat.lt_of_lt_of_le hi HMA.out.size) (by omega))) (fun i _ h => h.imp id (HSB.out i))⟩
end Go.Proofs.Ytdiiechkhlbkcab

namespace Go.Proofs.Ytdiiechkhlbkcab
open Go.RowKit

abbrev KV := List UInt8 × Int
def kvOf (kf : Nat → List UInt8) (vf : Nat → Int) (y : Nat) : KV := (kf y, vf y)
def dropK (k : List UInt8) (L : List KV) : List KV := L.filter fun x => x.1 != k
def hasV (k : List UInt8) (L : List KV) : Bool := L.any fun x => x.1 == k
def getV (k : List UInt8) (L : List KV) : Int := match L.find? fun x => x.1 == k with | some x => x.2 | none => 0
/-- Cache c keeps L, the one used last first; F are its blocks. -/
def CA (w : World) (c : Nat) (M fd ak : Int) (L : List KV) (F : List Nat) : Prop :=
  ∃ b r bs kf vf nw od, CI w c b r M fd ak bs kf vf nw od ∧ L = bs.map (kvOf kf vf) ∧ F = c :: b :: r :: bs
section
variable {w w' : World} {c : Nat} {M fd ak : Int} {L : List KV} {F : List Nat}
theorem CA.lt (h : CA w c M fd ak L F) {i : Nat} (hi : i ∈ F) : i < w.heap.size := by
  obtain ⟨b, r, bs, kf, vf, nw, od, h, -, rfl⟩ := h
  simp only [List.mem_cons] at hi
  rcases hi with rfl | rfl | hi
  · exact h.clt
  · exact h.map.lt
  · exact h.ylt (by simpa using hi)
theorem CA.kept (h : CA w c M fd ak L F) {S : Nat → Prop} (hm : Mod S w w') (hd : ∀ i ∈ F, ¬ S i) : CA w' c M fd ak L F := by
  obtain ⟨b, r, bs, kf, vf, nw, od, h, e, rfl⟩ := h
  exact ⟨b, r, bs, kf, vf, nw, od, h.kept hm (hd c (by simp)) (hd b (by simp)) (fun y hy => hd y (List.mem_cons_of_mem _ (List.mem_cons_of_mem _ hy))), e, rfl⟩
theorem CA.old (h : CA w c M fd ak L F) (hb : Below w.heap.size w w') : CA w' c M fd ak L F := by
  obtain ⟨b, r, bs, kf, vf, nw, od, h, e, rfl⟩ := h
  exact ⟨b, r, bs, kf, vf, nw, od, h.old hb, e, rfl⟩
theorem CA.apart (h : CA w c M fd ak L F) : L.Pairwise fun x y => x.1 ≠ y.1 := by
  obtain ⟨b, r, bs, kf, vf, nw, od, h, rfl, rfl⟩ := h
  have := h.map.ap
  unfold Apart at this
  rw [List.pairwise_map] at this ⊢
  exact this
theorem CA.keys (h : CA w c M fd ak L F) : ∀ x ∈ L, x.1.length ≤ maxLen := by
  obtain ⟨b, r, bs, kf, vf, nw, od, h, rfl, rfl⟩ := h
  intro x hx
  obtain ⟨y, hy, rfl⟩ := List.mem_map.1 hx
  exact h.map.le (entN kf y) (List.mem_map_of_mem hy)
theorem drop_ring {kf : Nat → List UInt8} {vf : Nat → Int} {A R : List Nat} {x : Nat} (h : ∀ y ∈ A ++ R, kf y ≠ kf x) : dropK (kf x) ((A ++ x :: R).map (kvOf kf vf)) = (A ++ R).map (kvOf kf vf) := by
  have e1 : ∀ B : List Nat, (∀ y ∈ B, y ∈ A ++ R) → (B.map (kvOf kf vf)).filter (fun z => z.1 != kf x) = B.map (kvOf kf vf) := fun B hB => List.filter_eq_self.2 fun z hz => by
    obtain ⟨y, hy, rfl⟩ := List.mem_map.1 hz
    simpa [kvOf] using h y (hB y hy)
  unfold dropK
  rw [List.map_append, List.map_cons, List.filter_append, List.filter_cons, e1 A (fun y hy => List.mem_append_left _ hy), e1 R (fun y hy => List.mem_append_right _ hy), List.map_append]
  simp [kvOf]
theorem drop_none {kf : Nat → List UInt8} {vf : Nat → Int} {B : List Nat} {k : List UInt8} (h : ∀ y ∈ B, kf y ≠ k) : dropK k (B.map (kvOf kf vf)) = B.map (kvOf kf vf) := List.filter_eq_self.2 fun z hz => by
  obtain ⟨y, hy, rfl⟩ := List.mem_map.1 hz
  simpa [kvOf] using h y hy
theorem CI.others {b r x : Nat} {A R : List Nat} {kf : Nat → List UInt8} {vf : Nat → Int} {nw od : Nat → Nat} (h : CI w c b r M fd ak (A ++ x :: R) kf vf nw od) : ∀ y ∈ A ++ R, kf y ≠ kf x := by
  intro y hy e
  have hx1 := (nodup_mid h.nd).2
  have hy2 : y ∈ A ++ x :: R := by
    rcases List.mem_append.1 hy with h | h
    · exact List.mem_append_left _ h
    · exact List.mem_append_right _ (List.mem_cons_of_mem _ h)
  have := h.inj hy2 (List.mem_append_right _ (List.mem_cons_self ..)) e
  exact hx1 (this ▸ List.mem_cons_of_mem _ hy)
theorem has_none {kf : Nat → List UInt8} {vf : Nat → Int} {B : List Nat} {k : List UInt8} (h : ∀ y ∈ B, kf y ≠ k) : hasV k (B.map (kvOf kf vf)) = false ∧ getV k (B.map (kvOf kf vf)) = 0 := by
  constructor
  · unfold hasV; rw [List.any_eq_false]
    intro z hz
    obtain ⟨y, hy, rfl⟩ := List.mem_map.1 hz
    simpa [kvOf] using h y hy
  · unfold getV
    rw [List.find?_eq_none.2]
    intro z hz
    obtain ⟨y, hy, rfl⟩ := List.mem_map.1 hz
    simpa [kvOf] using h y hy
theorem has_some {kf : Nat → List UInt8} {vf : Nat → Int} {A R : List Nat} {x : Nat} (h : ∀ y ∈ A ++ R, kf y ≠ kf x) : hasV (kf x) ((A ++ x :: R).map (kvOf kf vf)) = true ∧ getV (kf x) ((A ++ x :: R).map (kvOf kf vf)) = vf x := by
  constructor
  · unfold hasV; rw [List.any_eq_true]
    exact ⟨kvOf kf vf x, List.mem_map_of_mem (List.mem_append_right _ (List.mem_cons_self ..)), by simp [kvOf]⟩
  · unfold getV
    rw [List.map_append, List.map_cons, List.find?_append, List.find?_cons_of_pos (by simp [kvOf]), List.find?_eq_none.2, Option.none_or]
    · rfl
    · intro z hz
      obtain ⟨y, hy, rfl⟩ := List.mem_map.1 hz
      simpa [kvOf] using h y (List.mem_append_left _ hy)
theorem ring_cases (kf : Nat → List UInt8) (bs : List Nat) (k : List UInt8) : (∀ y ∈ bs, kf y ≠ k) ∨ ∃ A x R, bs = A ++ x :: R ∧ kf x = k := by
  by_cases hx : ∃ x ∈ bs, kf x = k
  · obtain ⟨x, hx, e⟩ := hx
    obtain ⟨A, R, e2⟩ := List.append_of_mem hx
    exact Or.inr ⟨A, x, R, e2, e⟩
  · exact Or.inl fun y hy e => hx ⟨y, hy, e⟩
theorem updK_map {kf : Nat → List UInt8} {vf : Nat → Int} {nd : Nat} {k : List UInt8} {v : Int} {B : List Nat} (h : ∀ y ∈ B, y ≠ nd) : (nd :: B).map (kvOf (updK kf nd k) (updV vf nd v)) = (k, v) :: B.map (kvOf kf vf) := by
  rw [List.map_cons]
  congr 1
  · simp [kvOf, updK, updV]
  · exact List.map_congr_left fun y hy => by simp [kvOf, updK, updV, h y hy]
end
theorem ca_new (m : Int) (w : World) :
    Calls Try.prog 7 #[.int .i64 m] w fun e w' => ∃ c F, e = .returned (.pointer (some ⟨c, 0, none⟩)) ∧ CA w' c (min (max m 1) 1024) 0 0 [] F ∧ (∀ i ∈ F, w.heap.size ≤ i) ∧ Below w.heap.size w w' := by
  refine (cnew_any m w).mono ?_
  rintro e w' ⟨c, b, r, rfl, hC, hB, h1, h2, h3⟩
  refine ⟨c, _, rfl, ⟨b, r, [], _, _, _, _, hC, rfl, rfl⟩, ?_, hB⟩
  intro i hi
  simp at hi
  rcases hi with rfl | rfl | rfl <;> assumption
theorem ca_len {w : World} {c : Nat} {M fd ak : Int} {L : List KV} {F : List Nat} (h : CA w c M fd ak L F) :
    Calls Try.prog 17 #[.pointer (some ⟨c, 0, none⟩)] w fun e w' => e = .returned (.int .i64 (L.length : Nat)) ∧ w' = w := by
  obtain ⟨b, r, bs, kf, vf, nw, od, h, rfl, rfl⟩ := h
  rw [List.length_map]
  exact clen_any c b r M fd ak bs kf vf nw od w h
theorem ca_get {w : World} {c : Nat} {M fd ak : Int} {L : List KV} {F : List Nat} (h : CA w c M fd ak L F) (k : List UInt8) (hk : k.length ≤ maxLen) (h0 : 0 ≤ ak) (h1 : ak ≤ 100000000) (g0 : 0 ≤ fd) (g1 : fd ≤ 100000000) :
    Calls Try.prog 11 #[.pointer (some ⟨c, 0, none⟩), .string ⟨k.toArray⟩] w fun e w' => e = .returned (.tuple #[.int .i64 (getV k L), .bool (hasV k L)]) ∧
      (∃ F', CA w' c M (if hasV k L then fd + 1 else fd) (ak + 1) (if hasV k L then (k, getV k L) :: dropK k L else L) F' ∧ (∀ i ∈ F', i ∈ F)) ∧ Mod (fun i => i ∈ F) w w' := by
  obtain ⟨b, r, bs, kf, vf, nw, od, h, rfl, rfl⟩ := h
  rcases ring_cases kf bs k with hm | ⟨A, x, R, rfl, rfl⟩
  · obtain ⟨e1, e2⟩ := has_none (vf := vf) hm
    rw [e1, e2]
    refine (cget_miss c b r M fd ak bs kf vf nw od w h k hk h0 h1 hm).mono ?_
    rintro e w' ⟨rfl, hC, hmd⟩
    exact ⟨rfl, ⟨_, ⟨b, r, bs, kf, vf, nw, od, hC, rfl, rfl⟩, fun _ h => h⟩, hmd.mono (fun i _ e => by rw [e]; simp)⟩
  · have ho := h.others
    obtain ⟨e1, e2⟩ := has_some (vf := vf) ho
    rw [e1, e2, drop_ring ho]
    refine (cget_hit c b r x M fd ak A R kf vf nw od w h h0 h1 g0 g1).mono ?_
    rintro e w' ⟨rfl, ⟨nw', od', hC⟩, hmd⟩
    refine ⟨rfl, ⟨_, ⟨b, r, x :: (A ++ R), kf, vf, nw', od', hC, rfl, rfl⟩, ?_⟩, hmd.mono ?_⟩
    · intro i hi
      simp only [List.mem_cons, List.mem_append] at hi ⊢
      rcases hi with h | h | h | h | h | h
      · exact Or.inl h
      · exact Or.inr (Or.inl h)
      · exact Or.inr (Or.inr (Or.inl h))
      · exact Or.inr (Or.inr (Or.inr (Or.inr (Or.inl h))))
      · exact Or.inr (Or.inr (Or.inr (Or.inl h)))
      · exact Or.inr (Or.inr (Or.inr (Or.inr (Or.inr h))))
    · intro i _ hi
      rcases hi with h | h
      · rw [h]; simp
      · exact List.mem_cons_of_mem _ (List.mem_cons_of_mem _ h)
theorem ca_put {w : World} {c : Nat} {M fd ak : Int} {L : List KV} {F : List Nat} (h : CA w c M fd ak L F) (k : List UInt8) (hk : k.length ≤ 1000000) (v : Int) (hM : 1 ≤ M) (hM2 : M ≤ 2000) (hL : (L.length : Int) ≤ M) :
    Calls Try.prog 14 #[.pointer (some ⟨c, 0, none⟩), .string ⟨k.toArray⟩, .int .i64 v] w fun e w' => e = .returned (.tuple #[]) ∧
      (∃ F', CA w' c M fd ak (((k, v) :: dropK k L).take M.toNat) F' ∧ (∀ i ∈ F', i ∈ F ∨ w.heap.size ≤ i)) ∧ Mod (fun i => i ∈ F) w w' := by
  obtain ⟨b, r, bs, kf, vf, nw, od, h, rfl, rfl⟩ := h
  rw [List.length_map] at hL
  have hne : ∀ (nd : Nat) (B : List Nat), w.heap.size ≤ nd → (∀ y ∈ B, y ∈ bs) → ∀ y ∈ B, y ≠ nd := fun nd B hn hB y hy e => by
    have := h.ylt (List.mem_cons_of_mem r (hB y hy)); omega
  rcases ring_cases kf bs k with hm | ⟨A, x, R, rfl, rfl⟩
  · rw [drop_none hm]
    by_cases hf : ((bs.length + 1 : Nat) : Int) ≤ M
    · rw [List.take_of_length_le (by simp; omega)]
      refine (cput_fits c b r M fd ak bs kf vf nw od w h k hk v (by omega) hm hf).mono ?_
      rintro e w' ⟨rfl, ⟨nd, nw', od', hnd, hC⟩, hmd⟩
      refine ⟨rfl, ⟨_, ⟨b, r, nd :: bs, _, _, nw', od', hC, (updK_map (hne nd bs hnd (fun _ h => h))).symm, rfl⟩, ?_⟩, hmd.mono ?_⟩
      · intro i hi
        simp only [List.mem_cons] at hi ⊢
        rcases hi with h | h | h | h | h
        · exact Or.inl (Or.inl h)
        · exact Or.inl (Or.inr (Or.inl h))
        · exact Or.inl (Or.inr (Or.inr (Or.inl h)))
        · exact Or.inr (h ▸ hnd)
        · exact Or.inl (Or.inr (Or.inr (Or.inr h)))
      · intro i _ hi
        rcases hi with h | h
        · rw [h]; simp
        · exact List.mem_cons_of_mem _ (List.mem_cons_of_mem _ h)
    · obtain ⟨A, z, rfl⟩ : ∃ A z, bs = A ++ [z] := by
        rcases List.eq_nil_or_concat bs with h0 | ⟨A, z, h0⟩
        · subst h0; simp at hf; omega
        · exact ⟨A, z, by simpa using h0⟩
      have e1 : ((k, v) :: (A ++ [z]).map (kvOf kf vf)).take M.toNat = (k, v) :: A.map (kvOf kf vf) := by
        have hl : M.toNat = A.length + 1 := by simp at hf hL; omega
        rw [hl, List.take_succ_cons, List.map_append, List.take_append_of_le_length (by simp), List.take_of_length_le (by simp)]
      rw [e1]
      refine (cput_goes c b r z M fd ak A kf vf nw od w h k hk v (by omega) hm (by omega)).mono ?_
      rintro e w' ⟨rfl, ⟨nd, nw', od', hnd, hC⟩, hmd⟩
      refine ⟨rfl, ⟨_, ⟨b, r, nd :: A, _, _, nw', od', hC, (updK_map (hne nd A hnd (fun _ h => List.mem_append_left _ h))).symm, rfl⟩, ?_⟩, hmd.mono ?_⟩
      · intro i hi
        simp only [List.mem_cons, List.mem_append] at hi ⊢
        rcases hi with h | h | h | h | h
        · exact Or.inl (Or.inl h)
        · exact Or.inl (Or.inr (Or.inl h))
        · exact Or.inl (Or.inr (Or.inr (Or.inl h)))
        · exact Or.inr (h ▸ hnd)
        · exact Or.inl (Or.inr (Or.inr (Or.inr (Or.inl h))))
      · intro i _ hi
        rcases hi with h | h
        · rw [h]; simp
        · exact List.mem_cons_of_mem _ (List.mem_cons_of_mem _ h)
  · have ho := h.others
    rw [drop_ring ho]
    have hl2 : (A ++ x :: R).length = (A ++ R).length + 1 := by simp; omega
    rw [List.take_of_length_le (by simp at hL ⊢; omega)]
    refine (cput_old c b r x M fd ak A R kf vf nw od w h (kf x) rfl hk v (by omega) hL).mono ?_
    rintro e w' ⟨rfl, ⟨nd, nw', od', hnd, hC⟩, hmd⟩
    have hsub : ∀ y ∈ A ++ R, y ∈ A ++ x :: R := by
      intro y hy
      rcases List.mem_append.1 hy with h | h
      · exact List.mem_append_left _ h
      · exact List.mem_append_right _ (List.mem_cons_of_mem _ h)
    refine ⟨rfl, ⟨_, ⟨b, r, nd :: (A ++ R), _, _, nw', od', hC, (updK_map (hne nd (A ++ R) hnd hsub)).symm, rfl⟩, ?_⟩, hmd.mono ?_⟩
    · intro i hi
      rcases List.mem_cons.1 hi with h | hi
      · exact Or.inl (h ▸ List.mem_cons_self ..)
      rcases List.mem_cons.1 hi with h | hi
      · exact Or.inl (h ▸ List.mem_cons_of_mem _ (List.mem_cons_self ..))
      rcases List.mem_cons.1 hi with h | hi
      · exact Or.inl (h ▸ List.mem_cons_of_mem _ (List.mem_cons_of_mem _ (List.mem_cons_self ..)))
      rcases List.mem_cons.1 hi with h | hi
      · exact Or.inr (h ▸ hnd)
      · exact Or.inl (List.mem_cons_of_mem _ (List.mem_cons_of_mem _ (List.mem_cons_of_mem _ (hsub i hi))))
    · intro i _ hi
      rcases hi with h | h
      · rw [h]; simp
      · exact List.mem_cons_of_mem _ (List.mem_cons_of_mem _ h)
end Go.Proofs.Ytdiiechkhlbkcab

namespace Go.Proofs.Ytdiiechkhlbkcab
open Go.RowKit

/-- An iterator of N rounds: round k hands over 'args k'; what it reads ahead of round k is R k of the world. -/
def Rounds (F : Fence) (n : Nat) (P : Program) (g : Nat) (fb lb : Array Value) (args : Nat → Array Value) (R : Nat → World → Prop) (N : Nat) (w : World) : Prop :=
  ∀ (l : Nat) (J Jx : Nat → World → Prop) (W : World), Below w.heap.size w W → AbidesFrom W.heap.size J → AbidesFrom W.heap.size Jx → (∀ k W1, J k W1 → R k W1) →
    (∀ k W1, J k W1 → k < N → YieldAt F (n - 1) P l (args k) W1 fun e W' => (e = .returned (.bool true) ∧ J (k + 1) W') ∨ (e = .returned (.bool false) ∧ Jx k W')) →
    J 0 W → CallsIn F n P g (fb ++ #[.func (.yield l) #[] #[]] ++ lb) W fun e W' => (∃ v, e = .returned v) ∧ (J N W' ∨ ∃ k, k < N ∧ Jx k W')

/-- How a round may be left. -/
def roundEnd (B : Nat) (I : Nat → World → Prop) (Ix : Code → Nat → World → Prop) (k : Nat) (W : World) : Exit → Act → World → Prop
  | .normal, _, W' => KeepsFrom B W W' ∧ I (k + 1) W'
  | .ret, _, W' => KeepsFrom B W W' ∧ Ix .ret k W'
  | .exit id, _, W' => KeepsFrom B W W' ∧ Ix (.exit id) k W'
  | _, _, _ => False

variable {F : Fence} {n : Nat} {P : Program}

theorem wpIn_rounds {g : Operand} {ps : Array Tmp} {assign body : Code} {Q : Exit → Act → World → Prop} {a : Act} {w : World}
    (hro : F.round = none) (h1 : 1 ≤ n) {gf : Nat} {fb lb : Array Value} (hg : a.eval g = .func (.func gf) fb lb) (hFg : F.fn gf) (eg : ∀ args w, (callFunc gf args).run P w = .ok (.enter gf args) w)
    {args : Nat → Array Value} {R : Nat → World → Prop} {N : Nat} (hseq : Rounds F (n - 1) P gf fb lb args R N w) (hps : ∀ k, (args k).size = ps.size)
    (I : Nat → World → Prop) (Ix : Code → Nat → World → Prop) (hR : ∀ k W, I k W → R k W) (hI : OwnFrom w.heap.size I) (hIx : ∀ c, OwnFrom w.heap.size (Ix c)) (h0 : I 0 w) (a₁ : Nat → Act)
    (hassign : ∀ (l k : Nat) (W : World) (K : Act → World → Prop), K (a₁ k) W →
      assign.wpIn (F.inRound l) (n - 1 - 1) P (Exit.then K (fun _ _ _ => False)) { tmps := (ps.zip (args k)).foldl (fun t (p, v) => t.setIfInBounds p v) a.tmps, defers := [] } W)
    (hbody : ∀ (l k : Nat) (W : World), I k W → k < N → body.wpIn (F.inRound l) (n - 1 - 1) P (roundEnd w.heap.size I Ix k W) (a₁ k) W)
    (hdone : ∀ (D : Nat) (W : World), w.heap.size ≤ D → I N W → W.heap[D]? = some (.deferred (some [])) → Q .normal { a with defers := { target := .collected D, args := #[] } :: a.defers } W)
    (hstop : ∀ (D : Nat) (c : Code) (k : Nat) (W : World), w.heap.size ≤ D → k < N → Ix c k W → W.heap[D]? = some (.deferred (some [])) → c.wpIn F n P Q { a with defers := { target := .collected D, args := #[] } :: a.defers } W) :
    (Code.rangeFunc g ps assign body).wpIn F n P Q a w := by
  refine wpIn_rangeFunc fun fn hfn => ?_
  rw [hro]
  obtain ⟨rec, hrec⟩ : ∃ rec : LoopState → Option Code → Loop, rec = fun st pe => { state := st, pending := pe, fn, tmps := a.tmps, params := ps, assign, body, defers := w.heap.size } := ⟨_, rfl⟩
  obtain ⟨V, hV⟩ : ∃ V, V = (w.alloc (.deferred (some []))).alloc (.loop (rec .ready none)) := ⟨_, rfl⟩
  have rL : V.heap[w.heap.size + 1]? = some (.loop (rec .ready none)) := by
    have := World.alloc_heap_new (w.alloc (.deferred (some []))) (.loop (rec .ready none)); rw [World.size_alloc] at this; rw [hV]; exact this
  have rD : V.heap[w.heap.size]? = some (.deferred (some [])) := by rw [hV]; exact (Below.heap_alloc _ _ _ (by simp)).trans (World.alloc_heap_new w _)
  have vI : I 0 V := by rw [hV]; exact hI.alloc _ (hI.alloc _ h0)
  have vB : Below w.heap.size w V := by rw [hV]; exact ((Below.refl _ w).alloc (Nat.le_refl _) _).alloc (by simp) _
  have vS : w.heap.size + 2 ≤ V.heap.size := by rw [hV]; simp
  refine ⟨w.heap.size + 1, [{ target := .collected w.heap.size, args := #[] }], V, { target := .fn (.func gf) lb, args := fb ++ #[.func (.yield (w.heap.size + 1)) #[] #[]] }, V, gf,
    fb ++ #[.func (.yield (w.heap.size + 1)) #[] #[]] ++ lb, V, ?_, ?_, ?_, ?_, fun _ => h1, ?_⟩
  · rw [hV, hrec]; exact run_enterLoop_outer _ _ _ _ _
  · simp only [resolve, hg]; simp [go_sem]
  · intro f' hf'; simp [Target.leads] at hf'; subst hf'; exact hFg
  · simp [invoke, go_sem, eg]
  clear hV
  -- the two blocks of the loop's own lie on where no walk's object turns
  have keep : ∀ {A C : World} {row : Option Nat} {j : Nat} {o : Obj}, A.grownBy C row → (∀ r, row = some r → V.heap.size ≤ r ∧ ∃ o : Obj, A.heap[r]? = some o ∧ o.isWalk = true) → A.heap[j]? = some o → o.isWalk = false → C.heap[j]? = some o :=
    fun hg' hr hj ho => (grownBy_keeps hg' (fun r e => (hr r e).2) hj ho).trans hj
  have own : ∀ {A : World} {row : Option Nat}, (∀ r, row = some r → V.heap.size ≤ r ∧ ∃ o : Obj, A.heap[r]? = some o ∧ o.isWalk = true) → ∀ r, row = some r → w.heap.size ≤ r ∧ ∃ o : Obj, A.heap[r]? = some o ∧ o.isCells = false :=
    fun hr r e => by obtain ⟨hB, o, ho, hw⟩ := hr r e; exact ⟨by omega, o, ho, Obj.not_cells_of_walk hw⟩
  refine (hseq (w.heap.size + 1)
    (fun k W => I k W ∧ W.heap[w.heap.size + 1]? = some (.loop (rec .ready none)) ∧ W.heap[w.heap.size]? = some (.deferred (some [])))
    (fun k W => ∃ c, Ix c k W ∧ W.heap[w.heap.size + 1]? = some (.loop (rec .done (some c))) ∧ W.heap[w.heap.size]? = some (.deferred (some [])))
    V vB (fun s A C row hs hg' hr => ⟨hI s A C row hs.1 hg' (own hr), keep hg' hr hs.2.1 rfl, keep hg' hr hs.2.2 rfl⟩)
    (fun s A C row ⟨c, hc, hl, hd⟩ hg' hr => ⟨c, hIx c s A C row hc hg' (own hr), keep hg' hr hl rfl, keep hg' hr hd rfl⟩)
    (fun k W h => hR k W h.1) ?_ ⟨vI, rL, rD⟩).mono ?_
  · rintro k W ⟨hi, hl, hd⟩ hk
    have hy := run_yield (P := P) (args := args k) hl (by rw [hrec]; exact hps k)
    rw [hrec] at hy
    refine ⟨fn, _, assign, body, hy, roundIn_of_wpIn hfn (hassign _ k W _ ⟨_, run_beginRound hl (by rw [hrec]), ?_⟩)⟩
    obtain ⟨X, hX⟩ : ∃ X, X = W.putObj (w.heap.size + 1) (.loop { rec .ready none with state := .busy }) := ⟨_, rfl⟩
    have xl : X.heap[w.heap.size + 1]? = some (.loop { rec .ready none with state := .busy }) := by rw [hX]; exact World.putObj_heap_same (Array.getElem?_eq_some_iff.1 hl).1
    have xd : X.heap[w.heap.size]? = some (.deferred (some [])) := by rw [hX]; exact (World.putObj_heap_other (by omega)).trans hd
    have xi : I k X := by rw [hX]; exact hI.putObj _ hi (by omega) hl rfl
    rw [← hX]
    clear hX
    refine wpIn_mono (hbody _ k X xi hk) ?_
    have fin : ∀ (jump : Option Code) (Y : World), KeepsFrom w.heap.size X Y → ∃ Z, (Instr.endRound (w.heap.size + 1) jump).run P Y = .ok (.bool jump.isNone) Z ∧
        Z.heap[w.heap.size + 1]? = some (.loop (rec (if jump.isNone then .ready else .done) jump)) ∧ Z.heap[w.heap.size]? = some (.deferred (some [])) ∧ (∀ J : Nat → World → Prop, OwnFrom w.heap.size J → ∀ s, J s Y → J s Z) := fun jump Y hY => by
      have yl := hY.same _ _ (by omega) xl rfl
      have := run_endRound (P := P) jump yl
      rw [hrec] at this
      refine ⟨_, this, World.putObj_heap_same (Array.getElem?_eq_some_iff.1 yl).1 |>.trans (by rw [hrec]), (World.putObj_heap_other (by omega)).trans (hY.same _ _ (Nat.le_refl _) xd rfl), fun J hJ s hs => hJ.putObj _ hs (by omega) yl rfl⟩
    rintro e b Y hp
    cases e with
    | normal => obtain ⟨Z, hr, hl', hd', hj⟩ := fin none Y hp.1; exact ⟨_, _, hr, .inl ⟨rfl, hj I hI _ hp.2, hl', hd'⟩⟩
    | ret => obtain ⟨Z, hr, hl', hd', hj⟩ := fin (some .ret) Y hp.1; exact ⟨_, _, hr, .inr ⟨rfl, .ret, hj _ (hIx _) _ hp.2, hl', hd'⟩⟩
    | exit id => obtain ⟨Z, hr, hl', hd', hj⟩ := fin (some (.exit id)) Y hp.1; exact ⟨_, _, hr, .inr ⟨rfl, .exit id, hj _ (hIx _) _ hp.2, hl', hd'⟩⟩
    | goto t => exact hp.elim
    | panic ch => exact hp.elim
    | outgrown => exact hp.elim
  · rintro e X ⟨⟨v, rfl⟩, ⟨hi, hl, hd⟩ | ⟨k, hk, c, hi, hl, hd⟩⟩
    · exact ⟨none, _, by have := run_endLoop (P := P) hl (by rw [hrec]; simp); rw [hrec] at this; exact this, hdone _ _ (Nat.le_refl _) (hI.putObj _ hi (by omega) hl rfl) ((World.putObj_heap_other (by omega)).trans hd)⟩
    · exact ⟨some c, _, by have := run_endLoop (P := P) hl (by rw [hrec]; simp); rw [hrec] at this; exact this, hstop _ c k _ (Nat.le_refl _) hk ((hIx c).putObj _ hi (by omega) hl rfl) ((World.putObj_heap_other (by omega)).trans hd)⟩
end Go.Proofs.Ytdiiechkhlbkcab

namespace Go.Proofs.Ytdiiechkhlbkcab
open Go.RowKit Go.Shelf
attribute [local go_sem] Oper.semAt_some

theorem Lk_get {nw od : Nat → Nat} : ∀ (l : List Nat), Lk nw od l → ∀ k (h : k + 1 < l.length), od (l[k]'(by omega)) = l[k + 1]
  | a :: b :: l, h, 0, _ => h.1.1
  | a :: b :: l, h, k + 1, hk => Lk_get (b :: l) h.2 k (by simpa using hk)
/-- The k-th of the ring, behind r. -/
def nth (r : Nat) (bs : List Nat) (k : Nat) : Nat := bs.getD k r
theorem ring_nth {nw od : Nat → Nat} {r : Nat} {bs : List Nat} (h : Lk nw od (r :: bs ++ [r])) : od r = nth r bs 0 ∧ ∀ k, k < bs.length → od (nth r bs k) = nth r bs (k + 1) := by
  have hg : ∀ k (hk : k ≤ bs.length), (bs ++ [r])[k]'(by simp; omega) = nth r bs k := by
    intro k hk
    unfold nth
    by_cases e : k < bs.length
    · rw [List.getElem_append_left e, List.getD_eq_getElem?_getD, List.getElem?_eq_getElem e]; rfl
    · obtain rfl : k = bs.length := by omega
      rw [List.getElem_append_right (Nat.le_refl _)]
      simp [List.getD_eq_getElem?_getD]
  constructor
  · have := Lk_get _ h 0 (by simp)
    rw [← hg 0 (Nat.zero_le _)]; exact this
  · intro k hk
    have := Lk_get _ h (k + 1) (by simp; omega)
    rw [← hg (k + 1) hk, ← hg k (by omega)]; exact this
theorem nth_mem {r : Nat} {bs : List Nat} {k : Nat} (hk : k < bs.length) : nth r bs k ∈ bs := by
  unfold nth; rw [List.getD_eq_getElem?_getD, List.getElem?_eq_getElem hk]; exact List.getElem_mem hk

theorem ptr_eqIn {w : World} {x r : Nat} {b : Bool} (hs : (sameAddr ⟨x, 0, none⟩ ⟨r, 0, none⟩).run Try.prog w = .ok b w) : (binOp .neq 47 (.pointer (some ⟨x, 0, none⟩)) (.pointer (some ⟨r, 0, none⟩))).run Try.prog w = .ok (.bool !b) w := by
  obtain ⟨j, hj, hsz⟩ : ∃ j : TypeInfo, Try.prog.info? 49 = some j ∧ j.size ≠ 0 := by
    have h : (Try.prog.info? 49).map (·.size) = some 4 := by kernel_rfl
    cases hi : Try.prog.info? 49 with
    | none => rw [hi] at h; cases h
    | some j => rw [hi] at h; simp at h; exact ⟨j, rfl, by rw [h]; decide⟩
  have hz : (sizeOf 49).run Try.prog w = .ok j.size w := by simp [sizeOf, typeInfo, hj]
  have h1 : ∀ d : Nat, (Op.equalIn (d + 1) 47 (.pointer (some ⟨x, 0, none⟩)) (.pointer (some ⟨r, 0, none⟩))).run Try.prog w = .ok b w := fun d => by
    simp only [Op.equalIn, Sem.run_bind, run_underlying Try.underlying47, Result.andThen_ok, hz]
    simp [hsz, hs]
  simp only [binOp]
  simp [Op.equal, Op.maxDepth, h1 9999]
theorem Nodes.neq {w : World} {S : List Nat} {kf : Nat → List UInt8} {vf : Nat → Int} {nw od : Nat → Nat} (h : Nodes w S kf vf nw od) {x r : Nat} (hx : x ∈ S) (hr : r ∈ S) : (binOp .neq 47 (.pointer (some ⟨x, 0, none⟩)) (.pointer (some ⟨r, 0, none⟩))).run Try.prog w = .ok (.bool (decide (x ≠ r))) w := by
  by_cases e : x = r
  · subst e
    rw [ptr_eqIn (run_sameAddr_same w _)]; simp
  · rw [ptr_eqIn (run_sameAddr_other w (by simp) (h x hx) (h r hr))]; simp [e]
def blk : Value → Nat | .pointer (some a) => a.block | _ => 0
theorem idx_nth {r : Nat} : ∀ {bs : List Nat}, (r :: bs).Nodup → ∀ k, k ≤ bs.length → bs.idxOf (nth r bs k) = k
  | [], _, k, hk => by simp at hk; subst hk; rfl
  | a :: bs, h, 0, _ => by simp [nth]
  | a :: bs, h, k + 1, hk => by
    have h1 := (List.nodup_cons.1 h).1
    have h2 := (List.nodup_cons.1 h).2
    have ih := idx_nth (r := r) (bs := bs) (List.nodup_cons.2 ⟨fun hr => h1 (List.mem_cons_of_mem _ hr), (List.nodup_cons.1 h2).2⟩) k (by simpa using hk)
    have e : nth r (a :: bs) (k + 1) = nth r bs k := by simp [nth]
    rw [e, List.idxOf_cons]
    have hne : (a == nth r bs k) = false := by
      by_cases hkk : k < bs.length
      · have := nth_mem (r := r) hkk
        have hn := (List.nodup_cons.1 h2).1
        simp; rintro rfl; exact hn this
      · have : nth r bs k = r := by unfold nth; rw [List.getD_eq_getElem?_getD, List.getElem?_eq_none (by omega)]; rfl
        rw [this]; simp; rintro rfl; exact h1 (by simp)
    rw [hne, ih]; rfl

set_option maxRecDepth 100000 in
set_option maxHeartbeats 4000000 in
theorem each_rounds (n : Nat) (c b r : Nat) (M fd ak : Int) (bs : List Nat) (kf : Nat → List UInt8) (vf : Nat → Int) (nw od : Nat → Nat) (hkl : ∀ y ∈ bs, (kf y).length ≤ 1000000) (w : World) :
    Rounds Fence.wide n Try.prog 25 #[.pointer (some ⟨c, 0, none⟩)] #[] (fun k => #[.string ⟨(kf (nth r bs k)).toArray⟩]) (fun _ W => CI W c b r M fd ak bs kf vf nw od) bs.length w := by
  intro l J Jx W hW hJ hJx hR hY h0
  obtain ⟨len, hlen⟩ : ∃ len, len = bs.length := ⟨_, rfl⟩
  rw [← hlen] at hY ⊢
  have Hlen := Lib.hid hlen
  have hC0 := hR 0 W h0
  obtain ⟨o1, o2⟩ := ring_nth hC0.lk
  have cc := hC0.cell.2.2.1
  have cr := (hC0.nodes.cell (List.mem_cons_self ..)).2.2.2
  rw [o1] at cr
  have HO2 := Lib.hid o2
  have HKL := Lib.hid hkl
  have HRR := Lib.hid hR
  have HYY := Lib.hid hY
  clear hlen hC0 o1 o2 hkl hR hY
  refine callsIn_of_wp Try.func25 rfl trivial ?_ rfl
  simp only [Try.ntmps25, List.size_toArray, List.length_cons, List.length_nil, Nat.reduceAdd, Nat.reduceSub, Array.replicate_succ, Array.replicate_zero, List.push_toArray, List.append_toArray, List.nil_append, List.cons_append]
  gi_wp2
  clear cc cr
  gi_loopw [4] (fun s4 wr => ∃ (k x : Nat), k ≤ len ∧ s4 = .pointer (some ⟨x, 0, none⟩) ∧ Hid (x = nth r bs k) ∧ Hid (J k wr)) (fun s4 _ => len - bs.idxOf (blk s4))
  case atStart => exact ⟨0, nth r bs 0, Nat.zero_le _, rfl, Lib.hid rfl, Lib.hid h0⟩
  case round =>
    obtain ⟨k, x, hk, rfl, hx, hJs⟩ := hrel
    have hC := HRR.out k wr hJs.out
    have cc := hC.cell.2.2.1
    by_cases hlt : k < len
    · have hm : nth r bs k ∈ bs := nth_mem (by rw [← Hlen.out]; exact hlt)
      rw [← hx.out] at hm
      have hne : ¬ x = r := fun e => (List.nodup_cons.1 hC.nd).1 (e ▸ hm)
      have c0 := (hC.nodes.cell (List.mem_cons_of_mem r hm)).1
      have HCL := Lib.hid (sclone_any (kf x) wr (HKL.out x hm))
      have hid1 : bs.idxOf x = k := by rw [hx.out]; exact idx_nth hC.nd k (by rw [← Hlen.out]; omega)
      have HID := Lib.hid hid1
      have hq := hC.nodes.neq (List.mem_cons_of_mem r hm) (List.mem_cons_self ..)
      rw [decide_eq_true hne] at hq
      clear hm hC hid1 hne
      gi_wp2_with fail
      refine ⟨trivial, (fun h => by cases h), (callsIn_wide.2 HCL.out).mono ?_⟩
      rintro e w5 ⟨rfl, hb5⟩
      have hJ5 : J k w5 := hJ k wr w5 none hJs.out ⟨hb5.os, hb5.tape, hb5.output, hb5.size, fun i hi _ => hb5.block i hi⟩ (fun r e => by cases e)
      obtain ⟨fn, tmps, assign, body, hy, hR'⟩ := HYY.out k w5 hJ5 hlt
      rw [← hx.out] at hy
      clear hJ5 hb5 cc c0 hq HCL
      gi_wp2
      refine ⟨(fun h => by cases h), hR'.mono ?_⟩
      rintro e W3 (⟨rfl, hJ3⟩ | ⟨rfl, hJx3⟩)
      · have hC3 := HRR.out (k + 1) W3 hJ3
        have hm3 : x ∈ r :: bs := by rw [hx.out]; exact List.mem_cons_of_mem _ (nth_mem (by rw [← Hlen.out]; exact hlt))
        have c3 := (hC3.nodes.cell hm3).2.2.2
        have e3 : od x = nth r bs (k + 1) := by rw [hx.out]; exact HO2.out k (by rw [← Hlen.out]; exact hlt)
        rw [e3] at c3
        obtain ⟨x2, hx2⟩ : ∃ x2, x2 = nth r bs (k + 1) := ⟨_, rfl⟩
        rw [← hx2] at c3
        have HX2 := Lib.hid hx2
        have HI2 : Hid (bs.idxOf x2 = k + 1) := Lib.hid (by rw [hx2]; exact idx_nth hC3.nd (k + 1) (by rw [← Hlen.out]; omega))
        clear hC3 hm3 e3 hx2 hR' hy
        gi_wp2
        go_roundw
        case rel => exact ⟨k + 1, x2, by omega, rfl, HX2, Lib.hid hJ3⟩
        case measure =>
          have h1 := HI2.out
          have h2 := HID.out
          simp only [blk] at *
          rw [h1, h2]; omega
      · clear hR' hy
        gi_wp2
        refine bodyPost_ret (results_none rfl _ _ _) rfl ?_
        exact ⟨⟨_, rfl⟩, .inr ⟨k, hlt, hJx3⟩⟩
    · obtain rfl : k = len := by omega
      have hxr : x = r := by
        rw [hx.out, Hlen.out]; unfold nth
        rw [List.getD_eq_getElem?_getD, List.getElem?_eq_none (Nat.le_refl _)]; rfl
      have hq := hC.nodes.neq (List.mem_cons_self (a := r)) (List.mem_cons_self (a := r))
      have hd : decide (r ≠ r) = false := by simp
      rw [hd] at hq
      rw [hxr]
      clear hC hd hxr hx
      gi_wp2
      go_end0
      exact ⟨⟨_, rfl⟩, .inl hJs.out⟩
end Go.Proofs.Ytdiiechkhlbkcab

namespace Go.Proofs.Ytdiiechkhlbkcab
open Go.RowKit

/-- How an element lies in memory: k cells. -/
structure Enc (α : Type) where
  f : α → List Value
  k : Nat
  len : ∀ x, (f x).length = k
  one : ∀ x, ∀ v ∈ f x, v.oneCell' = true
  pos : 0 < k

section
variable {α : Type} (E : Enc α)
def Enc.all (L : List α) : List Value := L.flatMap E.f
theorem Enc.all_nil : E.all [] = [] := rfl
theorem Enc.all_app (A B : List α) : E.all (A ++ B) = E.all A ++ E.all B := by simp [Enc.all]
theorem Enc.all_len (L : List α) : (E.all L).length = L.length * E.k := by
  induction L with
  | nil => simp [Enc.all]
  | cons x l ih => rw [show x :: l = [x] ++ l from rfl, E.all_app, List.length_append, ih]; simp [Enc.all, E.len, Nat.add_mul]; omega
theorem Enc.all_one (L : List α) : ∀ v ∈ E.all L, v.oneCell' = true := by
  intro v hv
  obtain ⟨x, _, h⟩ := List.mem_flatMap.1 hv
  exact E.one x v h
theorem Enc.all_get (L : List α) (j i : Nat) (hj : j < L.length) (hi : i < E.k) : (E.all L)[j * E.k + i]? = (E.f L[j])[i]? := by
  induction L generalizing j with
  | nil => simp at hj
  | cons x l ih =>
    rw [show E.all (x :: l) = E.f x ++ E.all l by simp [Enc.all]]
    cases j with
    | zero => rw [Nat.zero_mul, Nat.zero_add, List.getElem?_append_left (by rw [E.len]; exact hi)]; rfl
    | succ j =>
      rw [List.getElem?_append_right (by rw [E.len, Nat.add_mul]; omega), E.len, show (j + 1) * E.k + i - E.k = j * E.k + i by rw [Nat.add_mul]; omega, ih j (by simpa using hj)]
      rfl

/-- The slice at p holds L from its block's head on; nil holds none. -/
def Rw (T : TypeId) (w : World) (p : Option Addr) (cap : Nat) (L : List α) : Prop := w.ownsRow 0 T E.k (.slice p L.length cap) L.length (E.all L)
/-- L is read at ao. -/
def Rd (w : World) (ao : Option Addr) (L : List α) : Prop :=
  ∀ j (h : j < L.length), ∃ bs off, ao = some ⟨bs, off, none⟩ ∧ bs < w.heap.size ∧ ∀ i u, (E.f L[j])[i]? = some u → w.cell? ⟨bs, off + j * E.k + i, none⟩ = some u

variable {E}
theorem Rd.old {w w' : World} {ao : Option Addr} {L : List α} (h : Rd E w ao L) (hb : Below w.heap.size w w') : Rd E w' ao L := by
  intro j hj
  obtain ⟨bs, off, e, hlt, hc⟩ := h j hj
  exact ⟨bs, off, e, Nat.lt_of_lt_of_le hlt hb.size, fun i u hu => (World.cell?_of_block (hb.block bs hlt)).trans (hc i u hu)⟩
theorem Rd.nil (w : World) (ao : Option Addr) : Rd E w ao [] := fun j hj => by simp at hj
theorem Rd.take {w : World} {ao : Option Addr} {L : List α} (h : Rd E w ao L) (n : Nat) : Rd E w ao (L.take n) := by
  intro j hj
  have hj2 : j < L.length := by rw [List.length_take] at hj; omega
  obtain ⟨bs, off, e, hlt, c1⟩ := h j hj2
  refine ⟨bs, off, e, hlt, ?_⟩
  rw [List.getElem_take]; exact c1
theorem Rw.shape {T : TypeId} {w : World} {p : Option Addr} {cap : Nat} {L : List α} (h : Rw E T w p cap L) :
    (p = none ∧ L = [] ∧ cap = 0) ∨ ∃ g, p = some ⟨g, 0, none⟩ ∧ g < w.heap.size ∧ L.length ≤ cap ∧ cap ≤ maxLen ∧ ∃ cur : Array Value, w.heap[g]? = some (.cells cur T (0, 0)) ∧ cur.size = cap * E.k ∧ cur.toList.take (L.length * E.k) = E.all L := by
  rcases h.2 with ⟨e, h0⟩ | ⟨g, cap', cur, e, _, hh, h1, h2, h3, h4⟩
  · simp only [Value.slice.injEq] at e
    exact .inl ⟨e.1, List.eq_nil_of_length_eq_zero h0, e.2.2⟩
  · simp only [Value.slice.injEq] at e
    obtain ⟨rfl, _, rfl⟩ := e
    exact .inr ⟨g, rfl, (Array.getElem?_eq_some_iff.1 hh).1, h1, h2, cur, hh, h3, h4⟩
theorem Rw.of_row {T : TypeId} {w : World} {g cap : Nat} {L : List α} {cur : Array Value} (hh : w.heap[g]? = some (.cells cur T (0, 0))) (h1 : L.length ≤ cap) (h2 : cap ≤ maxLen) (h3 : cur.size = cap * E.k) (h4 : cur.toList.take (L.length * E.k) = E.all L) :
    Rw E T w (some ⟨g, 0, none⟩) cap L := ⟨by rw [E.all_len], .inr ⟨g, cap, cur, rfl, Nat.zero_le _, hh, h1, h2, h3, h4⟩⟩
theorem Rw.empty (T : TypeId) (w : World) : Rw E T w none 0 ([] : List α) := World.ownsRow_nil _ _ _ _
theorem Rw.cap_le {T : TypeId} {w : World} {p : Option Addr} {cap : Nat} {L : List α} (h : Rw E T w p cap L) : L.length ≤ cap := by
  rcases h.shape with ⟨_, rfl, _⟩ | ⟨g, _, _, hc, _⟩
  · exact Nat.zero_le _
  · exact hc
theorem Rw.made (T : TypeId) (w : World) (L : List α) (hl : L.length ≤ maxLen) : Rw E T (w.alloc (.cells (E.all L).toArray T)) (some ⟨w.heap.size, 0, none⟩) L.length L :=
  Rw.of_row (heap_alloc_new _ _) (Nat.le_refl _) hl (by rw [List.size_toArray, E.all_len]) (by rw [List.take_of_length_le (by simp [E.all_len])])
theorem Rw.lt {T : TypeId} {w : World} {a : Addr} {cap : Nat} {L : List α} (h : Rw E T w (some a) cap L) : a.block < w.heap.size := by
  rcases h.shape with ⟨e, _⟩ | ⟨g, e, hl, _⟩
  · cases e
  · cases e; exact hl
theorem Rw.kept {T : TypeId} {w w' : World} {p : Option Addr} {cap : Nat} {L : List α} {S : Nat → Prop} (h : Rw E T w p cap L) (hm : Mod S w w') (hp : ∀ a, p = some a → ¬ S a.block) : Rw E T w' p cap L := by
  rcases h.shape with ⟨rfl, rfl, rfl⟩ | ⟨g, rfl, hl, h1, h2, cur, hh, h3, h4⟩
  · exact Rw.empty _ _
  · exact Rw.of_row ((hm.block g hl (hp _ rfl)).trans hh) h1 h2 h3 h4
theorem Rw.old {T : TypeId} {w w' : World} {p : Option Addr} {cap : Nat} {L : List α} (h : Rw E T w p cap L) (hb : Below w.heap.size w w') : Rw E T w' p cap L :=
  h.kept (Mod.of_below hb) (fun a e hs => by subst e; exact Nat.lt_irrefl _ (Nat.lt_of_lt_of_le h.lt hs))
theorem Rw.rd {T : TypeId} {w : World} {p : Option Addr} {cap : Nat} {L : List α} (h : Rw E T w p cap L) : Rd E w p L := by
  intro j hj
  rcases h.shape with ⟨rfl, rfl, rfl⟩ | ⟨g, rfl, hl, h1, h2, cur, hh, h3, h4⟩
  · simp at hj
  · refine ⟨g, 0, rfl, hl, fun i u hu => ?_⟩
    have hi : i < E.k := by have := (List.getElem?_eq_some_iff.1 hu).1; rwa [E.len] at this
    rw [← E.all_get L j i hj hi, ← h4] at hu
    have hlt : j * E.k + i < L.length * E.k := by
      have := Nat.mul_le_mul_right E.k (show j + 1 ≤ L.length by omega); rw [Nat.add_mul] at this; omega
    rw [List.getElem?_take_of_lt hlt] at hu
    rw [cell_of_row w g _ _ T (0, 0) hh, Nat.zero_add]
    simpa using hu
/-- Behind an append: the slice holds more, in its own block or in a new one. -/
def PushR (E : Enc α) (T : TypeId) (w : World) (p : Option Addr) (B : List α) (q : Option Addr) (cap : Nat) (w' : World) : Prop :=
  Rw E T w' q cap B ∧ Mod (fun i => ∃ a, p = some a ∧ i = a.block) w w' ∧ ∀ a, q = some a → p = some a ∨ w.heap.size ≤ a.block
theorem run_append_no {P : Program} {w : World} (t ty e : TypeId) (i : TypeInfo) (ht : P.underlying t = some (.slice e)) (hi : P.info? e = some i)
    (p : Option Addr) (n cap : Nat) (hle : n ≤ cap) (hn : p = none → n = 0 ∧ cap = 0) (q : Option Addr) (c : Nat) :
    (Builtin.append_ #[t, t] ty #[.slice p n cap, .slice q 0 c]).run P w = .ok (.slice p n cap) w := by
  cases p with
  | some a => cases q <;> simp [Builtin.append_, run_underlying ht, sizeOf, typeInfo, hi, Builtin.lenOf, Builtin.firstCells, hle, storeCells, loadCells, loadCellsFrom]
  | none =>
    obtain ⟨rfl, rfl⟩ := hn rfl
    cases q <;> simp [Builtin.append_, run_underlying ht, sizeOf, typeInfo, hi, Builtin.lenOf, Builtin.firstCells, loadCells, loadCellsFrom]
theorem wpList_pushR {P : Program} {ops : Array Oper} {rest : List Oper} {o : Oper} {a : Act} {Q : Exit → Act → World → Prop} {w : World} (E : Enc α) (hgd : o.guard = none) (s x : Operand) (Ts T : TypeId) (z : Value) (by_ : Nat)
    (ho : o.op = .call { callee := .builtin .append, args := #[s, x], argTypes := #[Ts, Ts] }) (hT : P.underlying Ts = some (.slice T)) (hi : (P.info? T).map (fun i => (i.zero, i.size, i.bytes)) = some (some z, E.k, by_)) (hzs : z.cells.size = E.k) (hby : by_ ≤ 1024)
    (p : Option Addr) (cap n : Nat) (L : List α) (hn : L.length = n) (hs : a.eval s = .slice p n cap) (hS : Rw E T w p cap L) (ao : Option Addr) (m cx : Nat) (Y : List α) (hm : Y.length = m) (hx : a.eval x = .slice ao m cx) (hY : Rd E w ao Y) (hl : n + m ≤ 100000000000)
    (h : ∀ q c w', PushR E T w p (L ++ Y) q c w' → wpList P ops Q rest (a.put o.dst (.slice q (n + m) c)) w') :
    wpList P ops Q (o :: rest) a w := by
  cases hq : P.info? T with
  | none => rw [hq] at hi; cases hi
  | some i =>
    rw [hq] at hi
    simp only [Option.map_some, Option.some.injEq, Prod.mk.injEq] at hi
    obtain ⟨hz, h1, h2⟩ := hi
    subst hn
    subst hm
    have hmul : (L.length + Y.length) * by_ ≤ 140737488355328 := Nat.le_trans (Nat.mul_le_mul hl hby) (by decide)
    by_cases h0 : 0 < Y.length
    · obtain ⟨bs, off, rfl, hbs, _⟩ := hY 0 h0
      refine wpList_append_lies _ hgd s x Ts ho 0 T i z E.k by_ hT hq hz h1 h2 hzs E.pos _ L.length (E.all L) hs hS ⟨bs, off, none⟩ Y.length cx (E.all Y) hx (E.all_len Y) ?_ (E.all_one _) h0 (by unfold maxLen; omega) hmul (Nat.zero_le _) _ rfl ?_
      · intro j u hj
        have hjl : j < Y.length * E.k := by
          have := (List.getElem?_eq_some_iff.1 hj).1
          rwa [E.all_len] at this
        have hd : j / E.k < Y.length := by rw [Nat.div_lt_iff_lt_mul E.pos]; exact hjl
        have hr : j % E.k < E.k := Nat.mod_lt _ E.pos
        have he : j / E.k * E.k + j % E.k = j := by rw [Nat.mul_comm]; exact Nat.div_add_mod j E.k
        obtain ⟨bs', off', e, _, c1⟩ := hY (j / E.k) hd
        cases e
        have hadd : (⟨bs, off, none⟩ : Addr).add j = ⟨bs, off + j, none⟩ := by unfold Addr.add; split <;> simp_all
        rw [← he, E.all_get Y _ _ hd hr] at hj
        have := c1 _ _ hj
        rw [Nat.add_assoc, he] at this
        rw [hadd, this]
      · intro g c w' hown hgrow hat _
        refine h (some ⟨g, 0, none⟩) c w' ⟨?_, ?_, ?_⟩
        · unfold Rw; rw [List.length_append, E.all_app]; exact hown
        · refine (Mod.refl _ w).grown hgrow ?_
          intro j hj _
          cases p with
          | none => simp [Value.ownBlock] at hj
          | some a => simp [Value.ownBlock] at hj; exact ⟨a, rfl, hj.symm⟩
        · rintro a' e; cases e
          rcases hat with hat | hat
          · left
            rcases hS.shape with ⟨rfl, _⟩ | ⟨g', rfl, _⟩
            · simp [Value.ownBlock] at hat
            · simp [Value.ownBlock] at hat; subst hat; rfl
          · right; rw [hat]; exact Nat.le_refl _
    · obtain rfl : Y = [] := List.eq_nil_of_length_eq_zero (by omega)
      refine wpList_plain hgd fun K hK => ?_
      have hfin := h p cap w ⟨by rw [List.append_nil]; exact hS, Mod.refl _ w, fun a e => .inl e⟩
      have hle : L.length ≤ cap := hS.cap_le
      have hno : p = none → L.length = 0 ∧ cap = 0 := by
        intro e
        rcases hS.shape with ⟨_, rfl, hc⟩ | ⟨g', e', _⟩
        · exact ⟨rfl, hc⟩
        · rw [e] at e'; cases e'
      have hrun := run_append_no (P := P) (w := w) Ts o.type T i hT hq p L.length cap hle hno ao cx
      unfold Oper.wp
      simp only [List.length_nil] at hx
      simp [execOp, ho, resolve, invoke, builtin, hs, hx, hrun, Result.andThen]
      simp at hfin
      exact hK _ _ hfin
/-- Elements are gathered in a row of its own. -/
structure AccR (E : Enc α) (T : TypeId) (w : World) (i : Nat) (D : List α) (q : Option Addr) (c : Nat) (wr : World) : Prop where
  s : Rw E T wr q c D
  len : D.length = i
  new : ∀ a, q = some a → w.heap.size ≤ a.block
  m : Below w.heap.size w wr
theorem AccR.zero (E : Enc α) (T : TypeId) (w : World) : AccR E T w 0 [] none 0 w := ⟨Rw.empty _ _, rfl, (fun a e => by cases e), Below.refl _ _⟩
theorem AccR.push {T : TypeId} {w : World} {i : Nat} {D : List α} {q : Option Addr} {c : Nat} {wr w' : World} (h : AccR E T w i D q c wr) {Y : List α} {q' : Option Addr} {c' : Nat} (hP : PushR E T wr q (D ++ Y) q' c' w') : AccR E T w (i + Y.length) (D ++ Y) q' c' w' := by
  obtain ⟨hS, hm, hor⟩ := hP
  refine ⟨hS, by rw [List.length_append, h.len], ?_, h.m.trans (hm.to_below h.m.size (by rintro j hj ⟨a, e, rfl⟩; have := h.new a e; omega))⟩
  intro a e
  rcases hor a e with h1 | h1
  · exact h.new _ h1
  · exact Nat.le_trans h.m.size h1
theorem AccR.below {T : TypeId} {w : World} {i : Nat} {D : List α} {q : Option Addr} {c : Nat} {wr w' : World} (h : AccR E T w i D q c wr) (hb : Below wr.heap.size wr w') : AccR E T w i D q c w' :=
  ⟨h.s.old hb, h.len, h.new, h.m.trans (hb.mono h.m.size)⟩
theorem AccR.take {T : TypeId} {w : World} {i : Nat} {D : List α} {q : Option Addr} {c : Nat} {wr : World} (h : AccR E T w i D q c wr) : Rd E wr q D := h.s.rd
end
/-- Elements that were just laid. -/
theorem Rd.made {α : Type} (E : Enc α) (w : World) (T : TypeId) (L : List α) (hl : L.length ≤ maxLen) : Rd E (w.alloc (.cells (E.all L).toArray T)) (some ⟨w.heap.size, 0, none⟩) L := (Rw.made (E := E) T w L hl).rd

/-- Texts. -/
def encS : Enc (List UInt8) := ⟨fun s => [.string ⟨s.toArray⟩], 1, fun _ => rfl, fun _ v hv => by rw [List.mem_singleton.1 hv]; rfl, Nat.one_pos⟩
/-- Ints. -/
def encI : Enc Int := ⟨fun x => [.int .i64 x], 1, fun _ => rfl, fun _ v hv => by rw [List.mem_singleton.1 hv]; rfl, Nat.one_pos⟩
theorem encS_all (ss : List (List UInt8)) : encS.all ss = ss.map fun s => Value.string ⟨s.toArray⟩ := by
  induction ss with
  | nil => rfl
  | cons a l ih => rw [show encS.all (a :: l) = encS.f a ++ encS.all l from rfl, ih]; rfl
theorem Rd.str {w : World} {ao : Option Addr} {L : List (List UInt8)} (h : Rd encS w ao L) (j : Nat) (hj : j < L.length) : ∃ bs off, ao = some ⟨bs, off, none⟩ ∧ bs < w.heap.size ∧ w.cell? ⟨bs, off + j, none⟩ = some (.string ⟨(L[j]).toArray⟩) := by
  obtain ⟨bs, off, e, hlt, hc⟩ := h j hj
  exact ⟨bs, off, e, hlt, by have := hc 0 _ rfl; simpa [encS] using this⟩
end Go.Proofs.Ytdiiechkhlbkcab

namespace Go.Proofs.Ytdiiechkhlbkcab
open Go.RowKit Go.Shelf
attribute [local go_sem] Oper.semAt_some

/-- Elements are appended: inside a fence. -/
theorem wpListIn_pushR {α : Type} {F : Fence} {nF : Nat} {P : Program} {ops : Array Oper} {rest : List Oper} {o : Oper} {a : Act} {Q : Exit → Act → World → Prop} {w : World} (E : Enc α) (hgd : o.guard = none) (s x : Operand) (Ts T : TypeId) (z : Value) (by_ : Nat)
    (ho : o.op = .call { callee := .builtin .append, args := #[s, x], argTypes := #[Ts, Ts] }) (hT : P.underlying Ts = some (.slice T)) (hi : (P.info? T).map (fun i => (i.zero, i.size, i.bytes)) = some (some z, E.k, by_)) (hzs : z.cells.size = E.k) (hby : by_ ≤ 1024)
    (p : Option Addr) (cap n : Nat) (L : List α) (hn : L.length = n) (hs : a.eval s = .slice p n cap) (hS : Rw E T w p cap L) (ao : Option Addr) (m cx : Nat) (Y : List α) (hm : Y.length = m) (h0 : 0 < m) (hx : a.eval x = .slice ao m cx) (hY : Rd E w ao Y) (hl : n + m ≤ 100000000000)
    (h : ∀ q c w', PushR E T w p (L ++ Y) q c w' → wpListIn F nF P ops Q rest (a.put o.dst (.slice q (n + m) c)) w') :
    wpListIn F nF P ops Q (o :: rest) a w := by
  cases hq : P.info? T with
  | none => rw [hq] at hi; cases hi
  | some i =>
    rw [hq] at hi
    simp only [Option.map_some, Option.some.injEq, Prod.mk.injEq] at hi
    obtain ⟨hz, h1, h2⟩ := hi
    subst hn
    subst hm
    have hmul : (L.length + Y.length) * by_ ≤ 140737488355328 := Nat.le_trans (Nat.mul_le_mul hl hby) (by decide)
    obtain ⟨bs, off, rfl, hbs, _⟩ := hY 0 h0
    refine wpListIn_plain hgd fun K hK => ?_
    obtain ⟨g, c, w', hr, hown, hgrow, hat, _⟩ := run_append_lies (P := P) w Ts o.type 0 T i z E.k by_ hT hq hz h1 h2 hzs E.pos _ L.length (E.all L) hS ⟨bs, off, none⟩ Y.length cx (E.all Y) (E.all_len Y) (by
      intro j u hj
      have hjl : j < Y.length * E.k := by
        have := (List.getElem?_eq_some_iff.1 hj).1
        rwa [E.all_len] at this
      have hd : j / E.k < Y.length := by rw [Nat.div_lt_iff_lt_mul E.pos]; exact hjl
      have hr : j % E.k < E.k := Nat.mod_lt _ E.pos
      have he : j / E.k * E.k + j % E.k = j := by rw [Nat.mul_comm]; exact Nat.div_add_mod j E.k
      obtain ⟨bs', off', e, _, c1⟩ := hY (j / E.k) hd
      cases e
      have hadd : (⟨bs, off, none⟩ : Addr).add j = ⟨bs, off + j, none⟩ := by unfold Addr.add; split <;> simp_all
      rw [← he, E.all_get Y _ _ hd hr] at hj
      have := c1 _ _ hj
      rw [Nat.add_assoc, he] at this
      rw [hadd, this]) (E.all_one _) h0 (by unfold maxLen; omega) hmul (Nat.zero_le _) _ rfl
    unfold Oper.wpIn
    refine ⟨by simp [Oper.about, ho, resolve, Target.leads, Sem.run_pure], ?_⟩
    rw [Oper.semAt_plain F _ _ (by rw [ho]; intro c hc'; cases hc')]
    simp [execOp, ho, resolve, invoke, builtin, hs, hx, hr, Result.andThen]
    refine hK _ _ (h (some ⟨g, 0, none⟩) c w' ⟨?_, ?_, ?_⟩)
    · unfold Rw; rw [List.length_append, E.all_app]; exact hown
    · refine (Mod.refl _ w).grown hgrow ?_
      intro j hj _
      cases p with
      | none => simp [Value.ownBlock] at hj
      | some a => simp [Value.ownBlock] at hj; exact ⟨a, rfl, hj.symm⟩
    · rintro a' e; cases e
      rcases hat with hat | hat
      · left
        rcases hS.shape with ⟨rfl, _⟩ | ⟨g', rfl, _⟩
        · simp [Value.ownBlock] at hat
        · simp [Value.ownBlock] at hat; subst hat; rfl
      · right; rw [hat]; exact Nat.le_refl _
end Go.Proofs.Ytdiiechkhlbkcab

namespace Go.Proofs.Ytdiiechkhlbkcab
open Go.RowKit Go.Shelf
attribute [local go_sem] Oper.semAt_some

section
variable (w : World) (c b r : Nat) (M fd ak : Int) (bs : List Nat) (kf : Nat → List UInt8) (vf : Nat → Int) (nw od : Nat → Nat)
/-- The memory of AppendSeq: k keys are laid by. -/
structure ColS (k : Nat) (q : Option Addr) (cq : Nat) (W : World) : Prop where
  ci : CI W c b r M fd ak bs kf vf nw od
  kl : k ≤ bs.length
  s : Rw encS 9 W q cq ((bs.map kf).take k)
  new : ∀ a, q = some a → w.heap.size + 1 ≤ a.block
  bx : W.heap[w.heap.size]? = some (.cells #[.slice q k cq] 39 (0, 0))
  m : Below w.heap.size w W
  hB : w.heap.size + 1 ≤ W.heap.size
def ColI (k : Nat) (W : World) : Prop := ∃ q cq, ColS w c b r M fd ak bs kf vf nw od k q cq W
variable {w c b r M fd ak bs kf vf nw od}
theorem ColS.step {k : Nat} {q : Option Addr} {cq : Nat} {W W' : World} {S : Nat → Prop} (hF : ∀ i ∈ c :: b :: r :: bs, i < w.heap.size) (h : ColS w c b r M fd ak bs kf vf nw od k q cq W) (hm : Mod S W W') (hS : ∀ i, S i → w.heap.size + 1 ≤ i) (hq : ∀ a, q = some a → ¬ S a.block) : ColS w c b r M fd ak bs kf vf nw od k q cq W' :=
  have hn : ∀ i ∈ c :: b :: r :: bs, ¬ S i := fun i hi hs => by have := hF i hi; have := hS i hs; omega
  ⟨h.ci.kept hm (hn c (by simp)) (hn b (by simp)) (fun y hy => hn y (List.mem_cons_of_mem _ (List.mem_cons_of_mem _ hy))), h.kl, h.s.kept hm hq, h.new, (hm.block _ (by have := h.hB; omega) (fun hs => by have := hS _ hs; omega)).trans h.bx,
    h.m.trans (hm.to_below h.m.size (fun i hi hs => by have := hS _ hs; omega)), Nat.le_trans h.hB hm.size⟩
theorem ColI.own (hF : ∀ i ∈ c :: b :: r :: bs, i < w.heap.size) : OwnFrom (w.heap.size + 1) (ColI w c b r M fd ak bs kf vf nw od) := by
  rintro k W W' row ⟨q, cq, h⟩ hg hr
  have hm : Mod (fun i => row = some i) W W' := (Mod.refl _ _).grown hg (fun k e _ => e)
  refine ⟨q, cq, h.step hF hm (fun i e => (hr i e).1) (fun a e hs => ?_)⟩
  subst e
  obtain ⟨o, ho, hc⟩ := (hr _ hs).2
  rcases h.s.shape with ⟨e, _⟩ | ⟨g, e, _, _, _, cur, hh, _⟩
  · cases e
  · cases e
    rw [show (⟨g, 0, none⟩ : Addr).block = g from rfl, hh] at ho
    cases ho; cases hc
theorem ColS.next {k : Nat} {q : Option Addr} {cq : Nat} {W W1 W5 : World} (hF : ∀ i ∈ c :: b :: r :: bs, i < w.heap.size) (h : ColS w c b r M fd ak bs kf vf nw od k q cq W) (hk : k < bs.length) (hb : Below W.heap.size W W1)
    {q2 : Option Addr} {cq2 : Nat} (hP : PushR encS 9 W1 q ((bs.map kf).take k ++ [kf (nth r bs k)]) q2 cq2 W5) :
    KeepsFrom (w.heap.size + 1) W (W5.setCell ⟨w.heap.size, 0, none⟩ (.slice q2 (k + 1) cq2)) ∧ ColI w c b r M fd ak bs kf vf nw od (k + 1) (W5.setCell ⟨w.heap.size, 0, none⟩ (.slice q2 (k + 1) cq2)) := by
  obtain ⟨hS, hm, hor⟩ := hP
  have hnew : ∀ a, q2 = some a → w.heap.size + 1 ≤ a.block := by
    intro a e
    rcases hor a e with e | e
    · exact h.new _ e
    · have := h.hB; have := hb.size; omega
  have hm0 : Mod (fun i => ∃ a, q = some a ∧ i = a.block) W W5 := ((Mod.of_below hb).mono (T := fun i => ∃ a, q = some a ∧ i = a.block) (fun i hi h => absurd hi (by omega))).trans hm (fun _ _ h => h)
  have hm2 : Mod (fun i => (∃ a, q = some a ∧ i = a.block) ∨ i = w.heap.size) W (W5.setCell ⟨w.heap.size, 0, none⟩ (.slice q2 (k + 1) cq2)) :=
    Mod.setCell (S := fun i => (∃ a, q = some a ∧ i = a.block) ∨ i = w.heap.size) (p := ⟨w.heap.size, 0, none⟩) (hm0.mono (fun i _ hs => Or.inl hs)) (fun _ => Or.inr rfl) _
  have hBp : ∀ i, (∃ a, q = some a ∧ i = a.block) → w.heap.size + 1 ≤ i := by rintro i ⟨a, e, rfl⟩; exact h.new a e
  have hn : ∀ i ∈ c :: b :: r :: bs, ¬ ((∃ a, q = some a ∧ i = a.block) ∨ i = w.heap.size) := by
    rintro i hi (hs | rfl)
    · have := hF i hi; have := hBp i hs; omega
    · have := hF _ hi; omega
  have hbx5 : W5.heap[w.heap.size]? = some (.cells #[.slice q k cq] 39 (0, 0)) := (hm0.block _ (by have := h.hB; omega) (fun hs => by have := hBp _ hs; omega)).trans h.bx
  have htk : (bs.map kf).take k ++ [kf (nth r bs k)] = (bs.map kf).take (k + 1) := by
    have hl : k < (bs.map kf).length := by rw [List.length_map]; exact hk
    rw [List.take_succ_eq_append_getElem hl, List.getElem_map]
    unfold nth
    rw [List.getD_eq_getElem?_getD, List.getElem?_eq_getElem hk]; rfl
  rw [htk] at hS
  refine ⟨⟨hm2.size, fun j o hj hk hc => ?_⟩, q2, cq2, ⟨h.ci.kept hm2 (hn c (by simp)) (hn b (by simp)) (fun y hy => hn y (List.mem_cons_of_mem _ (List.mem_cons_of_mem _ hy))), hk, ?_, hnew, ?_, ?_, Nat.le_trans h.hB hm2.size⟩⟩
  · have hjl := (Array.getElem?_eq_some_iff.1 hk).1
    refine (hm2.block j hjl ?_).trans hk
    rintro (⟨a, e, rfl⟩ | e)
    · subst e
      rcases h.s.shape with ⟨e, _⟩ | ⟨g', e, _, _, _, cur, hh, _⟩
      · cases e
      · cases e
        rw [show (⟨g', 0, none⟩ : Addr).block = g' from rfl, hh] at hk
        cases hk; cases hc
    · omega
  · refine hS.kept (S := fun i => i = w.heap.size) ((Mod.refl (fun i => i = w.heap.size) W5).setCell (fun _ => rfl) _) (fun a e hs => by have := hnew a e; omega)
  · rw [heap_setCell_same W5 w.heap.size 0 _ 39 (.slice q2 (k + 1) cq2) hbx5]; rfl
  · exact h.m.trans (hm2.to_below h.m.size (by rintro i hi (hs | hs)
                                               · have := hBp _ hs; omega
                                               · omega))
end
end Go.Proofs.Ytdiiechkhlbkcab
