/- For any number of things that may wait, any calls ahead and on both, PoolClones returns true; the argument reads as it did. No condition. -/
import Derived.Test.YtdiiechkhlbkcaaRows
import Derived.WalkKit
import Derived.ProofKit
import Derived.OpenShut
import Derived.Carry
import Derived.Test.YtdiiechkhlbkcaaVPzc3
namespace Go.Proofs.Ytdiiechkhlbkcaa.poolClones
open Go.ChangeShapes Go.WideShapes Go.ChangeAt Go.RowKit

theorem own : ownKnob Try.prog.godebug = none := by kernel_rfl

set_option maxRecDepth 20000 in
theorem open_three {H : Type} {enc : TypeId × Value → H} {W : World} {base : Nat} {v : Value} {d : DataW H} {ps : List MemPlace} (hval : Value.okWide Try.prog W .any base 48 v) (h : DataW.Trod enc Try.prog W 0 (fun _ => true) true 48 v d ps) :
    ∃ (most : Int) (a0 : Option Addr) (c0 : Nat) (A0 : List AC) (a1 : Option Addr) (c1 : Nat) (A1 : List AC) (a2 : Option Addr) (c2 : Nat) (A2 : List AC), v = .agg #[.int .i64 most, .slice a0 A0.length c0, .slice a1 A1.length c1, .slice a2 A2.length c2] ∧ Arg W a0 A0 ∧ Arg W a1 A1 ∧ Arg W a2 A2 := by
  obtain ⟨cs, rfl, hsz⟩ := okWide_struct Try.underlying48 hval
  obtain ⟨l⟩ := cs
  have h4 : Try.prog.cellsOf 48 = 4 := by kernel_rfl
  have ki : Try.prog.cellsOf 3 = 1 := by kernel_rfl
  have kt : Try.prog.cellsOf 22 = 1 := by kernel_rfl
  match l, hsz.trans h4 with
  | [v0, v1, v2, v3], _ =>
    obtain ⟨fuel, hf⟩ := h
    obtain ⟨xs, n, _, _, _, hlen, hg⟩ := DataW.trod_struct Try.underlying48 hf
    match xs, hlen with
    | [y0, y1, y2, y3], _ =>
      have g0 := hg 0 _ rfl
      have g1 := hg 1 _ rfl
      have g2 := hg 2 _ rfl
      have g3 := hg 3 _ rfl
      simp [Value.cells, ki, kt] at g0 g1 g2 g3
      obtain ⟨n0, e0, _, w0⟩ := DataW.trod_int Try.underlying3 g0
      obtain ⟨a0, c0, A0, rfl, r0, k0, l0, _⟩ := open_acts1 g1
      obtain ⟨a1, c1, A1, rfl, r1, k1, l1, _⟩ := open_acts1 g2
      obtain ⟨a2, c2, A2, rfl, r2, k2, l2, _⟩ := open_acts1 g3
      simp only [List.cons.injEq, and_true] at e0
      subst e0
      exact ⟨n0, a0, c0, A0, a1, c1, A1, a2, c2, A2, rfl, ⟨r0, k0, l0⟩, ⟨r1, k1, l1⟩, ⟨r2, k2, l2⟩⟩

set_option maxRecDepth 100000 in
theorem lifted (os : Os) (started : os.Started) (H : Type) (enc : TypeId × Value → H) :
    ReturnsInHanded {} Try.checked os 5 .any (Rows.poolClonesSpec.pre6 enc Try.prog Try.f5 Rows.poolClonesRow.domain false) (Rows.poolClonesSpec.post enc Try.prog Try.f5 false true false false) := by
  refine returnsInHanded_of_change (C := Try.checked) own started (by kernel_rfl) Try.func5
    (ChangeSpec.witness6 (enc := enc) (C := Try.checked) false ⟨#[], #[.agg #[.int .i64 0, .slice none 0 0, .slice none 0 0, .slice none 0 0]], []⟩ 8 (by kernel_rfl) (by kernel_rfl) (by kernel_rfl) (by kernel_rfl)) ?_
  intro W base args ds gs before hval0 hW _ _
  have hval : ∀ (j : Nat) t v, Try.f5.params[j]? = some t → args[j]? = some v → Value.okWide Try.prog W .any base t v := hval0
  have hW' := hW
  obtain ⟨p, q, hA0, hV, rfl, _, _⟩ := hW
  have hA : DataW.TrodAll enc Try.prog W 0 (fun _ => true) true Try.f5.params.toList args.toList ds p := hA0
  rw [Try.params5] at hA hval
  obtain ⟨v0, vs0, d0, ds0, p0, q0, _, rfl, rfl, h0, r0⟩ := trodAll_cons hA
  obtain ⟨rfl, rfl, rfl⟩ := trodAll_nil r0
  obtain rfl : args = #[v0] := by cases args; simp_all
  obtain ⟨rfl, rfl⟩ := trodVars_none hV
  obtain ⟨most, a0, c0, A0, a1, c1, A1, a2, c2, A2, rfl, R0, R1, R2⟩ := open_three (hval 0 48 v0 rfl rfl) h0
  clear hA0 hval0
  simp only [List.append_nil] at hW'
  refine (clones_walk most a0 c0 A0 a1 c1 A1 a2 c2 A2 W R0 R1 R2).mono fun e W' ⟨he, hb⟩ => ?_
  subst he
  exact ⟨_, rfl, _, _, _, [], _, [], hW', trodAll_cons_mk (shut_bool Try.underlying4 _) trodAll_mk0, (trodAll_cons_mk (Below.trod (by kernel_rfl) (by kernel_rfl) (of_decide_eq_true (by kernel_rfl)) h0 hb (fun x hx => hW'.lt x (by simp [hx]))) trodAll_mk0), rfl, hb.frame _, fun h => by cases h⟩

theorem over : Rows.poolClonesRow.holds Try.pinned (OpenSpec.ofChange Rows.poolClonesSpec) :=
  OpenClaim.holds_of_wide 5 Try.f5 rfl rfl rfl rfl rfl rfl rfl ⟨rfl, rfl, rfl, rfl, rfl⟩ rfl rfl rfl rfl rfl (by kernel_rfl) Try.func5 (by kernel_rfl)
    (of_decide_eq_true (by kernel_rfl)) (by unfold Func.isWrapper; first | (rw [if_pos (by decide +kernel)]; kernel_rfl) | (rw [if_neg (by decide +kernel)]; exact ⟨rfl, rfl⟩))
    (fun os started H enc _ => lifted os started H enc)

/-- The statement. -/
theorem proved : Rows.PoolClonesSaid :=
  over
#print axioms proved
end Go.Proofs.Ytdiiechkhlbkcaa.poolClones
