/- Texts 15: what the laws lean on. -/
import Derived.Test.YtemnebbdaljfbaaGreatDoorZ14
import Derived.Test.YtemnebbdaljfbaaGreatDoorZ13
import Derived.RangeFuncNested
import Derived.RangeFuncBox
import Derived.RangeFuncLeaves
import Derived.RangeFuncGives
import Derived.WalkKit
import Derived.OwnWalkIn
import Derived.Test.YtemnebbdaljfbaaGreatDoorZ5
import Derived.Sort.MapsRangeIn
import Derived.Sort.KeysCollected
import Derived.Test.YtemnebbdaljfbaaGreatDoorZ1
import Derived.Deep.AppendLies
import Derived.Great.BuildSlice
import Derived.Great.FillDense
import Derived.LoopNIn
import Derived.LoopIn
import Derived.TacticsInMore
import Derived.RegionIn
import Derived.Test.YtemnebbdaljfbaaGreatDoorZ3
import Derived.Test.YtemnebbdaljfbaaGreatDoorZ7
namespace Go.Proofs.YtemnebbdaljfbaaGreatDoor
open Go.RowKit

/-- The dag's blocks are the reference's. -/
structure KL (K : List Blk) (L : List RBk) : Prop where
  len : K.length = L.length
  kl : ∀ b ∈ K, ∃ r ∈ L, r.nm = b.id.1 ∧ ownH r.x.h = b.h
  lk : ∀ r ∈ L, ∃ b ∈ K, b.id.1 = r.nm ∧ b.h = ownH r.x.h
theorem own_ps {h : Hd (List UInt8)} (hp : ∀ p ∈ h.ps, p.length = 32) : (ownH h).ps.map (·.1) = h.ps := own_rs _ hp
theorem own_pl (h : Hd (List UInt8)) : (ownH h).ps.length = h.ps.length := List.length_map _
theorem nmR_own {h : Hd (List UInt8)} (hp : ∀ p ∈ h.ps, p.length = 32) : (nmH (ownH h)).1 = nmR h := by
  show shaB (hbytes (·.1) (ownH h)) = shaB (hbytes id h)
  congr 1
  unfold hbytes
  rw [own_ps hp, own_pl, List.map_id]
  rfl
theorem chkR_own {x : RH} (hp : ∀ p ∈ x.h.ps, p.length = 32) : chkH (ownH x.h) = chkR x := by
  unfold chkH chkR
  rw [chk_own, own_ps hp, own_pl]
theorem uniq_id : ∀ {K : List Blk}, (K.map (·.id)).Nodup → ∀ b ∈ K, ∀ b' ∈ K, b.id = b'.id → b = b'
  | [], _, b, hb, _, _, _ => by cases hb
  | x :: K, hn, b, hb, b', hb', e => by
    rw [List.map_cons, List.nodup_cons] at hn
    rcases List.mem_cons.1 hb with rfl | hb2
    · rcases List.mem_cons.1 hb' with rfl | hb3
      · rfl
      · exact absurd (by rw [e]; exact List.mem_map_of_mem hb3) hn.1
    · rcases List.mem_cons.1 hb' with rfl | hb3
      · exact absurd (by rw [← e]; exact List.mem_map_of_mem hb2) hn.1
      · exact uniq_id hn.2 b hb2 b' hb3 e
theorem KL.has {K : List Blk} {L : List RBk} (h : KL K L) (n : Nm) : hasE n (kE K) = true ↔ ∃ r ∈ L, r.nm = n.1 := by
  rw [kE_has]
  constructor
  · rintro ⟨b, hb, e⟩
    obtain ⟨r, hr, h1, _⟩ := h.kl b hb
    exact ⟨r, hr, by rw [h1, e]⟩
  · rintro ⟨r, hr, e⟩
    obtain ⟨b, hb, h1, _⟩ := h.lk r hr
    exact ⟨b, hb, Subtype.ext (by rw [h1, e])⟩
theorem KL.same {K : List Blk} {L : List RBk} (h : KL K L) (hn : (K.map (·.id)).Nodup) {P : List Nm} {M : List Blk} {D : List RH} (hM : M.map (·.id) = P) (hK : ∀ b ∈ M, b ∈ K) (hD : HsP L (P.map (·.1)) D) : M.map (·.h) = D.map (fun y => ownH y.h) := by
  have hl1 : M.length = P.length := by rw [← hM, List.length_map]
  have hl2 : D.length = P.length := by rw [hD.1, List.length_map]
  apply List.ext_getElem
  · rw [List.length_map, List.length_map, hl1, hl2]
  · intro j h1 h2
    rw [List.length_map] at h1 h2
    rw [List.getElem_map, List.getElem_map]
    have hp : P[j]'(by omega) = (M[j]).id := by subst hM; rw [List.getElem_map]
    obtain ⟨r, hr, e1, e2⟩ := hD.2 j (P[j]'(by omega)).1 (by rw [List.getElem?_map, List.getElem?_eq_getElem (by omega)]; rfl)
    obtain ⟨b, hb, e3, e4⟩ := h.lk r hr
    have hbm : b = M[j] := uniq_id hn b hb _ (hK _ (List.getElem_mem _)) (Subtype.ext (by rw [e3, e1, hp]))
    rw [List.getElem?_eq_getElem h2] at e2
    rw [← hbm, e4, Option.some.inj e2]
theorem famR_own {y : RH} (hp : ∀ p ∈ y.h.ps, p.length = 32) : famR y = hfam (ownH y.h) (kB (kset (ownH y.h).ps)) := by
  unfold famR
  have e : rsort y.h.ps = (kset (ownH y.h).ps).map (·.1) := by rw [← rsort_kset, own_ps hp]
  rw [e, kB, List.flatMap_def]
  rfl
theorem ck8_newE {M : List Blk} {D : List RH} (hMD : M.map (·.h) = D.map (fun y => ownH y.h)) (hids : (M.map (·.id)).Nodup) (hp : ∀ y ∈ D, ∀ p ∈ y.h.ps, p.length = 32) {e8 : Int} (hc : Ck8 D e8) : e8 = 0 ↔ newE (M.map Blk.is) = 0 := by
  have hl : M.length = D.length := by have := congrArg List.length hMD; simpa using this
  have hfam : ∀ j (h1 : j < M.length) (h2 : j < D.length), famI (M[j]).is = famR D[j] := fun j h1 h2 => by
    have e : (M[j]).h = ownH (D[j]).h := by
      have := List.getElem_of_eq hMD (i := j) (by rw [List.length_map]; exact h1)
      simpa using this
    rw [famR_own (hp _ (List.getElem_mem _)), ← e]
    rfl
  have hmi : ∀ j (h1 : j < M.length) (h2 : j < D.length), (M[j]).is.2.mi = (D[j]).h.mi := fun j h1 h2 => by
    have e : (M[j]).h = ownH (D[j]).h := by
      have := List.getElem_of_eq hMD (i := j) (by rw [List.length_map]; exact h1)
      simpa using this
    show (M[j]).h.mi = _
    rw [e]; rfl
  have hids2 : ((M.map Blk.is).map (·.1)).Nodup := by rw [List.map_map]; exact hids
  constructor
  · intro he
    rcases hc with ⟨_, h⟩ | ⟨_, h⟩ | ⟨_, _, h, _⟩ | ⟨h0, h5, _, hT⟩
    · omega
    · omega
    · omega
    · unfold newE
      rw [if_neg (by rw [List.length_map]; omega), if_neg (by intro h; have := congrArg List.length h; simp at this; subst this; simp at hl; omega), if_pos]
      rw [Bool.and_eq_true]
      constructor
      · rw [oneI_iff]
        intro x hx y hy
        obtain ⟨i, hi, rfl⟩ := List.mem_iff_getElem.1 hx
        obtain ⟨k, hk, rfl⟩ := List.mem_iff_getElem.1 hy
        rw [List.length_map] at hi hk
        rw [List.getElem_map, List.getElem_map, hfam i hi (by omega), hfam k hk (by omega)]
        exact (hT i k (by omega) (by omega) (by omega) (by omega)).1
      · unfold diffI
        rw [Bool.and_eq_true, decide_eq_true_iff, decide_eq_true_iff]
        refine ⟨?_, hids2⟩
        unfold List.Nodup
        rw [List.pairwise_iff_getElem]
        intro i k hi hk hlt
        simp only [List.length_map] at hi hk
        simp only [List.getElem_map]
        rw [hmi i hi (by omega), hmi k hk (by omega)]
        exact (hT i k (by omega) (by omega) (by omega) (by omega)).2 (by omega)
  · intro hz
    obtain ⟨h5, hne, h1, h2⟩ := newE_ok hz
    rw [List.length_map] at h5
    rw [oneI_iff] at h1
    unfold diffI at h2
    rw [Bool.and_eq_true, decide_eq_true_iff] at h2
    have hnd := h2.1
    unfold List.Nodup at hnd
    rw [List.pairwise_iff_getElem] at hnd
    have hmd : ∀ i k (hi : i < D.length) (hk : k < D.length), i < k → (D[i]).h.mi ≠ (D[k]).h.mi := fun i k hi hk hlt => by
      have := hnd i k (by simp; omega) (by simp; omega) hlt
      simp only [List.getElem_map] at this
      rwa [hmi i (by omega) hi, hmi k (by omega) hk] at this
    rcases hc with ⟨h, _⟩ | ⟨h, _⟩ | ⟨_, _, _, i, k, hi, hk, hno⟩ | ⟨_, _, h, _⟩
    · omega
    · exact absurd (by rw [List.eq_nil_of_length_eq_zero (hl.trans h)]; rfl) hne
    · refine absurd (fun hi hk => ⟨?_, fun hik => ?_⟩) hno
      · have := h1 ((M[i]'(by omega)).is) (List.mem_map_of_mem (List.getElem_mem _)) ((M[k]'(by omega)).is) (List.mem_map_of_mem (List.getElem_mem _))
        rwa [hfam i (by omega) hi, hfam k (by omega) hk] at this
      · rcases Nat.lt_or_gt_of_ne hik with hlt | hlt
        · exact hmd i k hi hk hlt
        · exact (hmd k i hk hi hlt).symm
    · exact h
theorem num_head {a b : Int} {A B : List UInt8} (ha : 0 ≤ a ∧ a ≤ 9223372036854775807) (hb : 0 ≤ b ∧ b ≤ 9223372036854775807) (h : numL a ++ A = numL b ++ B) : a = b := by
  rw [numL_toNat a, numL_toNat b] at h
  rcases List.append_eq_append_iff.1 h with ⟨r, h1, _⟩ | ⟨r, h1, _⟩
  · have := numL_inj a.toNat b.toNat (by omega) (by omega) r h1
    omega
  · have := numL_inj b.toNat a.toNat (by omega) (by omega) r h1
    omega
theorem famI_ht {x y : BI} (hx : 0 ≤ x.2.ht ∧ x.2.ht ≤ 9223372036854775807) (hy : 0 ≤ y.2.ht ∧ y.2.ht ≤ 9223372036854775807) (h : famI x = famI y) : x.2.ht = y.2.ht := by
  unfold famI hfam at h
  rw [List.append_assoc, List.append_assoc] at h
  exact num_head hx hy h
theorem KL.gen {K : List Blk} (h : K.map Blk.is = genX) : KL K [⟨nmR grh.h, grh⟩] := by
  obtain ⟨b, rfl, h1, h2⟩ := gen_mem h
  have e : (nmH ghd).1 = nmR grh.h := nmR_own (h := grh.h) (fun p hp => by cases hp)
  refine ⟨rfl, fun b' hb => ?_, fun r hr => ?_⟩
  · rw [List.mem_singleton.1 hb]
    exact ⟨_, List.mem_singleton.2 rfl, by rw [h1, e], by rw [h2]; rfl⟩
  · rw [List.mem_singleton.1 hr]
    exact ⟨b, List.mem_singleton.2 rfl, by rw [h1, e], by rw [h2]; rfl⟩
theorem KL.add {K : List Blk} {L : List RBk} {nb : Blk} {x : RH} (h : KL K L) (hp : ∀ p ∈ x.h.ps, p.length = 32) (hnb : nb.is = (nmH (ownH x.h), ownH x.h)) : KL (nb :: K) (L ++ [⟨nmR x.h, x⟩]) := by
  have e1 : nb.id = nmH (ownH x.h) := congrArg (·.1) hnb
  have e2 : nb.h = ownH x.h := congrArg (·.2) hnb
  have e3 := nmR_own hp
  refine ⟨by rw [List.length_cons, List.length_append, h.len]; rfl, fun b hb => ?_, fun r hr => ?_⟩
  · rcases List.mem_cons.1 hb with rfl | hb2
    · exact ⟨⟨nmR x.h, x⟩, List.mem_append_right _ (List.mem_singleton.2 rfl), by rw [e1, e3], e2.symm⟩
    · obtain ⟨r, hr, h1⟩ := h.kl b hb2
      exact ⟨r, List.mem_append_left _ hr, h1⟩
  · rcases List.mem_append.1 hr with hr2 | hr2
    · obtain ⟨b, hb, h1⟩ := h.lk r hr2
      exact ⟨b, List.mem_cons_of_mem _ hb, h1⟩
    · rw [List.mem_singleton.1 hr2]
      exact ⟨nb, List.mem_cons_self, by rw [e1, e3], e2⟩
/-- What the dag and the reference say of a header is one. -/
theorem chk_bridge {K : List Blk} {L : List RBk} {x : RH} (h : KL K L) (hn : (K.map (·.id)).Nodup) (hx : ∀ p ∈ x.h.ps, p.length = 32) (hp : ∀ r ∈ L, ∀ p ∈ r.x.h.ps, p.length = 32) (hht : ∀ r ∈ L, 0 ≤ r.x.h.ht ∧ r.x.h.ht ≤ 9223372036854775807)
    {e e' : Int} (hk : ChkP K (ownH x.h) e) (hr : RkP L x e') : e = e' := by
  have hc : chkH (ownH x.h) = chkR x := chkR_own hx
  have hnm := nmR_own hx
  have hhas := h.has (nmH (ownH x.h))
  rw [hnm] at hhas
  rcases hk with ⟨h1, h2⟩ | ⟨h1, h2, h3⟩ | ⟨h1, h2, Y, e1, hT, h3⟩
  · rcases hr with ⟨_, r2⟩ | ⟨r1, _⟩ | ⟨r1, _⟩
    · rw [h2, r2, hc]
    · exact absurd (hc.trans r1) h1
    · exact absurd (hc.trans r1) h1
  · rcases hr with ⟨r1, _⟩ | ⟨_, _, r2⟩ | ⟨_, r2, _⟩
    · exact absurd (hc.symm.trans h1) r1
    · rw [h3, r2]
    · obtain ⟨r, hr, e⟩ := hhas.1 h2
      exact absurd e (r2 r hr)
  · rcases hr with ⟨r1, _⟩ | ⟨_, ⟨r, hr, e⟩, _⟩ | ⟨_, _, r3⟩
    · exact absurd (hc.symm.trans h1) r1
    · rw [hhas.2 ⟨r, hr, e⟩] at h2; cases h2
    · have hpw : (ownH x.h).ps.Pairwise lN := (rs_pair _).1 ((chk_zero _ _).1 h1).2
      rw [kset_self hpw] at hT
      have hok : nmsOk (kB (ownH x.h).ps) = true := by
        rw [nmsOk_of _ hpw]
        exact decide_eq_true (chkH_ok h1).2.2.2.2.2.1
      unfold TipP at hT
      rw [hok, pcs_of] at hT
      rcases hT with ⟨t1, _⟩ | ⟨_, ⟨n, hnP, hnH⟩, t2, _⟩ | ⟨_, M, hM, hMK, t1, t2⟩
      · cases t1
      · have e7 : e = 7 := by
          rcases h3 with ⟨_, h⟩ | ⟨h, _⟩ | ⟨h, _⟩ | ⟨h, _⟩
          · exact h
          · exact absurd t2 h
          · omega
          · omega
        rcases r3 with ⟨_, r⟩ | ⟨D, e8, hD, _⟩
        · rw [e7, r]
        · exfalso
          have hnp : n.1 ∈ x.h.ps := by rw [← own_ps hx]; exact List.mem_map_of_mem hnP
          obtain ⟨j, hj, hje⟩ := List.mem_iff_getElem.1 hnp
          obtain ⟨r, hr, e1', _⟩ := hD.2 j n.1 (by rw [List.getElem?_eq_getElem hj, hje])
          rw [(h.has n).2 ⟨r, hr, e1'⟩] at hnH
          cases hnH
      · rcases r3 with ⟨⟨p, hpP, hno⟩, _⟩ | ⟨D, e8, hD, h8, r3⟩
        · exfalso
          rw [← own_ps hx] at hpP
          obtain ⟨n, hnP, rfl⟩ := List.mem_map.1 hpP
          rw [← hM] at hnP
          obtain ⟨b, hb, rfl⟩ := List.mem_map.1 hnP
          obtain ⟨r, hr, e1', _⟩ := h.kl b (hMK b hb)
          exact hno r hr e1'
        · have hD2 : HsP L ((ownH x.h).ps.map (·.1)) D := by rw [own_ps hx]; exact hD
          have hMD := h.same hn hM hMK hD2
          have hpD : ∀ y ∈ D, ∃ r ∈ L, y = r.x := fun y hy => by
            obtain ⟨j, hj, rfl⟩ := List.mem_iff_getElem.1 hy
            obtain ⟨r, hr, _, e2⟩ := hD.2 j (x.h.ps[j]'(by rw [← hD.1]; exact hj)) (List.getElem?_eq_getElem _)
            rw [List.getElem?_eq_getElem hj] at e2
            exact ⟨r, hr, Option.some.inj e2⟩
          have hids : (M.map (·.id)).Nodup := by
            rw [hM]
            exact hpw.imp (fun hlt e => by subst e; exact lN_irr _ hlt)
          have hz := ck8_newE hMD hids (fun y hy => by obtain ⟨r, hr, rfl⟩ := hpD y hy; exact hp r hr) h8
          rw [← t1] at hz
          by_cases h80 : e8 = 0
          · have he1 := hz.1 h80
            obtain ⟨y, hy0, hy⟩ : ∃ y, D[0]? = some y ∧ ((x.h.ht ≤ y.h.ht ∧ e' = 11) ∨ (y.h.ht < x.h.ht ∧ e' = 0)) := by
              rcases r3 with ⟨r, _⟩ | ⟨_, r⟩
              · exact absurd h80 r
              · exact r
            have hYt : htX Y = y.h.ht := by
              have he0 : newE (M.map Blk.is) = 0 := by rw [← t1]; exact he1
              obtain ⟨_, hXne, hone, _⟩ := newE_ok he0
              rw [oneI_iff] at hone
              have hml : M.length = D.length := by have := congrArg List.length hMD; simpa using this
              have hdl : 0 < D.length := (List.getElem?_eq_some_iff.1 hy0).1
              have hMh : ∀ j (h1 : j < M.length) (h2 : j < D.length), (M[j]).h = ownH (D[j]).h := fun j h1 h2 => by
                have := List.getElem_of_eq hMD (i := j) (by rw [List.length_map]; exact h1)
                simpa using this
              have hbd : ∀ b ∈ M, 0 ≤ b.is.2.ht ∧ b.is.2.ht ≤ 9223372036854775807 := fun b hb => by
                obtain ⟨j, hj, rfl⟩ := List.mem_iff_getElem.1 hb
                obtain ⟨r, hr, e⟩ := hpD (D[j]'(by omega)) (List.getElem_mem _)
                show 0 ≤ (M[j]).h.ht ∧ (M[j]).h.ht ≤ _
                rw [hMh j hj (by omega), e]
                exact hht r hr
              have hperm : (isort (M.map Blk.is)).Perm (M.map Blk.is) := List.mergeSort_perm _ _
              have hY2 : Y = isort (M.map Blk.is) := by rw [t2]; unfold newX; rw [if_pos he0]
              cases hI : isort (M.map Blk.is) with
              | nil => rw [hI] at hperm; exact absurd hperm.symm.eq_nil hXne
              | cons z l =>
                have hzm : z ∈ M.map Blk.is := hperm.mem_iff.1 (by rw [hI]; exact List.mem_cons_self)
                obtain ⟨b, hb, rfl⟩ := List.mem_map.1 hzm
                have h0m : M[0]'(by omega) ∈ M := List.getElem_mem _
                have hf := hone _ hzm _ (List.mem_map_of_mem h0m)
                have := famI_ht (hbd b hb) (hbd _ h0m) hf
                rw [hY2, hI]
                show b.is.2.ht = _
                rw [this]
                show (M[0]'(by omega)).h.ht = _
                rw [hMh 0 (by omega) hdl]
                rw [List.getElem?_eq_getElem hdl] at hy0
                rw [Option.some.inj hy0]; rfl
            have hox : (ownH x.h).ht = x.h.ht := rfl
            rcases h3 with ⟨h, _⟩ | ⟨_, h, _⟩ | ⟨_, h, h4⟩ | ⟨_, h, h4⟩
            · omega
            · exact absurd he1 h
            · rcases hy with ⟨_, h5⟩ | ⟨h5, _⟩
              · rw [h4, h5]
              · omega
            · rcases hy with ⟨h5, _⟩ | ⟨_, h5⟩
              · omega
              · rw [h4, h5]
          · have he1 : e1 ≠ 0 := fun h => h80 (hz.2 h)
            have e10 : e' = 10 := by
              rcases r3 with ⟨_, r⟩ | ⟨r, _⟩
              · exact r
              · exact absurd r h80
            have hne7 : e1 ≠ 7 := by
              rw [t1]; unfold newE; split
              · decide
              · split
                · decide
                · split <;> decide
            rcases h3 with ⟨h, _⟩ | ⟨_, _, h⟩ | ⟨h, _⟩ | ⟨h, _⟩
            · exact absurd h hne7
            · rw [h, e10]
            · exact absurd h he1
            · exact absurd h he1
end Go.Proofs.YtemnebbdaljfbaaGreatDoor

namespace Go.Proofs.YtemnebbdaljfbaaGreatDoor
open Go.RowKit

/-- What stands at the head of a round: the dag, the reference's blocks, the headers. -/
structure AdS (w w1 w2 : World) (da : Nat) (hq : Option Addr) (D : List RH) (wr : World) (k : Nat) (L : List RBk) (q : Option Addr) : Prop where
  dg : ∃ (S R : Nat → Prop) (X : DD), DG S R wr da X ∧ KL X.K L ∧ (∀ b ∈ X.K, b.id = nmH b.h) ∧ (∀ j, R j → w.heap.size ≤ j ∧ (j < w1.heap.size ∨ w2.heap.size ≤ j)) ∧ (∀ a, q = some a → ¬ R a.block)
  rd : Rd encRB wr q L
  len : L.length ≤ 1 + k
  pos : 0 < L.length
  src : ∀ r ∈ L, r.x = grh ∨ (r.x ∈ D ∧ chkR r.x = 0)
  hd : Rd encR wr hq D
  ok : ∀ y ∈ D, okH wr y
  b : Below w.heap.size w wr
  s2 : w2.heap.size ≤ wr.heap.size
section
variable {w w1 w2 : World} {da : Nat} {hq : Option Addr} {D : List RH} {wr : World} {k : Nat} {L : List RBk} {q : Option Addr}
theorem AdS.old {w' : World} (h : AdS w w1 w2 da hq D wr k L q) (hb : Below wr.heap.size wr w') : AdS w w1 w2 da hq D w' k L q := by
  obtain ⟨S, R, X, h1, h2⟩ := h.dg
  exact ⟨⟨S, R, X, h1.old hb, h2⟩, h.rd.old hb, h.len, h.pos, h.src, h.hd.old hb, fun y hy => (h.ok y hy).old hb, h.b.trans (hb.mono h.b.size), Nat.le_trans h.s2 hb.size⟩
theorem AdS.more (h : AdS w w1 w2 da hq D wr k L q) : AdS w w1 w2 da hq D wr (k + 1) L q := ⟨h.dg, h.rd, Nat.le_trans h.len (by omega), h.pos, h.src, h.hd, h.ok, h.b, h.s2⟩
theorem grh_ok (u : World) : okH u grh := ⟨grh_arg u, by decide, (fun p hp => by cases hp), by decide, .inl rfl, (fun a e => by cases e)⟩
/-- The reference's headers may be asked for their families. -/
theorem AdS.fm (h : AdS w w1 w2 da hq D wr k L q) : ∀ r ∈ L, fmR wr r.x := fun r hr => by
  rcases h.src r hr with e | ⟨hd, hc⟩
  · rw [e]; exact ⟨grh_ok wr, by decide⟩
  · refine ⟨h.ok _ hd, ?_⟩
    have := ((chk_zero _ _).1 hc).1.2.2.2.2.1.2
    omega
theorem AdS.p32 (h : AdS w w1 w2 da hq D wr k L q) : ∀ r ∈ L, ∀ p ∈ r.x.h.ps, p.length = 32 := fun r hr => (h.fm r hr).ok.p
theorem AdS.hts (h : AdS w w1 w2 da hq D wr k L q) : ∀ r ∈ L, 0 ≤ r.x.h.ht ∧ r.x.h.ht ≤ 9223372036854775807 := fun r hr => by
  rcases h.src r hr with e | ⟨_, hc⟩
  · rw [e]; decide
  · have := ((chk_zero _ _).1 hc).1.1
    omega
/-- A header came in, here and there. -/
theorem AdS.add {w7 w8 : World} {q' : Option Addr} {S R : Nat → Prop} {X : DD} {y : RH} (h : AdS w w1 w2 da hq D wr k L q) (hB : BtH w1 w2 hq D) (HW2 : w.heap.size ≤ w2.heap.size)
    (hdg : DG S R wr da X) (hkl : KL X.K L) (hid : ∀ b ∈ X.K, b.id = nmH b.h) (hR : ∀ j, R j → w.heap.size ≤ j ∧ (j < w1.heap.size ∨ w2.heap.size ≤ j)) (hnR : ∀ a, q = some a → ¬ R a.block)
    (h7 : Below wr.heap.size wr w7) (hL : Rd encRB w7 q' (L ++ [⟨nmR y.h, y⟩])) (hq' : ∀ a, q' = some a → q = some a ∨ wr.heap.size ≤ a.block) (hy : y ∈ D) (hc : chkR y = 0)
    (ha : AddP S R w7 da X (ownH y.h) w8) : AdS w w1 w2 da hq D w8 (k + 1) (L ++ [⟨nmR y.h, y⟩]) q' := by
  obtain ⟨S', R', F', b, hbi, hd, hm, hS', hR'⟩ := ha
  have hSR : ∀ j, S j → R j := hdg.rs
  have hnq : ∀ a, q' = some a → ¬ R a.block := fun a e hr => by
    rcases hq' a e with h1 | h1
    · exact hnR a h1 hr
    · have := hdg.rl _ hr; omega
  have hlt : ∀ a, q' = some a → a.block < w7.heap.size := fun a e => by
    obtain ⟨b', o, e2, hb', _⟩ := hL 0 (by rw [List.length_append, List.length_singleton]; omega)
    rw [e] at e2; cases e2; exact hb'
  have hfr : ∀ j, S j → ¬ (w1.heap.size ≤ j ∧ j < w2.heap.size) := fun j hj hh => by have := (hR j (hSR j hj)).2; omega
  have hyp := (h.ok y hy).p
  refine ⟨⟨S', R', _, hd, hkl.add hyp hbi, ?_, ?_, ?_⟩, hL.mod hm (fun a e hs => hnq a e (hSR _ hs)), ?_, ?_, ?_, (h.hd.old h7).mod hm (fun a e hs => hfr _ hs (hB.1 a e)), ?_, ?_, ?_⟩
  · intro b' hb'
    rcases List.mem_cons.1 hb' with rfl | hb'
    · have e1 : b'.id = nmH (ownH y.h) := congrArg (·.1) hbi
      have e2 : b'.h = ownH y.h := congrArg (·.2) hbi
      rw [e1, e2]
    · exact hid b' hb'
  · intro j hj
    rcases hR' j hj with h1 | h1
    · exact hR j h1
    · have := h7.size; have := h.s2; omega
  · intro a e hr
    rcases hR' _ hr with h1 | h1
    · exact hnq a e h1
    · have := hlt a e; omega
  · have := h.len; rw [List.length_append, List.length_singleton]; omega
  · rw [List.length_append, List.length_singleton]; omega
  · intro r hr
    rcases List.mem_append.1 hr with h1 | h1
    · exact h.src r h1
    · rw [List.mem_singleton.1 h1]; exact .inr ⟨hy, hc⟩
  · intro z hz
    exact ((h.ok z hz).old h7).kept hm (fun a e hs => hfr _ hs (hB.2 z hz a e))
  · have h1 : Below w.heap.size w w7 := h.b.trans (h7.mono h.b.size)
    exact h1.trans (hm.to_below h1.size (fun j hj hs => by have := (hR j (hSR j hs)).1; omega))
  · have := h.s2; have := h7.size; have := hm.size; omega
end
end Go.Proofs.YtemnebbdaljfbaaGreatDoor

namespace Go.Proofs.YtemnebbdaljfbaaGreatDoor
open Go.RowKit

theorem AdS.swap {w w1 w2 : World} {da : Nat} {hq : Option Addr} {D : List RH} {wr w' : World} {k : Nat} {L : List RBk} {q q2 : Option Addr} (h : AdS w w1 w2 da hq D wr k L q) (hb : Below wr.heap.size wr w') (hrd : Rd encRB w' q2 L) (hq2 : ∀ a, q2 = some a → q = some a ∨ wr.heap.size ≤ a.block) : AdS w w1 w2 da hq D w' k L q2 := by
  obtain ⟨S, R, X, h1, h2, h3, h4, h5⟩ := h.dg
  have ho := h.old hb
  exact ⟨⟨S, R, X, h1.old hb, h2, h3, h4, fun a e hr => by
    rcases hq2 a e with h6 | h6
    · exact h5 a h6 hr
    · have := h1.rl _ hr; omega⟩, hrd, h.len, h.pos, h.src, ho.hd, ho.ok, ho.b, ho.s2⟩
theorem RkP.zero {L : List RBk} {x : RH} (h : RkP L x 0) : chkR x = 0 := by
  rcases h with ⟨h1, h2⟩ | ⟨h1, _⟩ | ⟨h1, _⟩
  · exact absurd h2.symm h1
  · exact h1
  · exact h1
/-- What the law's Is tells of a dag that is the reference's. -/
def IsOk : Prop := ∀ (u : World) (S R : Nat → Prop) (da : Nat) (X : DD) (q : Option Addr) (c : Nat) (L : List RBk), DG S R u da X → KL X.K L → (∀ b ∈ X.K, b.id = nmH b.h) → Rd encRB u q L → L.length ≤ 1000 → TabAt u →
  Calls Tryz.prog 17 #[.pointer (some ⟨da, 0, none⟩), .slice q L.length c] u fun r w' => r = .returned (.bool true) ∧ Below u.heap.size u w'
set_option maxRecDepth 20000 in
set_option maxHeartbeats 16000000 in
theorem dagAdds_of (hIs : IsOk) (sq : Option Addr) (sc : Nat) (L : List SD) (w : World) (hL : Rd encSD w sq L) (hA : ∀ s ∈ L, argS w s) (hl : L.length ≤ 9223372036854775807) (hT : TabAt w) :
    Calls Tryz.prog 3 #[.slice sq L.length sc] w fun r w' => r = .returned (.bool true) ∧ Below w.heap.size w w' := by
  have HT := Lib.hid hT
  have HIS := Lib.hid hIs
  have HAW := Lib.hid (awake13_any w hT)
  have HNEW := Lib.hid (fun (u : World) (h : TabAt u) => dgnew_any u h)
  have HGRN := Lib.hid (fun (u : World) (hb : Below w.heap.size w u) => grown_any sq sc L 24 u (hL.old hb) (fun s hs => (hA s hs).old hb) (by decide) hl)
  obtain ⟨ln, hln⟩ : ∃ ln, ln = L.length := ⟨_, rfl⟩
  rw [← hln] at HGRN ⊢
  clear hL hA hl hT hln hIs
  go_enter Tryz.func3, Tryz.ntmps3
  go_wp2_with fail
  refine HAW.out.mono ?_
  rintro r w0 ⟨rfl, hb0⟩
  have HB0 := Lib.hid hb0
  clear hb0 HAW
  go_wp2_with fail
  refine (HNEW.out w0 (HT.out.old HB0.out)).mono ?_
  rintro r w1 ⟨da, rfl, S, R, X, hdg, hgen, hR, hb1⟩
  have HD0 := Lib.hid hdg
  have HGEN := Lib.hid hgen
  have HR0 : Hid (∀ k, R k → w.heap.size ≤ k) := Lib.hid (fun k hk => Nat.le_trans HB0.out.size (hR k hk))
  have HB1 := Lib.hid (HB0.out.trans (hb1.mono HB0.out.size))
  clear hdg hgen hR hb1 HNEW
  have HGN := Lib.hid (rgenesis_any w1)
  obtain ⟨bg, hbg⟩ : ∃ bg : RBk, bg = ⟨nmR grh.h, grh⟩ := ⟨_, rfl⟩
  have HBG := Lib.hid hbg
  rw [← hbg] at HGN
  clear hbg
  go_upto_region 4 with fail
  go_wp2_with fail
  refine HGN.out.mono ?_
  rintro r wg ⟨rfl, hbg1⟩
  have hbg2 := alloc1 wg (.cells bg.cells.toArray 31)
  have HBG2 := Lib.hid (hbg1.trans (hbg2.mono hbg1.size))
  have HQG : Hid (w1.heap.size ≤ wg.heap.size) := Lib.hid hbg1.size
  have HRG : Hid (Rd encRB (wg.alloc (.cells bg.cells.toArray 31)) (some ⟨wg.heap.size, 0, none⟩) [bg]) := Lib.hid (by have := Rd.made encRB wg 31 [bg] (by simp [maxLen]); rw [encRB_one] at this; exact this)
  clear hbg1 hbg2 HGN
  go_upto_region 5 with (refine wpList_exec rfl (build_rbs (.tmp 13) rfl bg rfl) ?_; go_frame)
  obtain ⟨wh, hwh⟩ : ∃ wh, wh = wg.alloc (.cells bg.cells.toArray 31) := ⟨_, rfl⟩
  obtain ⟨gL, hgL⟩ : ∃ gL, gL = wg.heap.size := ⟨_, rfl⟩
  rw [← hwh, ← hgL] at HRG
  rw [← hwh] at HBG2
  rw [← hgL] at HQG
  rw [← hwh, ← hgL]
  clear hwh hgL
  have HBH := Lib.hid (HB1.out.trans (HBG2.out.mono HB1.out.size))
  go_upto_region 7 with fail
  go_wp2_with fail
  refine (HGRN.out wh HBH.out).mono ?_
  rintro r w2 ⟨hn, hq, hc, D, hn16, rfl, hG⟩
  have HDN : Hid (hn = D.length) := Lib.hid hG.len.symm
  have HBT : Hid (BtH wh w2 hq D) := Lib.hid ⟨fun a e => ⟨hG.f a e, by have := hG.rw; rw [e] at this; exact this.lt⟩, fun y hy z e => ⟨hG.fr y hy z e, by
    obtain ⟨cur, hcu⟩ := (hG.ok y hy).t z e
    exact (Array.getElem?_eq_some_iff.1 hcu).1⟩⟩
  have HW12 : Hid (w.heap.size ≤ w2.heap.size) := Lib.hid (Nat.le_trans HBH.out.size hG.b.size)
  have HBW2 := Lib.hid (HBH.out.trans (hG.b.mono HBH.out.size))
  have H0 : Hid (AdS w wh w2 da hq D w2 0 [bg] (some ⟨gL, 0, none⟩)) := Lib.hid ⟨⟨S, R, X, (HD0.out.old HBG2.out).old hG.b, by rw [HBG.out]; exact KL.gen HGEN.out, (by
      obtain ⟨b, hX, h1, h2⟩ := gen_mem HGEN.out
      intro b' hb'
      rw [hX] at hb'
      rw [List.mem_singleton.1 hb', h1, h2]), (fun j hj => ⟨HR0.out j hj, .inl (Nat.lt_of_lt_of_le (HD0.out.rl j hj) HBG2.out.size)⟩), (fun a e hr => by cases e; have h1 : gL < w1.heap.size := HD0.out.rl _ hr; have := HQG.out; omega)⟩, HRG.out.old hG.b, (by simp), (by simp), (fun r hr => by rw [List.mem_singleton.1 hr, HBG.out]; exact .inl rfl), hG.rw.rd, hG.ok, HBW2.out, Nat.le_refl _⟩
  clear hG HGRN HD0 HGEN HR0
  go_wp2_with fail
  go_loopw [4, 20] (fun s4 s20 wr => ∃ (k : Nat) (N : List RBk) (q : Option Addr) (c : Nat), k ≤ hn ∧ N.length ≤ 1 + k ∧ s20 = .int .i64 (k : Int) ∧ s4 = .slice q N.length c ∧ Hid (AdS w wh w2 da hq D wr k N q)) (fun _ s20 _ => hn - (intOf s20).toNat)
  case atStart => exact ⟨0, [bg], _, 1, by omega, by simp, rfl, rfl, H0⟩
  case round =>
    clear H0
    obtain ⟨k, N, q, c, hkn, hNk, rfl, rfl, HS⟩ := hrel
    have k0 : (0 : Int) ≤ k := by omega
    obtain ⟨nn, hnn⟩ : ∃ nn, nn = N.length := ⟨_, rfl⟩
    have HNN := Lib.hid hnn
    rw [← hnn] at hNk ⊢
    clear hnn
    by_cases hlt : k < hn
    · have hlt' : (k : Int) < hn := by omega
      obtain ⟨bs, off, rfl, hbs, cx⟩ := HS.out.hd k (by have := HDN.out; omega)
      obtain ⟨y, hy⟩ : ∃ y, y = D[k]'(by have := HDN.out; omega) := ⟨_, rfl⟩
      rw [← hy] at cx
      have HYD : Hid (y ∈ D) := Lib.hid (by rw [hy]; exact List.getElem_mem _)
      have HYK : Hid (okH wr y) := Lib.hid (HS.out.ok y HYD.out)
      have HCL : Hid (∀ i u, y.cells[i]? = some u → wr.cell? ⟨bs, off + k * 7 + i, none⟩ = some u) := Lib.hid cx
      have HYS : Hid (y.cells.toArray.size = 7) := Lib.hid rfl
      have HYI := Lib.hid (rh_info y)
      have HYO : Hid (∀ v ∈ y.cells.toArray.toList, v.oneCell' = true) := Lib.hid y.one
      clear hy cx hbs
      go_upto_region 10 with (first
        | (refine wpList_exec rfl (exec_load_rhm (.tmp 22) rfl bs (off + k * 7) rfl y HCL.out) ?_; go_frame)
        | (refine wpList_store_row rfl rfl 29 (.tmp 6) (.tmp 23) rfl wr.heap.size rfl 29 _ y.cells.toArray rfl (heap_alloc_new wr _) HYS.out.symm HYI.out HYO.out ?_))
      refine wp_gen (fun W5 => W5.heap[wr.heap.size]? = some (.cells y.cells.toArray 29 (0, 0)) ∧ Below wr.heap.size wr W5) (row_new wr _ _ y.cells.toArray 29 rfl) (fun W5 hW5 => ?_)
      obtain ⟨hr5, hb5⟩ := hW5
      obtain ⟨g6, hg6⟩ : ∃ g6, g6 = wr.heap.size := ⟨_, rfl⟩
      rw [← hg6] at hr5
      rw [← hg6]
      have HS5 := Lib.hid (HS.out.old hb5)
      have HBR5 := Lib.hid hb5
      have HRC := Lib.hid (fun (u : World) (hb : Below wr.heap.size wr u) => r13check_any q c N y u (HS.out.rd.old hb) (by have := HNN.out; omega) (fun b hb2 => (HS.out.fm b hb2).old hb) (HYK.out.old hb))
      have HRA := Lib.hid (fun (u : World) (hb : Below wr.heap.size wr u) => r13add_any q c N y u (HS.out.rd.old hb) (by have := HNN.out; omega) HS.out.pos (fun b hb2 => (HS.out.fm b hb2).old hb) (HYK.out.old hb))
      have HOW : Hid (∀ u : World, Below wr.heap.size wr u → Calls Tryz.prog 13 #[.agg y.cells.toArray] u fun r w' => ∃ q c, r = .returned (.agg (hcells (ownH y.h) q c)) ∧ Rw encN 70 w' q c (ownH y.h).ps ∧ Below u.heap.size u w' ∧ ∀ a, q = some a → u.heap.size ≤ a.block) := Lib.hid (fun u hb => own_any y.h y.q y.c u (HYK.out.a.rd.old hb) (by have := HYK.out.n; omega))
      have HOK : Hid (HOk (ownH y.h)) := Lib.hid (by
        have h1 := HYK.out.n
        have h2 := HYK.out.k
        have h3 := HYK.out.a
        exact ⟨by show (y.h.ps.map nmOf).length ≤ _; rw [List.length_map]; omega, by show y.h.tk.length ≤ _; omega, h3.pw, h3.b1, h3.b2, h3.b3, h3.b4⟩)
      rw [← HNN.out] at HRC HRA
      obtain ⟨YC, hYC⟩ : ∃ YC, YC = y.cells.toArray := ⟨_, rfl⟩
      rw [← hYC] at HOW HRC HRA HYI hr5
      have HR5 := Lib.hid hr5
      obtain ⟨S, R, X, hdg, hkl, hid, hR, hnR⟩ := HS.out.dg
      have HDG := Lib.hid hdg
      have HKL := Lib.hid hkl
      have HID := Lib.hid hid
      have HRR := Lib.hid hR
      have HNR := Lib.hid hnR
      have HBR : Hid (∀ e e', ChkP X.K (ownH y.h) e → RkP N y e' → e = e') := Lib.hid (fun e e' h1 h2 => chk_bridge hkl hdg.nodup HYK.out.p HS.out.p32 HS.out.hts h1 h2)
      clear hr5 hb5 hg6 hYC HCL hdg hkl hid hR hnR
      go_upto_region 10 with fail
      go_upto_region 11 with (refine wpList_exec rfl (exec_load_row 29 (.tmp 6) rfl g6 rfl 29 YC (0, 0) _ HR5.out Tryz.underlying29 rfl HYI.out) ?_)
      refine (HRC.out W5 HBR5.out).mono ?_
      rintro r W6 ⟨e1, rfl, hk1, hb6⟩
      have HK1 := Lib.hid hk1
      have HBR6 := Lib.hid (HBR5.out.trans (hb6.mono HBR5.out.size))
      have HR6 := Lib.hid ((hb6.block g6 (Array.getElem?_eq_some_iff.1 HR5.out).1).trans HR5.out)
      clear hk1 hb6 HRC
      go_upto_region 11 with fail
      go_upto_region 12 with (refine wpList_exec rfl (exec_load_row 29 (.tmp 6) rfl g6 rfl 29 YC (0, 0) _ HR6.out Tryz.underlying29 rfl HYI.out) ?_)
      refine (HOW.out W6 HBR6.out).mono ?_
      rintro r W7 ⟨oq, oc, rfl, hor, hb7, _⟩
      obtain ⟨HC, hHC⟩ : ∃ HC, HC = hcells (ownH y.h) oq oc := ⟨_, rfl⟩
      have HBR7 := Lib.hid (HBR6.out.trans (hb7.mono HBR6.out.size))
      have HR7 := Lib.hid ((hb7.block g6 (Array.getElem?_eq_some_iff.1 HR6.out).1).trans HR6.out)
      have HCH := Lib.hid (dgcheck_any (HDG.out.old HBR7.out) (ownH y.h) oq oc hor.rd hor.ao HOK.out (HT.out.old (HS.out.b.trans (HBR7.out.mono HS.out.b.size))))
      rw [← hHC] at HCH
      rw [← hHC]
      clear hHC hor hb7
      go_upto_region 12 with fail
      refine HCH.out.mono ?_
      rintro r W8 ⟨e2, rfl, hk2, hb8⟩
      obtain rfl : e2 = e1 := HBR.out e2 e1 hk2 HK1.out
      have HK2 := Lib.hid hk2
      have HBR8 := Lib.hid (HBR7.out.trans (hb8.mono HBR7.out.size))
      have HR8 := Lib.hid ((hb8.block g6 (Array.getElem?_eq_some_iff.1 HR7.out).1).trans HR7.out)
      clear hk2 hb8 HCH HK1
      go_upto_region 13 with fail
      go_upto_region 14 with (refine wpList_exec rfl (exec_load_row 29 (.tmp 6) rfl g6 rfl 29 YC (0, 0) _ HR8.out Tryz.underlying29 rfl HYI.out) ?_)
      refine (HRA.out W8 HBR8.out).mono ?_
      rintro r W9 ⟨q2, c2, N2, e3, rfl, hk3, hN2, hrd2, hf2, hb9⟩
      obtain rfl : e2 = e3 := HBR.out e2 e3 HK2.out hk3
      obtain ⟨n2, hn2⟩ : ∃ n2, n2 = N2.length := ⟨_, rfl⟩
      have HN2 := Lib.hid hn2
      rw [← hn2]
      have HK3 := Lib.hid hk3
      have HN2E := Lib.hid hN2
      have HRD2 := Lib.hid hrd2
      have HF2 : Hid (∀ a, q2 = some a → q = some a ∨ wr.heap.size ≤ a.block) := Lib.hid (fun a e => (hf2 a e).elim .inl (fun h => .inr (Nat.le_trans HBR8.out.size h)))
      have HBR9 := Lib.hid (HBR8.out.trans (hb9.mono HBR8.out.size))
      have HR9 := Lib.hid ((hb9.block g6 (Array.getElem?_eq_some_iff.1 HR8.out).1).trans HR8.out)
      clear hn2 hk3 hN2 hrd2 hf2 hb9 HRA
      go_upto_region 15 with fail
      go_upto_region 16 with (refine wpList_exec rfl (exec_load_row 29 (.tmp 6) rfl g6 rfl 29 YC (0, 0) _ HR9.out Tryz.underlying29 rfl HYI.out) ?_)
      refine (HOW.out W9 HBR9.out).mono ?_
      rintro r W10 ⟨oq2, oc2, rfl, hor2, hb10, _⟩
      obtain ⟨HC2, hHC2⟩ : ∃ HC2, HC2 = hcells (ownH y.h) oq2 oc2 := ⟨_, rfl⟩
      have HBR10 := Lib.hid (HBR9.out.trans (hb10.mono HBR9.out.size))
      have HRD10 := Lib.hid (HRD2.out.old hb10)
      have HADD := Lib.hid (dgadd_any (HDG.out.old HBR10.out) (ownH y.h) oq2 oc2 hor2.rd hor2.ao HOK.out (by rw [HKL.out.len]; have := HNN.out; omega) (HT.out.old (HS.out.b.trans (HBR10.out.mono HS.out.b.size))))
      rw [← hHC2] at HADD
      rw [← hHC2]
      clear hHC2 hor2 hb10
      go_upto_region 16 with fail
      refine HADD.out.mono ?_
      rintro r W11 ⟨e4, rfl, hk4, hp4⟩
      obtain rfl : e4 = e2 := HBR.out e4 e2 hk4 HK3.out
      have HNX : Hid (AdS w wh w2 da (some ⟨bs, off, none⟩) D W11 (k + 1) N2 q2) := Lib.hid (by
        rcases hp4 with ⟨h0, hb11⟩ | ⟨h0, hA⟩
        · rcases HN2E.out with ⟨_, e⟩ | ⟨e, _⟩
          · subst e
            exact (HS.out.swap (HBR10.out.trans (hb11.mono HBR10.out.size)) (HRD10.out.old hb11) HF2.out).more
          · exact absurd e h0
        · rcases HN2E.out with ⟨e, _⟩ | ⟨_, e⟩
          · exact absurd h0 e
          · subst h0
            subst e
            exact HS.out.add HBT.out HW12.out HDG.out HKL.out HID.out HRR.out HNR.out HBR10.out HRD10.out HF2.out HYD.out HK3.out.zero hA)
      obtain ⟨S3, R3, X3, hdg3, hkl3, _⟩ := HNX.out.dg
      have HLN := Lib.hid (dglen_any hdg3)
      rw [hkl3.len, ← HN2.out] at HLN
      clear hp4 hk4 hdg3 hkl3 HADD HRD10 HRD2 HF2
      go_wp2_with fail
      refine HLN.out.mono ?_
      rintro r w12 ⟨rfl, rfl⟩
      go_wp2_with fail
      go_roundw
      case rel => exact ⟨k + 1, N2, q2, c2, by omega, HNX.out.len, by go_num, by rw [HN2.out], HNX⟩
      case measure => simp [intOf] <;> omega
    · obtain rfl : k = hn := by omega
      have hlt' : ¬ (k : Int) < k := by omega
      obtain ⟨S, R, X, hdg, hkl, hid, _⟩ := HS.out.dg
      have HIC := Lib.hid (HIS.out wr S R da X q c N hdg hkl hid HS.out.rd (by have := HNN.out; omega) (HT.out.old HS.out.b))
      rw [← HNN.out] at HIC
      clear hdg hkl hid hlt
      go_wp2_with fail
      refine HIC.out.mono ?_
      rintro r w4 ⟨rfl, hb4⟩
      have HBF := Lib.hid (HS.out.b.trans (hb4.mono HS.out.b.size))
      go_wp2_with fail
      go_ret
      exact ⟨rfl, HBF.out⟩
end Go.Proofs.YtemnebbdaljfbaaGreatDoor

namespace Go.Proofs.YtemnebbdaljfbaaGreatDoor
open Go.RowKit

/-- A round ends: it goes on. -/
def roundGo {α : Type} (B : Nat) (I : List α → World → Prop) (pre : List α) (x : α) (W : World) : Exit → Act → World → Prop
  | .normal, _, W' => KeepsFrom B W W' ∧ KeepsWalks W W' ∧ I (pre ++ [x]) W'
  | _, _, _ => False

variable {F : Fence} {n : Nat} {P : Program}

theorem wpIn_gives {α : Type} {g : Operand} {ps : Array Tmp} {assign body : Code} {Q : Exit → Act → World → Prop} {a : Act} {w : World}
    (hro : F.round = none) (h1 : 1 ≤ n) {gf : Nat} {lb : Array Value} (hg : a.eval g = .func (.func gf) #[] lb) (hFg : F.fn gf) (eg : ∀ args w, (callFunc gf args).run P w = .ok (.enter gf args) w)
    {enc : α → Value} {S : List α → Prop} {N : Nat} {w0 : World} (hseq : SeqGives F (n - 1) P gf lb enc S N w0) (hb0 : Below w0.heap.size w0 w) (hps : ps.size = 1)
    (I : List α → World → Prop) (hI : OwnFrom w.heap.size I) (h0 : I [] w) (B : α → Act → World → Prop) (hB : ∀ a, OwnFrom w.heap.size (fun x W => B x a W))
    (hassign : ∀ (l : Nat) (pre : List α) (x : α) (W : World) (K : Act → World → Prop), I pre W → w.heap.size ≤ W.heap.size → (∀ a W', I pre W' → B x a W' → KeepsFrom w.heap.size W W' → KeepsWalks W W' → K a W') →
      assign.wpIn (F.inRound l) (n - 1 - 1) P (Exit.then K (fun _ _ _ => False)) { tmps := (ps.zip #[enc x]).foldl (fun t (p, v) => t.setIfInBounds p v) a.tmps, defers := [] } W)
    (hbody : ∀ (l : Nat) (pre : List α) (x : α) (b : Act) (W : World), I pre W → B x b W → pre.length < N → body.wpIn (F.inRound l) (n - 1 - 1) P (roundGo w.heap.size I pre x W) b W)
    (hdone : ∀ (D : Nat) (xs : List α) (W : World), w.heap.size ≤ D → S xs → I xs W → W.heap[D]? = some (.deferred (some [])) → Q .normal { a with defers := { target := .collected D, args := #[] } :: a.defers } W) :
    (Code.rangeFunc g ps assign body).wpIn F n P Q a w := by
  refine wpIn_rangeFunc fun fn hfn => ?_
  rw [hro]
  obtain ⟨rec, hrec⟩ : ∃ rec : LoopState → Option Code → Loop, rec = fun st pe => { state := st, pending := pe, fn, tmps := a.tmps, params := ps, assign, body, defers := w.heap.size } := ⟨_, rfl⟩
  obtain ⟨V, hV⟩ : ∃ V, V = (w.alloc (.deferred (some []))).alloc (.loop (rec .ready none)) := ⟨_, rfl⟩
  have rL : V.heap[w.heap.size + 1]? = some (.loop (rec .ready none)) := by
    have := World.alloc_heap_new (w.alloc (.deferred (some []))) (.loop (rec .ready none)); rw [World.size_alloc] at this; rw [hV]; exact this
  have rD : V.heap[w.heap.size]? = some (.deferred (some [])) := by rw [hV]; exact (Below.heap_alloc _ _ _ (by simp)).trans (World.alloc_heap_new w _)
  have vI : I [] V := by rw [hV]; exact hI.alloc _ (hI.alloc _ h0)
  have vB : Below w0.heap.size w0 V := by rw [hV]; exact hb0.trans ((((Below.refl _ w).alloc (Nat.le_refl _) _).alloc (by simp) _).mono hb0.size)
  have vS : w.heap.size + 2 ≤ V.heap.size := by rw [hV]; simp
  refine ⟨w.heap.size + 1, [{ target := .collected w.heap.size, args := #[] }], V, { target := .fn (.func gf) lb, args := #[.func (.yield (w.heap.size + 1)) #[] #[]] }, V, gf,
    #[.func (.yield (w.heap.size + 1)) #[] #[]] ++ lb, V, ?_, ?_, ?_, ?_, fun _ => h1, ?_⟩
  · rw [hV, hrec]; exact run_enterLoop_outer _ _ _ _ _
  · simp only [resolve, hg]; simp [go_sem]
  · intro f' hf'; simp [Target.leads] at hf'; subst hf'; exact hFg
  · simp [invoke, go_sem, eg]
  clear hV
  -- the two blocks of the loop's own lie on where no walk's object turns
  have keep : ∀ {A C : World} {row : Option Nat} {j : Nat} {o : Obj}, A.grownBy C row → (∀ r, row = some r → V.heap.size ≤ r ∧ ∃ o : Obj, A.heap[r]? = some o ∧ o.isWalk = true) → A.heap[j]? = some o → o.isWalk = false → C.heap[j]? = some o :=
    fun hg' hr hj ho => (grownBy_keeps hg' (fun r e => (hr r e).2) hj ho).trans hj
  have own : ∀ {A : World} {row : Option Nat}, (∀ r, row = some r → V.heap.size ≤ r ∧ ∃ o : Obj, A.heap[r]? = some o ∧ o.isWalk = true) → ∀ r, row = some r → w.heap.size ≤ r ∧ ∃ o : Obj, A.heap[r]? = some o ∧ o.isCells = false :=
    fun hr r e => by obtain ⟨hB, o, ho, hw⟩ := hr r e; exact ⟨by omega, o, ho, Obj.not_cells_of_walk hw⟩
  refine (hseq (w.heap.size + 1)
    (fun k W => I k W ∧ W.heap[w.heap.size + 1]? = some (.loop (rec .ready none)) ∧ W.heap[w.heap.size]? = some (.deferred (some [])))
    V vB (fun s A C row hs hg' hr => ⟨hI s A C row hs.1 hg' (own hr), keep hg' hr hs.2.1 rfl, keep hg' hr hs.2.2 rfl⟩) ?_ ⟨vI, rL, rD⟩).mono ?_
  · rintro pre x W ⟨hi, hl, hd⟩ hk
    have hy := run_yield (P := P) (args := #[enc x]) hl (by rw [hrec]; exact hps.symm)
    rw [hrec] at hy
    refine ⟨fn, _, assign, body, hy, roundIn_of_wpIn hfn (hassign _ pre x W _ hi (Nat.le_of_lt (Array.getElem?_eq_some_iff.1 hd).1) (fun b1 W1 hi1 hB1 hkf hkw => ?_))⟩
    have hl1 := hkf.same _ _ (by omega) hl rfl
    have hd1 := hkf.same _ _ (Nat.le_refl _) hd rfl
    refine ⟨_, run_beginRound hl1 (by rw [hrec]), ?_⟩
    obtain ⟨X, hX⟩ : ∃ X, X = W1.putObj (w.heap.size + 1) (.loop { rec .ready none with state := .busy }) := ⟨_, rfl⟩
    have xl : X.heap[w.heap.size + 1]? = some (.loop { rec .ready none with state := .busy }) := by rw [hX]; exact World.putObj_heap_same (Array.getElem?_eq_some_iff.1 hl1).1
    have xd : X.heap[w.heap.size]? = some (.deferred (some [])) := by rw [hX]; exact (World.putObj_heap_other (by omega)).trans hd1
    have xi : I pre X := by rw [hX]; exact hI.putObj _ hi1 (by omega) hl1 rfl
    have xb : B x b1 X := by rw [hX]; exact (hB b1).putObj _ hB1 (by omega) hl1 rfl
    have xk : KeepsWalks W X := hkw.trans (by rw [hX]; exact KeepsWalks.putObj _ hl1 rfl)
    rw [← hX]
    clear hX
    refine wpIn_mono (hbody _ pre x b1 X xi xb hk) ?_
    rintro e b Y hp
    cases e with
    | normal =>
      have yl := hp.1.same _ _ (by omega) xl rfl
      have := run_endRound (P := P) none yl
      rw [hrec] at this
      exact ⟨_, _, this, rfl, ⟨hI.putObj _ hp.2.2 (by omega) yl rfl, World.putObj_heap_same (Array.getElem?_eq_some_iff.1 yl).1 |>.trans (by rw [hrec]; rfl), (World.putObj_heap_other (by omega)).trans (hp.1.same _ _ (Nat.le_refl _) xd rfl)⟩, (xk.trans hp.2.1).trans (KeepsWalks.putObj _ yl rfl)⟩
    | ret => exact hp.elim
    | exit id => exact hp.elim
    | goto t => exact hp.elim
    | panic ch => exact hp.elim
    | outgrown => exact hp.elim
  · rintro e X ⟨⟨v, rfl⟩, xs, hS, hi, hl, hd⟩
    exact ⟨none, _, by have := run_endLoop (P := P) hl (by rw [hrec]; simp); rw [hrec] at this; exact this, hdone _ xs _ (Nat.le_refl _) hS (hI.putObj _ hi (by omega) hl rfl) ((World.putObj_heap_other (by omega)).trans hd)⟩
end Go.Proofs.YtemnebbdaljfbaaGreatDoor

namespace Go.Proofs.YtemnebbdaljfbaaGreatDoor
open Go.RowKit Go.ChangeMaps Go.WideShapes

section
variable {α : Type} [DecidableEq α] {E : KeyE α} {L : List (α × Value)} {left : Lit → Bool} {ss : List α}
/-- The keys met so far: no one twice; those that are no more to come. -/
structure Coll (E : KeyE α) (L : List (α × Value)) (left : Lit → Bool) (ss : List α) : Prop where
  nd : ss.Nodup
  mem : ∀ x, x ∈ ss ↔ (hasE x L = true ∧ left (E.lit x) = false)
theorem Coll.start (E : KeyE α) (L : List (α × Value)) : Coll E L (Maps.has (E.d L)) [] :=
  ⟨List.nodup_nil, fun x => by rw [has_dE]; cases hasE x L <;> simp⟩
theorem Coll.step (h : Coll E L left ss) {x : α} (hlk : left (E.lit x) = true) (hh : hasE x L = true) : Coll E L (fun z => left z && !z.sameKey (E.lit x)) (ss ++ [x]) := by
  have hnew : x ∉ ss := fun hx => by have := ((h.mem x).1 hx).2; rw [hlk] at this; cases this
  refine ⟨List.nodup_append.2 ⟨h.nd, by simp, fun a ha b hb => by simp at hb; subst hb; exact fun e => hnew (e ▸ ha)⟩, fun y => ?_⟩
  rw [List.mem_append, List.mem_singleton, h.mem y]
  by_cases hy : y = x
  · subst hy; simp [hh, E.same]
  · simp [hy, E.same]
theorem Coll.perm (h : Coll E L left ss) (hap : ApartE L) (hl : ∀ kl, left kl = false) : ss.Perm (L.map (·.1)) := by
  refine (List.perm_ext_iff_of_nodup h.nd ?_).2 (fun x => ?_)
  · exact List.pairwise_map.2 hap
  · rw [h.mem x, hl, hasE_iff]; simp
variable {P : Program} {K : TypeId} {w : World} {b : Nat}
/-- What comes out of a range over a map. -/
theorem MapK.key_of (h : MapK P K E w b L) (kd : Maps.Keyed P K) {enc : α → Value} (henc : ∀ x ∈ L, keyOf P K (enc x.1) = some (E.lit x.1)) {key : Value} {kl : Lit} {y : DataW Value} (hk : keyOf P K key = some kl) (hat : ∀ zd, (E.d L).atKey kl zd = y) : ∃ x, hasE x L = true ∧ kl = E.lit x ∧ key = enc x := by
  have hh : Maps.has (E.d L) kl = true := Maps.has_true_of_atKey hat
  have hh2 : (E.es L).any (fun p => p.1.sameKey kl) = true := hh
  rw [anyE, List.any_eq_true] at hh2
  obtain ⟨x, hx, he⟩ := hh2
  have e : E.lit x.1 = kl := WideAt.sameKey_eq he
  subst e
  exact ⟨x.1, hasE_iff.2 (List.mem_map_of_mem hx), rfl, kd.inj hk (henc x hx)⟩
end
theorem wpListIn_exec {F : Fence} {n : Nat} {P : Program} {ops : Array Oper} {rest : List Oper} {o : Oper} {a : Act} {w w' : World} {Q : Exit → Act → World → Prop} {v : Value} (hgd : o.guard = none) (hc : ∀ c, o.op ≠ .defer c) (hab : o.about P w a.eval = none)
    (hr : (execOp a.eval o).run P w = .ok (.value v) w') (h : wpListIn F n P ops Q rest (a.put o.dst v) w') : wpListIn F n P ops Q (o :: rest) a w := by
  refine wpListIn_plain hgd fun K hK => ?_
  unfold Oper.wpIn
  refine ⟨(fun f hf => by rw [hab] at hf; cases hf), ?_⟩
  rw [Oper.semAt_plain F _ _ hc, hr]
  exact hK _ _ h
theorem rowC_new (w : World) (o : Obj) (old cs : Array Value) (t : TypeId) (ho : o = .cells old t (0, 0)) : ((w.alloc o).setRow w.heap.size cs).heap[w.heap.size]? = some (.cells cs t (0, 0)) ∧ Below w.heap.size w ((w.alloc o).setRow w.heap.size cs) := by
  subst ho
  have hb : Below w.heap.size w (w.alloc (.cells old t)) := (Below.refl _ w).alloc (Nat.le_refl _) _
  exact ⟨setRow_heap _ _ old cs t (0, 0) (heap_alloc_new w _), hb.trans (((Mod.refl (fun _ => False) (w.alloc (.cells old t))).setRow (g := w.heap.size) cs).to_below hb.size (by rintro i hi (h | h) <;> first | exact h | omega))⟩
theorem wpListIn_gen {F : Fence} {n : Nat} {P : Program} {ops : Array Oper} {rest : List Oper} {a : Act} {w : World} {Q : Exit → Act → World → Prop} (R : World → Prop) (hR : R w) (h : ∀ w', R w' → wpListIn F n P ops Q rest a w') : wpListIn F n P ops Q rest a w := h w hR
/-- A whole variable is stored: inside a fence. -/
theorem wpListIn_store_row {F : Fence} {n : Nat} {P : Program} {ops : Array Oper} {rest : List Oper} {o : Oper} {a : Act} {w : World} {Q : Exit → Act → World → Prop} (hgd : o.guard = none) (hdst : o.dst = none) (ty : TypeId) (x y : Operand) (ho : o.op = .store ty x y)
    (g : Nat) (hx : a.eval x = .pointer (some ⟨g, 0, none⟩)) (t : TypeId) (old cs : Array Value) (hy : a.eval y = .agg cs) (hg : w.heap[g]? = some (.cells old t (0, 0))) (hsz : old.size = cs.size)
    (hi : (P.info? ty).map (·.size) = some cs.size) (h1 : ∀ v ∈ cs.toList, v.oneCell' = true)
    (h : wpListIn F n P ops Q rest a (w.setRow g cs)) : wpListIn F n P ops Q (o :: rest) a w := by
  have hst := run_storeCells_at P g 0 t cs.toList 0 old w hg (by simp; omega) h1
  have e : (old.toList.take (0 + 0) ++ cs.toList ++ old.toList.drop (0 + 0 + cs.toList.length)).toArray = cs := by
    have : old.toList.drop (0 + 0 + cs.toList.length) = [] := List.drop_eq_nil_of_le (by simp; omega)
    rw [this]; simp
  rw [e] at hst
  cases hq : P.info? ty with
  | none => simp [hq] at hi
  | some i =>
    have hs : i.size = cs.size := by simpa [hq] using hi
    have hv : (storeVar ty ⟨g, 0, none⟩ (.agg cs)).run P w = .ok () (w.setRow g cs) := by
      simp [storeVar, sizeOf, typeInfo, hq, hs, Value.cells, hst]
    refine wpListIn_plain hgd fun K hK => ?_
    unfold Oper.wpIn
    refine ⟨by simp [Oper.about, ho], ?_⟩
    rw [Oper.semAt_plain F _ _ (by rw [ho]; intro c hc; cases hc)]
    unfold execOp
    simp only [ho, hx, hy, Instr.storeAt, Instr.sureAddr, Sem.run_bind, Sem.run_pure, Result.andThen_ok, hv]
    exact hK _ _ (by rw [hdst]; exact h)
theorem build_elem {α : Type} {P : Program} {o : Oper} {a : Act} {w : World} (E : Enc α) (Ts T : TypeId) (z : Value) (by_ : Nat) (hT : P.underlying Ts = some (.slice T)) (hi : (P.info? T).map (fun i => (i.zero, i.size, i.bytes)) = some (some z, E.k, by_)) (hk : E.k ≤ 1000)
    (x : Operand) (ho : o.op = .buildSlice Ts 1 #[(0, x)]) (y : α) (v : Value) (hv : v.cells = (E.f y).toArray) (hx : a.eval x = v) :
    (execOp a.eval o).run P w = .ok (.value (.slice (some ⟨w.heap.size, 0, none⟩) 1 1)) (w.alloc (.cells (E.f y).toArray T)) := by
  cases hq : P.info? T with
  | none => rw [hq] at hi; cases hi
  | some i =>
    rw [hq] at hi
    simp only [Option.map_some, Option.some.injEq, Prod.mk.injEq] at hi
    obtain ⟨hz, h1, _⟩ := hi
    have hpos := E.pos
    have hf := Great.fill_whole (s := E.k) E.pos [v] ((Array.range (1 * E.k)).map (z.cells[· % z.cells.size]!)) (by intro u hu; rw [List.mem_singleton.1 hu, hv, List.size_toArray, E.len]) (by simp)
    have hb := run_buildSlice (P := P) w Ts T 1 #[(0, v)] (E.f y).toArray i z hT hq hz (by rw [h1]; omega) (by rw [h1]; omega) (by
      rw [h1]
      refine hf.trans ?_
      simp [hv])
    unfold execOp
    simp only [ho, List.map_toArray, List.map_cons, List.map_nil, hx, Sem.run_bind, hb, Result.andThen_ok, Sem.run_pure]
/-- Elements are appended: inside a fence. -/
theorem wpListIn_pushE {α : Type} {F : Fence} {nF : Nat} {P : Program} {ops : Array Oper} {rest : List Oper} {o : Oper} {a : Act} {Q : Exit → Act → World → Prop} {w : World} (E : Enc α) (hgd : o.guard = none) (s x : Operand) (Ts T : TypeId) (z : Value) (by_ : Nat)
    (ho : o.op = .call { callee := .builtin .append, args := #[s, x], argTypes := #[Ts, Ts] }) (hT : P.underlying Ts = some (.slice T)) (hi : (P.info? T).map (fun i => (i.zero, i.size, i.bytes)) = some (some z, E.k, by_)) (hzs : z.cells.size = E.k) (hby : by_ ≤ 1024)
    (p : Option Addr) (cap n : Nat) (L : List α) (hn : L.length = n) (hs : a.eval s = .slice p n cap) (hS : Rw E T w p cap L) (ao : Option Addr) (m cx : Nat) (Y : List α) (hm : Y.length = m) (h0 : 0 < m) (hx : a.eval x = .slice ao m cx) (hY : Rd E w ao Y) (hl : n + m ≤ 100000000000)
    (h : ∀ q c w', PushR E T w p (L ++ Y) q c w' → wpListIn F nF P ops Q rest (a.put o.dst (.slice q (n + m) c)) w') :
    wpListIn F nF P ops Q (o :: rest) a w := by
  cases hq : P.info? T with
  | none => rw [hq] at hi; cases hi
  | some i =>
    rw [hq] at hi
    simp only [Option.map_some, Option.some.injEq, Prod.mk.injEq] at hi
    obtain ⟨hz, h1, h2⟩ := hi
    subst hn
    subst hm
    have hmul : (L.length + Y.length) * by_ ≤ 140737488355328 := Nat.le_trans (Nat.mul_le_mul hl hby) (by decide)
    obtain ⟨bs, off, rfl, hbs, _⟩ := hY 0 h0
    refine wpListIn_plain hgd fun K hK => ?_
    obtain ⟨g, c, w', hr, hown, hgrow, hat, _⟩ := run_append_lies (P := P) w Ts o.type 0 T i z E.k by_ hT hq hz h1 h2 hzs E.pos _ L.length (E.all L) hS ⟨bs, off, none⟩ Y.length cx (E.all Y) (E.all_len Y) (by
      intro j u hj
      have hjl : j < Y.length * E.k := by
        have := (List.getElem?_eq_some_iff.1 hj).1
        rwa [E.all_len] at this
      have hd : j / E.k < Y.length := by rw [Nat.div_lt_iff_lt_mul E.pos]; exact hjl
      have hr : j % E.k < E.k := Nat.mod_lt _ E.pos
      have he : j / E.k * E.k + j % E.k = j := by rw [Nat.mul_comm]; exact Nat.div_add_mod j E.k
      obtain ⟨bs', off', e, _, c1⟩ := hY (j / E.k) hd
      cases e
      have hadd : (⟨bs, off, none⟩ : Addr).add j = ⟨bs, off + j, none⟩ := by unfold Addr.add; split <;> simp_all
      rw [← he, E.all_get Y _ _ hd hr] at hj
      have := c1 _ _ hj
      rw [Nat.add_assoc, he] at this
      rw [hadd, this]) (E.all_one _) h0 (by unfold maxLen; omega) hmul (Nat.zero_le _) _ rfl
    unfold Oper.wpIn
    refine ⟨by simp [Oper.about, ho, resolve, Target.leads, Sem.run_pure], ?_⟩
    rw [Oper.semAt_plain F _ _ (by rw [ho]; intro c hc'; cases hc')]
    simp [execOp, ho, resolve, invoke, builtin, hs, hx, hr, Result.andThen]
    refine hK _ _ (h (some ⟨g, 0, none⟩) c w' ⟨?_, ?_, ?_⟩)
    · unfold Rw; rw [List.length_append, E.all_app]; exact hown
    · refine (Mod.refl _ w).grown hgrow ?_
      intro j hj _
      cases p with
      | none => simp [Value.ownBlock] at hj
      | some a => simp [Value.ownBlock] at hj; exact ⟨a, rfl, hj.symm⟩
    · rintro a' e; cases e
      rcases hat with hat | hat
      · left
        rcases hS.shape with ⟨rfl, _⟩ | ⟨g', rfl, _⟩
        · simp [Value.ownBlock] at hat
        · simp [Value.ownBlock] at hat; subst hat; rfl
      · right; rw [hat]; exact Nat.le_refl _
end Go.Proofs.YtemnebbdaljfbaaGreatDoor

namespace Go.Proofs.YtemnebbdaljfbaaGreatDoor
open Go.RowKit Go.Shelf Go.Maps
attribute [local go_sem] Oper.semAt_some

theorem keysN_henc {w : World} {b : Nat} {L : List (Nm × Value)} (h : MapK Tryz.prog 70 keyN w b L) : ∀ x ∈ L, keyOf Tryz.prog 70 ((fun x : Nm => Value.agg (vals x.1).toArray) x.1) = some (keyN.lit x.1) := (fun x _ => keyN_of x.1)
set_option maxRecDepth 100000 in
set_option maxHeartbeats 2000000 in
/-- The iterator: each key once, in some order. -/
theorem mkeysN1_in (F : Fence) (n : Nat) (h10 : F.fn 113) (hro : F.round = none) (hn : 1 ≤ n) (l Bm b : Nat) (L : List (Nm × Value)) (J : List (Nm) → World → Prop)
    (hY : ∀ pre x W, J pre W → pre.length < L.length → YieldAt F (n - 1) Tryz.prog l #[(fun x : Nm => Value.agg (vals x.1).toArray) x] W fun e W' => e = .returned (.bool true) ∧ J (pre ++ [x]) W' ∧ KeepsWalks W W')
    (W : World) (hJ : AbidesFrom W.heap.size J) (hm : W.cell? ⟨Bm, 0, none⟩ = some (.map (some b))) (hown : MapK Tryz.prog 70 keyN W b L) (h0 : J [] W) :
    CallsIn F n Tryz.prog 113 #[.func (.yield l) #[] #[], .pointer (some ⟨Bm, 0, none⟩)] W fun e W' => (∃ v, e = .returned v) ∧ ∃ ss : List (Nm), ss.Perm (L.map (·.1)) ∧ J ss W' := by
  have HM := Lib.hid hown
  have HY := Lib.hid hY
  have HJ := Lib.hid hJ
  have H0 := Lib.hid h0
  have HOW := hown.own
  clear hown hY hJ h0
  refine callsIn_of_wp Tryz.func113 rfl h10 ?_ hro
  simp only [Tryz.ntmps113, List.size_toArray, List.length_cons, List.length_nil, Nat.reduceAdd, Nat.reduceSub, Array.replicate_succ, Array.replicate_zero, List.push_toArray, List.append_toArray, List.nil_append, List.cons_append]
  gi_wp2_with (first
    | (gi_at_range; refine wpListIn_range_own _ rfl _ 79 rfl 70 72 keyedN Tryz.underlying79 _ b L.length _ rfl HOW ?_; intro w0 hrg0 hg0 hs0)
    | gi_in)
  first | go_frame | skip
  gi_loopw [3] (fun _ wr => ∃ (left : Lit → Bool) (cnt : Nat) (ss : List (Nm)), wr.ranges Tryz.prog 70 RVE b W.heap.size L.length (keyN.d L) left cnt ∧ ss.length + cnt ≤ L.length ∧ Coll keyN L left ss ∧ J ss wr)
    (fun _ wr => wr.rangeLeft b W.heap.size)
  case atStart =>
    exact ⟨_, _, [], hrg0, by rw [size_dE]; simp, Coll.start keyN L, HJ.out [] W w0 none H0.out hg0 (fun r e => by cases e)⟩
  case round =>
    obtain ⟨left, cnt, ss, hrg, hcs, hC, hJs⟩ := hrel
    gi_wp2_with (first
      | (gi_at_next; refine wpListIn_next_ranges _ rfl _ rfl 70 keyedN RVE (fun v : Value => v) (fun v : Value => v) (fun key kl _ => ⟨key, rfl⟩) (fun v _ _ => ⟨v, rfl⟩) b W.heap.size L.length _ _ _ rfl hrg ?_ ?_)
      | gi_in)
    · -- nothing is left
      intro hc0 hl0
      gi_wp2
      go_end0
      exact ⟨⟨_, rfl⟩, ss, hC.perm HM.out.ap hl0, hJs⟩
    · -- an entry has come
      intro key c kl yd yp w2 cnt2 hkey hlk hv hv2 hat hrg2 hlt hg2 hs2 hen
      obtain ⟨x, hx, rfl, rfl⟩ := HM.out.key_of keyedN (enc := (fun x : Nm => Value.agg (vals x.1).toArray)) (keysN_henc HM.out) hkey hat
      have hJ2 : J ss w2 := HJ.out ss wr w2 (some W.heap.size) hJs hg2 (fun r e => by cases e; exact ⟨Nat.le_refl _, hrg.iter_walk⟩)
      clear hs2
      gi_wp2_with (first
        | (refine wpListIn_store_row rfl rfl 70 (.tmp 3) (.tmp 9) rfl w2.heap.size rfl 70 _ (vals x.1).toArray rfl (heap_alloc_new w2 _) (id_size x.2).symm (by rw [id_size x.2]; kernel_rfl) (fun v hv => by rw [List.toList_toArray] at hv; exact vals_one _ v hv) ?_
           refine wpListIn_gen (fun W3 => W3.heap[w2.heap.size]? = some (.cells (vals x.1).toArray 70 (0, 0)) ∧ Below w2.heap.size w2 W3) (rowC_new w2 _ _ (vals x.1).toArray 70 rfl) (fun W3 hW3 => ?_)
           obtain ⟨hr3, hb3⟩ := hW3
           have hg3 : w2.grownBy W3 none := ⟨hb3.os, hb3.tape, hb3.output, hb3.size, fun i hi _ => hb3.block i hi⟩
           have hJ3 : J ss W3 := HJ.out ss w2 W3 none hJ2 hg3 (fun r e => by cases e)
           have hrg2 := hrg2.kept hg3 (by simp) (by simp)
           obtain ⟨fn, tmps, assign, body, hy, hR⟩ := HY.out ss x W3 hJ3 (by omega)
           obtain ⟨g3, hg33⟩ : ∃ g3, g3 = w2.heap.size := ⟨_, rfl⟩
           rw [← hg33] at hr3
           rw [← hg33]
           clear hg33 hb3 hg3)
        | (refine wpListIn_exec rfl (fun c hc => by cases hc) (by simp [Oper.about]) (exec_load_row 70 (.tmp 3) rfl g3 rfl 70 _ (0, 0) _ hr3 Tryz.underlying70 rfl (by rw [id_size x.2]; kernel_rfl)) ?_; go_frame)
        | gi_in)
      refine hR.mono ?_
      rintro e W3 ⟨rfl, hJ3, hk3⟩
      gi_wp2
      have hrg3 := hrg2.of_walks hk3
      go_roundw
      case rel => exact ⟨_, cnt2, ss ++ [x], hrg3, by simp; omega, hC.step hlk hx, hJ3⟩
      case measure => rw [hrg3.left_eq, hrg.left_eq]; exact hlt
theorem mkeysN_gives (F : Fence) (n : Nat) (h10 : F.fn 113) (hro : F.round = none) (hn : 1 ≤ n) (Bm b : Nat) (L : List (Nm × Value)) (w : World) (hBm : Bm < w.heap.size) (hm : w.cell? ⟨Bm, 0, none⟩ = some (.map (some b))) (hown : MapK Tryz.prog 70 keyN w b L) :
    SeqGives F n Tryz.prog 113 #[.pointer (some ⟨Bm, 0, none⟩)] (fun x : Nm => Value.agg (vals x.1).toArray) (fun ss => ss.Perm (L.map (·.1))) L.length w := fun l J W hW hJ hY h0 =>
  mkeysN1_in F n h10 hro hn l Bm b L J hY W hJ ((hW.cell (p := ⟨Bm, 0, none⟩) hBm).trans hm) (hown.old hW) h0
/-- maps.Keys. -/
theorem mkeysN_any (mb : Option Nat) (w : World) :
    Calls Tryz.prog 78 #[.map mb] w fun e w' => e = .returned (.func (.func 113) #[] #[.pointer (some ⟨w.heap.size, 0, none⟩)]) ∧ w' = w.alloc (.cells #[.map mb] 79) := by
  have hmf : ∀ (fn : Fn) (first cap : Array Value) (w : World), (Instr.makeFunc fn first cap).run Tryz.prog w = .ok (.func fn first cap) w := fun _ _ _ _ => rfl
  go_enter Tryz.func78, Tryz.ntmps78
  go_wp2_with fail
  go_ret
  exact ⟨rfl, rfl⟩
section
variable (w : World)
/-- The memory of AppendSeq. -/
structure GatN (w : World) (ss : List (Nm)) (q : Option Addr) (cq : Nat) (W : World) : Prop where
  s : Rw encN 70 W q cq ss
  new : ∀ a, q = some a → w.heap.size + 1 ≤ a.block
  bx : W.heap[w.heap.size]? = some (.cells #[.slice q ss.length cq] 39 (0, 0))
  m : Below w.heap.size w W
  hB : w.heap.size + 1 ≤ W.heap.size
def GatNI (w : World) (ss : List (Nm)) (W : World) : Prop := ∃ q cq, GatN w ss q cq W
variable {w}
theorem GatN.step {ss : List (Nm)} {q : Option Addr} {cq : Nat} {W W' : World} {S : Nat → Prop} (h : GatN w ss q cq W) (hm : Mod S W W') (hS : ∀ i, S i → w.heap.size + 1 ≤ i) (hq : ∀ a, q = some a → ¬ S a.block) : GatN w ss q cq W' :=
  ⟨h.s.kept hm hq, h.new, (hm.block _ (by have := h.hB; omega) (fun hs => by have := hS _ hs; omega)).trans h.bx,
    h.m.trans (hm.to_below h.m.size (fun i hi hs => by have := hS _ hs; omega)), Nat.le_trans h.hB hm.size⟩
theorem GatNI.own : OwnFrom (w.heap.size + 1) (GatNI w) := by
  rintro k W W' row ⟨q, cq, h⟩ hg hr
  have hm : Mod (fun i => row = some i) W W' := (Mod.refl _ _).grown hg (fun k e _ => e)
  refine ⟨q, cq, h.step hm (fun i e => (hr i e).1) (fun a e hs => ?_)⟩
  subst e
  obtain ⟨o, ho, hc⟩ := (hr _ hs).2
  rcases h.s.shape with ⟨e, _⟩ | ⟨g, e, _, _, _, cur, hh, _⟩
  · cases e
  · cases e
    rw [show (⟨g, 0, none⟩ : Addr).block = g from rfl, hh] at ho
    cases ho; cases hc
theorem GatN.next {ss : List (Nm)} {x : Nm} {q : Option Addr} {cq : Nat} {W W1 W5 : World} (h : GatN w ss q cq W) (hb : Below W.heap.size W W1)
    {q2 : Option Addr} {cq2 : Nat} (hP : PushR encN 70 W1 q (ss ++ [x]) q2 cq2 W5) :
    KeepsFrom (w.heap.size + 1) W (W5.setCell ⟨w.heap.size, 0, none⟩ (.slice q2 (ss.length + 1) cq2)) ∧ KeepsWalks W (W5.setCell ⟨w.heap.size, 0, none⟩ (.slice q2 (ss.length + 1) cq2)) ∧ GatNI w (ss ++ [x]) (W5.setCell ⟨w.heap.size, 0, none⟩ (.slice q2 (ss.length + 1) cq2)) := by
  obtain ⟨hS, hm, hor⟩ := hP
  have hnew : ∀ a, q2 = some a → w.heap.size + 1 ≤ a.block := by
    intro a e
    rcases hor a e with e | e
    · exact h.new _ e
    · have := h.hB; have := hb.size; omega
  have hm0 : Mod (fun i => ∃ a, q = some a ∧ i = a.block) W W5 := ((Mod.of_below hb).mono (T := fun i => ∃ a, q = some a ∧ i = a.block) (fun i hi h => absurd hi (by omega))).trans hm (fun _ _ h => h)
  have hm2 : Mod (fun i => (∃ a, q = some a ∧ i = a.block) ∨ i = w.heap.size) W (W5.setCell ⟨w.heap.size, 0, none⟩ (.slice q2 (ss.length + 1) cq2)) :=
    Mod.setCell (S := fun i => (∃ a, q = some a ∧ i = a.block) ∨ i = w.heap.size) (p := ⟨w.heap.size, 0, none⟩) (hm0.mono (fun i _ hs => Or.inl hs)) (fun _ => Or.inr rfl) _
  have hBp : ∀ i, (∃ a, q = some a ∧ i = a.block) → w.heap.size + 1 ≤ i := by rintro i ⟨a, e, rfl⟩; exact h.new a e
  have hbx5 : W5.heap[w.heap.size]? = some (.cells #[.slice q ss.length cq] 39 (0, 0)) := (hm0.block _ (by have := h.hB; omega) (fun hs => by have := hBp _ hs; omega)).trans h.bx
  have hnc : ∀ j o, W.heap[j]? = some o → ((∃ a, q = some a ∧ j = a.block) ∨ j = w.heap.size) → ∃ cs T fr, o = .cells cs T fr := by
    rintro j o hk (⟨a, e, rfl⟩ | rfl)
    · subst e
      rcases h.s.shape with ⟨e, _⟩ | ⟨g', e, _, _, _, cur, hh, _⟩
      · cases e
      · cases e
        rw [show (⟨g', 0, none⟩ : Addr).block = g' from rfl, hh] at hk
        cases hk; exact ⟨_, _, _, rfl⟩
    · rw [h.bx] at hk; cases hk; exact ⟨_, _, _, rfl⟩
  refine ⟨⟨hm2.size, fun j o hj hk hc => ?_⟩, ⟨hm2.size, fun j o hk hc => ?_⟩, q2, cq2, ⟨?_, hnew, ?_, ?_, Nat.le_trans h.hB hm2.size⟩⟩
  · refine (hm2.block j (Array.getElem?_eq_some_iff.1 hk).1 (fun hs => ?_)).trans hk
    obtain ⟨cs, T, fr, rfl⟩ := hnc j o hk hs
    cases hc
  · refine (hm2.block j (Array.getElem?_eq_some_iff.1 hk).1 (fun hs => ?_)).trans hk
    obtain ⟨cs, T, fr, rfl⟩ := hnc j o hk hs
    cases hc
  · refine hS.kept (S := fun i => i = w.heap.size) ((Mod.refl (fun i => i = w.heap.size) W5).setCell (fun _ => rfl) _) (fun a e hs => by have := hnew a e; omega)
  · rw [heap_setCell_same W5 w.heap.size 0 _ 39 (.slice q2 (ss.length + 1) cq2) hbx5, List.length_append]; rfl
  · exact h.m.trans (hm2.to_below h.m.size (by rintro i hi (hs | hs)
                                               · have := hBp _ hs; omega
                                               · omega))
end
set_option maxRecDepth 100000 in
set_option maxHeartbeats 8000000 in
/-- slices.AppendSeq against whatever iterator. -/
theorem appseqN_any (w : World) (gf : Nat) (lb : Array Value) (eg : ∀ args w, (callFunc gf args).run Tryz.prog w = .ok (.enter gf args) w) (S : List (Nm) → Prop) (N : Nat) (hN : N ≤ 1000000) (hseq : SeqGives Fence.wide (3 - 1) Tryz.prog gf lb (fun x : Nm => Value.agg (vals x.1).toArray) S N w) :
    Calls Tryz.prog 136 #[.slice none 0 0, .func (.func gf) #[] lb] w fun e w' => ∃ q cq ss, e = .returned (.slice q ss.length cq) ∧ S ss ∧ Rw encN 70 w' q cq ss ∧ (∀ a, q = some a → w.heap.size ≤ a.block) ∧ Below w.heap.size w w' := by
  obtain ⟨W0, hW0⟩ : ∃ W0, W0 = w.alloc (.cells #[.slice none 0 0] 39) := ⟨_, rfl⟩
  have hs0 : W0.heap.size = w.heap.size + 1 := by rw [hW0]; simp
  have hB0 : Below w.heap.size w W0 := by rw [hW0]; exact (Below.refl _ _).alloc (Nat.le_refl _) _
  have h0 : GatNI w [] W0 := ⟨none, 0, Rw.empty _ _, (fun a e => by cases e), by rw [hW0]; exact heap_alloc_new _ _, hB0, by omega⟩
  obtain ⟨vs, hvs⟩ : ∃ vs : Value, vs = .func (.func gf) #[] lb := ⟨_, rfl⟩
  refine (callsIn_wide (n := 3)).1 ?_
  refine callsIn_of_wp_marks Tryz.func136 rfl trivial ?_ rfl
  simp only [Tryz.ntmps136, List.size_toArray, List.length_cons, List.length_nil, Nat.reduceAdd, Nat.reduceSub, Array.replicate_succ, Array.replicate_zero, List.push_toArray, List.append_toArray, List.nil_append, List.cons_append]
  gi_wp2_with fail
  rw [← hW0]
  clear hW0
  have hI : OwnFrom W0.heap.size (GatNI w) := by rw [hs0]; exact GatNI.own
  refine wpIn_gives (F := Fence.wide) rfl (by decide) (gf := gf) (lb := lb) rfl trivial eg hseq hB0 rfl (GatNI w) hI h0 (fun x a W => ∃ g, a = { tmps := #[.slice none 0 0, .func (.func gf) #[] lb, .pointer (some ⟨w.heap.size, 0, none⟩), undef, .slice none 0 0, .pointer (some ⟨g, 0, none⟩), .func (.func gf) #[] lb, Value.agg (vals x.1).toArray, undef, undef, undef, undef, undef], defers := [] } ∧ W.heap[g]? = some (.cells (vals x.1).toArray 70 (0, 0))) ?hB ?assign ?body ?done
  case hB =>
    rintro a x W W' row ⟨g, e, hr⟩ hg hrow
    refine ⟨g, e, (hg.block g (Array.getElem?_eq_some_iff.1 hr).1 ?_).trans hr⟩
    intro e2
    obtain ⟨_, o, ho, hc⟩ := hrow g e2.symm
    rw [hr] at ho; cases ho; cases hc
  case assign =>
    rintro l pre x W K ⟨q, cq, h⟩ hsz hK
    have HI := Lib.hid h
    have HK := Lib.hid hK
    obtain ⟨y, hy⟩ : ∃ y : Value, y = .func (.func gf) #[] lb := ⟨_, rfl⟩
    rw [← hy]
    rw [← hy] at HK
    clear h hK hI h0 hy hvs
    gi_wp2_with (refine wpListIn_store_row rfl rfl 70 (.tmp 5) (.tmp 7) rfl W.heap.size rfl 70 _ (vals x.1).toArray rfl (heap_alloc_new W _) (id_size x.2).symm (by rw [id_size x.2]; kernel_rfl) (fun v hv => by rw [List.toList_toArray] at hv; exact vals_one _ v hv) ?_; refine wpListIn_gen (fun W3 => W3.heap[W.heap.size]? = some (.cells (vals x.1).toArray 70 (0, 0)) ∧ Below W.heap.size W W3) (rowC_new W _ _ (vals x.1).toArray 70 rfl) (fun W3 hn => ?_); have HN := Lib.hid hn; clear hn)
    have hn := HN.out
    refine HK.out _ _ ⟨q, cq, ?_⟩ ⟨W.heap.size, rfl, hn.1⟩ ?_ ?_
    · exact HI.out.step (Mod.of_below hn.2) (fun i hi => by have := HI.out.hB; omega) (fun a e hs => by subst e; have := HI.out.s.lt; omega)
    · exact ⟨hn.2.size, fun k o _ hk _ => (hn.2.block k (Array.getElem?_eq_some_iff.1 hk).1).trans hk⟩
    · exact ⟨hn.2.size, fun k o hk _ => (hn.2.block k (Array.getElem?_eq_some_iff.1 hk).1).trans hk⟩
  case body =>
    rintro l pre x b W ⟨q, cq, h⟩ ⟨g5, rfl, hr5⟩ hk
    have c1 : W.cell? ⟨w.heap.size, 0, none⟩ = some (.slice q pre.length cq) := by unfold World.cell?; rw [h.bx]; rfl
    have hb1 : Below W.heap.size W (W.alloc (.cells (encN.f x).toArray 70)) := (Below.refl _ _).alloc (Nat.le_refl _) _
    have Hend : Hid (∀ q2 cq2 W5, PushR encN 70 (W.alloc (.cells (encN.f x).toArray 70)) q (pre ++ [x]) q2 cq2 W5 → roundGo (w.heap.size + 1) (GatNI w) pre x W .normal { tmps := #[], defers := [] } (W5.setCell ⟨w.heap.size, 0, none⟩ (.slice q2 (pre.length + 1) cq2))) := Lib.hid (by
      intro q2 cq2 W5 hP
      exact h.next hb1 hP)
    have HS1 := Lib.hid (h.s.old hb1)
    have HY : Hid (Rd encN (W.alloc (.cells (encN.f x).toArray 70)) (some ⟨W.heap.size, 0, none⟩) [x]) := Lib.hid (by have := Rd.made encN W 70 [x] (by simp [maxLen]); rw [show encN.all [x] = encN.f x by simp [Enc.all]] at this; exact this)
    have hk9 : pre.length ≤ 1000000 := by omega
    have HBX : Hid (∀ q2 cq2 W5, PushR encN 70 (W.alloc (.cells (encN.f x).toArray 70)) q (pre ++ [x]) q2 cq2 W5 → W5.heap[w.heap.size]? = some (.cells #[.slice q pre.length cq] 39 (0, 0))) := Lib.hid (by
      intro q2 cq2 W5 hP
      have h1 := (hb1.block w.heap.size (by have := h.hB; omega)).trans h.bx
      refine (hP.2.1.block w.heap.size (by have := h.hB; have := hb1.size; omega) ?_).trans h1
      rintro ⟨a, e, h2⟩
      have := h.new a e; omega)
    obtain ⟨m, hm⟩ : ∃ m, m = pre.length := ⟨_, rfl⟩
    have HM : Hid (pre.length = m) := Lib.hid hm.symm
    obtain ⟨XC, hXC⟩ : ∃ XC : Array Value, XC = (encN.f x).toArray := ⟨_, rfl⟩
    obtain ⟨y, hy⟩ : ∃ y : Value, y = Value.agg (vals x.1).toArray := ⟨_, rfl⟩
    have HYC : Hid (y.cells = (encN.f x).toArray) := Lib.hid (by rw [hy]; rfl)
    have HXC := Lib.hid hXC
    have HYV := Lib.hid hy
    have HBD : Hid (∀ (o : Oper) (a : Act) (xx : Operand), o.op = .buildSlice 39 1 #[(0, xx)] → a.eval xx = y → (execOp a.eval o).run Tryz.prog W = .ok (.value (.slice (some ⟨W.heap.size, 0, none⟩) 1 1)) (W.alloc (.cells XC 70))) := Lib.hid (fun o a xx ho hx => by have hb := build_elem (P := Tryz.prog) (w := W) encN 39 70 (.agg (vals zid).toArray) 32 Tryz.underlying39 info_id (by decide) xx ho x y HYC.out hx; rw [← HXC.out] at hb; exact hb)
    rw [← hm, ← hXC] at Hend HBX
    rw [← hXC] at HS1 HY
    rw [hs0]
    rw [← hy]
    rw [← hvs]
    rw [← hm] at hk9 c1
    have hE : ∀ (q2 : Option Addr) (cq2 : Nat) (W5 : World) (a : Act), PushR encN 70 (W.alloc (.cells XC 70)) q (pre ++ [x]) q2 cq2 W5 → roundGo (w.heap.size + 1) (GatNI w) pre x W .normal a (W5.setCell ⟨w.heap.size, 0, none⟩ (.slice q2 (m + 1) cq2)) := fun q2 cq2 W5 a hP => Hend.out q2 cq2 W5 hP
    have HE := Lib.hid hE
    clear hb1 h hk hI h0 hy hm hXC hE Hend
    gi_wp2_with (first
      | (refine wpListIn_exec rfl (fun c hc => by cases hc) (by simp [Oper.about]) (exec_load_row 70 (.tmp 5) rfl g5 rfl 70 _ (0, 0) _ hr5 Tryz.underlying70 rfl (by rw [id_size x.2]; kernel_rfl)) ?_; rw [← HYV.out]; go_frame)
      | (refine wpListIn_exec rfl (fun c hc => by cases hc) (by simp [Oper.about]) (HBD.out _ _ (.tmp 9) rfl rfl) ?_; go_frame)
      | (gi_at_builtin; (refine wpListIn_pushE encN rfl _ _ 39 70 (.agg (vals zid).toArray) 32 rfl Tryz.underlying39 info_id (id_size (s := zid) rfl) (by decide) q cq m pre HM.out rfl HS1.out (some ⟨W.heap.size, 0, none⟩) 1 1 [x] rfl (by decide) rfl HY.out (by omega) ?_; intro q2 cq2 W5 hP; have b5 := HBX.out q2 cq2 W5 hP; have c5 : W5.cell? ⟨w.heap.size, 0, none⟩ = some (.slice q m cq) := (by unfold World.cell?; rw [b5]; rfl); have f5 := frozen_of_row W5 w.heap.size 0 _ 39 b5; have HP := Lib.hid hP; clear hP b5)))
    exact HE.out _ _ _ _ HP.out
  case done =>
    rintro D xs W hD hS ⟨q, cq, h⟩ hK
    have c1 : W.cell? ⟨w.heap.size, 0, none⟩ = some (.slice q xs.length cq) := by unfold World.cell?; rw [h.bx]; rfl
    have HH := Lib.hid h
    have HSS := Lib.hid hS
    have HSE := Lib.hid hseq
    rw [← hvs]
    clear h h0 hI hS hseq
    gi_wp2
    refine ⟨by simp, .inl ⟨_, _, rfl, run_takeDeferred hK, ?_⟩⟩
    have hmD : Mod (fun i => W0.heap.size ≤ i) W (W.putObj D (.deferred none)) := (Mod.refl _ _).grown (grownBy_putObj' _ D _) (fun k e _ => by cases e; exact hD)
    refine ⟨_, results_tmp rfl _ _ _, q, cq, xs, rfl, HSS.out, ?_, fun a e => ?_, ?_⟩
    · refine HH.out.s.kept (S := fun i => i = D) ((Mod.refl _ _).grown (grownBy_putObj' _ D _) (fun k e _ => by cases e; rfl)) (fun a e h2 => ?_)
      rcases HH.out.s.shape with ⟨e', _⟩ | ⟨g', e', _, _, _, cur, hh, _⟩
      · rw [e] at e'; cases e'
      · rw [e] at e'; cases e'
        rw [show (⟨g', 0, none⟩ : Addr).block = g' from rfl] at h2
        subst h2
        rw [hK] at hh; cases hh
    · have := HH.out.new a e; omega
    · exact HH.out.m.trans (hmD.to_below HH.out.m.size (fun i hi h2 => by omega))
theorem collectN_any (w : World) (gf : Nat) (lb : Array Value) (eg : ∀ args w, (callFunc gf args).run Tryz.prog w = .ok (.enter gf args) w) (S : List (Nm) → Prop) (N : Nat) (hN : N ≤ 1000000) (hseq : SeqGives Fence.wide (3 - 1) Tryz.prog gf lb (fun x : Nm => Value.agg (vals x.1).toArray) S N w) :
    Calls Tryz.prog 112 #[.func (.func gf) #[] lb] w fun e w' => ∃ q cq ss, e = .returned (.slice q ss.length cq) ∧ S ss ∧ Rw encN 70 w' q cq ss ∧ (∀ a, q = some a → w.heap.size ≤ a.block) ∧ Below w.heap.size w w' := by
  have H := Lib.hid (appseqN_any w gf lb eg S N hN hseq)
  clear hseq
  go_enter Tryz.func112, Tryz.ntmps112
  go_wp2_with fail
  refine H.out.mono ?_
  rintro e w1 ⟨q, cq, ss, rfl, hr⟩
  have HR := Lib.hid hr
  clear hr H
  go_wp2_with fail
  go_ret
  exact ⟨q, cq, ss, rfl, HR.out⟩
end Go.Proofs.YtemnebbdaljfbaaGreatDoor

namespace Go.Proofs.YtemnebbdaljfbaaGreatDoor
open Go.RowKit Go.Sort

theorem ksort_lt {L : List Nm} (h : L.Nodup) : (ksort L).Pairwise lN := by
  have h2 : (ksort L).Nodup := (List.mergeSort_perm L _).nodup_iff.2 h
  refine (List.Pairwise.and (ksort_pair L) h2).imp ?_
  rintro x y ⟨h1, h3⟩
  cases hxy : ltOf cfN x y with
  | true => exact hxy
  | false =>
    cases hyx : ltOf cfN y x with
    | true => exact absurd hyx h1
    | false => exact absurd (cfN_total x y hxy hyx) h3
theorem ksort_perm {A B : List Nm} (h : A.Perm B) (hB : B.Nodup) : ksort A = ksort B :=
  strict_uniq _ _ (ksort_lt (h.nodup_iff.2 hB)) (ksort_lt hB) (fun x => by rw [ksort_mem, ksort_mem, h.mem_iff])
set_option maxRecDepth 20000 in
set_option maxHeartbeats 4000000 in
theorem sortedfuncN_any (w : World) (Bm b : Nat) (L : List (Nm × Value)) (hm : w.cell? ⟨Bm, 0, none⟩ = some (.map (some b))) (hBm : Bm < w.heap.size) (hown : MapK Tryz.prog 70 keyN w b L) (hn : L.length ≤ 1000000) :
    Calls Tryz.prog 77 #[.func (.func 113) #[] #[.pointer (some ⟨Bm, 0, none⟩)], .func (.func 66) #[] #[]] w fun e w' => ∃ q cq, e = .returned (.slice q L.length cq) ∧ Rw encN 70 w' q cq (ksort (L.map (·.1))) ∧ (∀ a, q = some a → w.heap.size ≤ a.block) ∧ Below w.heap.size w w' := by
  have HC := Lib.hid (collectN_any w 113 #[.pointer (some ⟨Bm, 0, none⟩)] (enters_of Tryz.func113 (by kernel_rfl) rfl) _ L.length hn (mkeysN_gives Fence.wide (3 - 1) trivial rfl (by decide) Bm b L w hBm hm hown))
  have HND : Hid ((L.map (·.1)).Nodup) := Lib.hid (List.pairwise_map.2 hown.ap)
  have HN := Lib.hid hn
  clear hm hBm hown hn
  go_enter Tryz.func77, Tryz.ntmps77
  go_wp2_with fail
  refine HC.out.mono ?_
  rintro e w1 ⟨q, cq, ss, rfl, hS, hrw, hnew, hb⟩
  have hlen : ss.length = L.length := by have := hS.length_eq; simpa using this
  have HK : Hid (ksort ss = ksort (L.map (·.1))) := Lib.hid (ksort_perm hS HND.out)
  have HSO := Lib.hid (dgsort_any q cq ss w1 hrw (by rw [hlen]; exact HN.out))
  rw [hlen, HK.out] at HSO
  rw [hlen]
  have HNEW := Lib.hid hnew
  have HB := Lib.hid hb
  obtain ⟨n, hn⟩ : ∃ n, n = L.length := ⟨_, rfl⟩
  rw [← hn] at HSO ⊢
  have HNL := Lib.hid hn
  clear hS hrw hnew hb hlen HC HK hn
  go_wp2_with fail
  refine HSO.out.mono ?_
  rintro r w2 ⟨rfl, hrw2, hm2⟩
  have HR := Lib.hid hrw2
  have HM := Lib.hid (HB.out.trans (hm2.to_below HB.out.size (by rintro i hi ⟨a, e, rfl⟩; have := HNEW.out a e; omega)))
  clear hrw2 hm2 HSO
  go_wp2_with fail
  go_ret
  exact ⟨q, cq, by rw [← HNL.out]; rfl, HR.out, HNEW.out, HM.out⟩
section
variable {S R : Nat → Prop} {w : World} {da : Nat} {X : DD}
theorem kE_ids (K : List Blk) : (kE K).map (·.1) = K.map (·.id) := by unfold kE; rw [List.map_map]; rfl
set_option maxRecDepth 20000 in
set_option maxHeartbeats 4000000 in
theorem dgblocks_any (h : DG S R w da X) : Calls Tryz.prog 35 #[.pointer (some ⟨da, 0, none⟩)] w fun r w' => ∃ q c, r = .returned (.slice q X.K.length c) ∧ Rw encN 70 w' q c (ksort (X.K.map (·.id))) ∧ (∀ a, q = some a → w.heap.size ≤ a.block) ∧ Below w.heap.size w w' := by
  have cc : w.cell? ⟨da, 0, none⟩ = some (.map (some X.m1)) := cell_of_row _ da 0 _ _ _ h.box
  have HMK := Lib.hid (mkeysN_any (some X.m1) w)
  obtain ⟨w1, hw1⟩ : ∃ w1, w1 = w.alloc (.cells #[.map (some X.m1)] 79) := ⟨_, rfl⟩
  have hb1 : Below w.heap.size w w1 := by rw [hw1]; exact alloc1 _ _
  have HB1 := Lib.hid hb1
  have HSF := Lib.hid (sortedfuncN_any w1 w.heap.size X.m1 (kE X.K) (by rw [hw1]; unfold World.cell?; rw [heap_alloc_new]; rfl) (by rw [hw1]; simp) (h.bm.old hb1) (by rw [kE_len]; exact Nat.le_trans h.len (by decide)))
  rw [kE_len, kE_ids] at HSF
  obtain ⟨k, hk⟩ : ∃ k, k = X.K.length := ⟨_, rfl⟩
  rw [← hk] at HSF ⊢
  have hmf : ∀ (fn : Fn) (first cap : Array Value) (w : World), (Instr.makeFunc fn first cap).run Tryz.prog w = .ok (.func fn first cap) w := fun _ _ _ _ => rfl
  rw [← hw1] at HMK
  clear h hk hb1 hw1
  go_enter Tryz.func35, Tryz.ntmps35
  go_wp2_with fail
  refine HMK.out.mono ?_
  rintro r w2 ⟨rfl, rfl⟩
  go_wp2_with fail
  refine HSF.out.mono ?_
  rintro r w3 ⟨q, c, rfl, hrw, hnew, hb⟩
  have HR := Lib.hid hrw
  have HN : Hid (∀ a, q = some a → w.heap.size ≤ a.block) := Lib.hid (fun a e => Nat.le_trans HB1.out.size (hnew a e))
  have HB := Lib.hid (HB1.out.trans (hb.mono HB1.out.size))
  clear hrw hnew hb HSF HMK
  go_wp2_with fail
  go_ret
  exact ⟨q, c, rfl, HR.out, HN.out, HB.out⟩
end
end Go.Proofs.YtemnebbdaljfbaaGreatDoor
