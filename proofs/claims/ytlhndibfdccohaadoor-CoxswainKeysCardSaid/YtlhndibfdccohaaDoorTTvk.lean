/- What the keys' law needs, purely. (PARTS) -/
import Derived.Test.YtlhndibfdccohaaDoorTTvj
import Derived.Test.YtlhndibfdccohaaDoorTH42
namespace Go.Proofs.YtlhndibfdccohaaDoor
open Go.RowKit Go.Sort

theorem isort_strict {X : List BI} (hX : (X.map (·.1)).Nodup) : ((isort X).map (·.1)).Pairwise lN := by
  have h1 := isort_pair X
  have h2 : ((isort X).map (·.1)).Nodup := ((List.mergeSort_perm X _).map (·.1)).nodup_iff.2 hX
  rw [List.pairwise_map]
  rw [List.nodup_iff_pairwise_ne, List.pairwise_map] at h2
  refine (h1.and h2).imp (fun {a b} h => lN_of (fun q => ?_) h.2)
  have := h.1
  unfold leI at this
  unfold lN at q
  rw [q] at this; cases this
structure NewK (X Z : List BI) : Prop where
  strict : (Z.map (·.1)).Pairwise lN
  ne : Z ≠ []
  le : Z.length ≤ 5
  len : Z.length = X.length
  mem : ∀ x, x ∈ Z ↔ x ∈ X
  fam : ∀ x ∈ Z, ∀ y ∈ Z, famI x = famI y
theorem NewK.of {X : List BI} (h : newE X = 0) : NewK X (isort X) := by
  obtain ⟨h1, h2, h3, h4⟩ := newE_ok h
  have hl := isort_len X
  refine ⟨isort_strict (diffI_ids h4), fun e => ?_, by omega, hl, fun x => isort_mem, fun x hx y hy => (oneI_iff X).1 h3 x (isort_mem.1 hx) y (isort_mem.1 hy)⟩
  rw [e] at hl
  exact h2 (List.eq_nil_of_length_eq_zero hl.symm)
theorem NewK.key {X Z : List BI} (h : NewK X Z) : keyX Z = kB (Z.map (·.1)) ∧ nmsOk (keyX Z) = true ∧ pcs (keyX Z) = Z.map (·.1) ∧ (keyX Z).length ≤ 160 := by
  have e : keyX Z = kB (Z.map (·.1)) := by unfold keyX; rw [kset_self h.strict]
  have hz : 1 ≤ Z.length := List.length_pos_iff.2 h.ne
  refine ⟨e, ?_, ?_, ?_⟩
  · rw [e, nmsOk_of _ h.strict, List.length_map]; exact decide_eq_true ⟨hz, h.le⟩
  · rw [e, pcs_of]
  · rw [e, kB_len, List.length_map]; have := h.le; omega
theorem GoodR.hrs {h : Hd (List UInt8)} (g : GoodR h) : hrs (ownH h) = true := by
  refine (rs_pair (ownH h).ps).2 ?_
  show (h.ps.map nmOf).Pairwise lN
  rw [List.pairwise_map]
  refine (List.Pairwise.imp_of_mem (S := fun s t => lN (nmOf s) (nmOf t)) ?_ g.up)
  intro s t hs ht q
  unfold lN
  rw [cfN_lt, decide_eq_true_eq]
  show Lib.compareBytes (idL s) (idL t) < 0
  rw [idL_self _ (g.nm s hs), idL_self _ (g.nm t ht)]
  exact q
theorem parse_good {x : RH} (g : GoodR x.h) (w : World) : Calls Tryd.prog 20 #[.string ⟨(hbytes (·.1) (ownH x.h)).toArray⟩] w (HPost (ownH x.h) 0 w) := by
  obtain ⟨h1, h2⟩ := hpar_back (ownH x.h) g.hok g.hrs
  have hl := hbytes_len (ownH x.h) g.hk
  have := hparse_any (hbytes (·.1) (ownH x.h)) w (by omega)
  rw [h1, h2, if_pos rfl] at this
  exact this
end Go.Proofs.YtlhndibfdccohaaDoor
