/- Texts 14: what the laws lean on. -/
import Derived.Test.YtemnebbdaljfbaaGreatDoorZ13
import Derived.RangeFuncNested
import Derived.RangeFuncBox
import Derived.RangeFuncLeaves
import Derived.RangeFuncGives
import Derived.WalkKit
import Derived.OwnWalkIn
import Derived.Test.YtemnebbdaljfbaaGreatDoorZ5
import Derived.Sort.MapsRangeIn
import Derived.Sort.KeysCollected
import Derived.Test.YtemnebbdaljfbaaGreatDoorZ1
import Derived.Deep.AppendLies
import Derived.Great.BuildSlice
import Derived.Great.FillDense
import Derived.LoopNIn
import Derived.LoopIn
import Derived.TacticsInMore
import Derived.RegionIn
import Derived.Test.YtemnebbdaljfbaaGreatDoorZ3
import Derived.Test.YtemnebbdaljfbaaGreatDoorZ7
import Derived.Test.YtemnebbdaljfbaaGreatDoorZ6
import Derived.Test.YtemnebbdaljfbaaGreatDoorSortT
set_option linter.unusedVariables false
set_option linter.unusedSimpArgs false
namespace Go.Proofs.YtemnebbdaljfbaaGreatDoor
open Go.RowKit

/-- The tipset of one name that is there. -/
theorem tip_one {K : List Blk} {n : Nm} {Y : List BI} {e : Int} (h : TipP K (kB (kset [n])) Y e) (hn : hasE n (kE K) = true) : ∃ b ∈ K, b.id = n ∧ e = 0 ∧ Y = [b.is] := by
  have hp : ([n] : List Nm).Pairwise lN := List.pairwise_singleton _ _
  rw [kset_self hp] at h
  have hok : nmsOk (kB [n]) = true := by rw [nmsOk_of _ hp]; exact decide_eq_true ⟨by simp, by simp⟩
  unfold TipP at h
  rw [hok, pcs_of] at h
  rcases h with ⟨h1, _⟩ | ⟨_, ⟨m, hm, h2⟩, _⟩ | ⟨_, L, hL, hK, h3, h4⟩
  · cases h1
  · rw [List.mem_singleton.1 hm, hn] at h2; cases h2
  · match L, hL with
    | [b], hL =>
      have hb : b.id = n := by simpa using hL
      have he : newE ([b].map Blk.is) = 0 := by
        unfold newE
        rw [if_neg (by simp), if_neg (by simp), if_pos (by simp [oneI, diffI])]
      refine ⟨b, hK b (by simp), hb, h3.trans he, ?_⟩
      rw [h4]
      unfold newX
      rw [if_pos he]
      simp [isort]
theorem gen_mem {K : List Blk} (h : K.map Blk.is = genX) : ∃ b, K = [b] ∧ b.id = nmH ghd ∧ b.h = ghd := by
  have hl : K.length = 1 := by have := congrArg List.length h; simpa [genX] using this
  obtain ⟨b, rfl⟩ := List.length_eq_one_iff.1 hl
  have h2 : b.is = (nmH ghd, ghd) := by simpa [genX] using h
  exact ⟨b, rfl, congrArg (·.1) h2, congrArg (·.2) h2⟩
theorem one_first {K : List Blk} {e : Int} (h : K.map Blk.is = genX) (hc : ChkP K oneHd e) : e = 0 := by
  obtain ⟨b, rfl, hb, hh⟩ := gen_mem h
  have hch : chkH oneHd = 0 := oneHd_chk
  rcases hc with ⟨h1, _⟩ | ⟨_, h1, _⟩ | ⟨_, _, Y, e1, hT, h2⟩
  · exact absurd hch h1
  · obtain ⟨b', hb', e'⟩ := (kE_has _ _).1 h1
    rw [List.mem_singleton.1 hb', hb] at e'
    exact absurd e'.symm one_ne
  · have hps : oneHd.ps = [nmH ghd] := rfl
    rw [hps] at hT
    obtain ⟨b', hb', _, h3, h4⟩ := tip_one hT ((kE_has _ _).2 ⟨b, by simp, hb⟩)
    rw [List.mem_singleton.1 hb'] at h4
    have ht : htX Y = 0 := by rw [h4]; show b.h.ht = 0; rw [hh]; rfl
    have ho : oneHd.ht = 1 := rfl
    rcases h2 with ⟨h5, _⟩ | ⟨_, h5, _⟩ | ⟨_, h5, _⟩ | ⟨_, _, h5⟩
    · omega
    · exact absurd h3 h5
    · omega
    · exact h5
theorem one_again {K : List Blk} {e : Int} (h : hasE (nmH oneHd) (kE K) = true) (hc : ChkP K oneHd e) : e = 9 := by
  have hch : chkH oneHd = 0 := oneHd_chk
  rcases hc with ⟨h1, _⟩ | ⟨_, _, h1⟩ | ⟨_, h1, _⟩
  · exact absurd hch h1
  · exact h1
  · rw [h] at h1; cases h1
set_option maxRecDepth 20000 in
set_option maxHeartbeats 4000000 in
theorem awake13_any (w : World) (hT : TabAt w) : Calls Tryz.prog 7 #[] w fun r w' => r = .returned (.bool true) ∧ Below w.heap.size w w' := by
  have HT := Lib.hid hT
  have HNEW := Lib.hid (dgnew_any w hT)
  have HROOT := Lib.hid root_any
  have HRN : Hid ((⟨rootB, rootB_len⟩ : Nm) = nmH ghd) := Lib.hid rfl
  have Hcl : Hid (∀ q, hcells oneHd q 1 = #[.int .i64 1, .int .i64 0, .string ⟨#[116]⟩, .int .i64 1, .int .u64 2, .slice q 1 1, .int .i64 0]) := Lib.hid (fun q => rfl)
  have Hrd : Hid (∀ u : World, Rd encN (u.alloc (.cells (vals rootB).toArray 70)) (some ⟨u.heap.size, 0, none⟩) oneHd.ps) := Lib.hid (fun u => by
    have := Rd.made encN u 70 [⟨rootB, rootB_len⟩] (by simp [maxLen])
    rw [enc_one] at this; exact this)
  have HRL := Lib.hid rootB_len
  clear hT
  go_enter Tryz.func7, Tryz.ntmps7
  go_wp2_with fail
  refine HNEW.out.mono ?_
  rintro r w1 ⟨da, rfl, S, R, X, hdg, hgen, hR, hb1⟩
  have HDG := Lib.hid hdg
  have HGEN := Lib.hid hgen
  have HB1 := Lib.hid hb1
  have HLEN := Lib.hid (dglen_any hdg)
  obtain ⟨b, hX, hbi, _⟩ := gen_mem hgen
  have hl1 : X.K.length = 1 := by rw [hX]; rfl
  rw [hl1] at HLEN
  have HHAS := Lib.hid (fun (w' : World) (hb : Below w1.heap.size w1 w') => dghas_any (hdg.old hb) ⟨rootB, rootB_len⟩)
  have hhr : hasE (⟨rootB, rootB_len⟩ : Nm) (kE X.K) = true := (kE_has _ _).2 ⟨b, by rw [hX]; simp, by rw [HRN.out]; exact hbi⟩
  rw [hhr] at HHAS
  have HRS : Hid (∀ k, R k → w.heap.size ≤ k) := Lib.hid hR
  have HL1 := Lib.hid hl1
  obtain ⟨RB, hRB⟩ : ∃ RB, RB = rootB := ⟨_, rfl⟩
  have HRBE := Lib.hid hRB
  rw [← hRB] at HROOT HRL
  have HHAS2 : Hid (∀ (w' : World), Below w1.heap.size w1 w' → Calls Tryz.prog 33 #[.pointer (some ⟨da, 0, none⟩), .agg (vals RB).toArray] w' fun r w'' => r = .returned (.bool true) ∧ Below w'.heap.size w' w'') := Lib.hid (by rw [hRB]; exact HHAS.out)
  clear hdg hgen hb1 hX hbi hl1 hhr hR HNEW HHAS hRB
  go_wp2_with fail
  refine HLEN.out.mono ?_
  rintro r w2 ⟨rfl, rfl⟩
  clear HLEN
  go_wp2_with fail
  refine (HROOT.out w1 (HT.out.old HB1.out)).mono ?_
  rintro r w2 ⟨rfl, hb2⟩
  have HB2 := Lib.hid hb2
  clear hb2
  go_wp2_with fail
  refine (HHAS2.out w2 HB2.out).mono ?_
  rintro r w3 ⟨rfl, hb3⟩
  have HB3 := Lib.hid (HB2.out.trans (hb3.mono HB2.out.size))
  clear hb3 HHAS2
  go_wp2_with fail
  refine (HROOT.out w3 (HT.out.old (HB1.out.trans (HB3.out.mono HB1.out.size)))).mono ?_
  rintro r w4 ⟨rfl, hb4⟩
  have HB4 := Lib.hid (HB3.out.trans (hb4.mono HB3.out.size))
  obtain ⟨W5, hW5⟩ : ∃ W5, W5 = w4.alloc (.cells (vals RB).toArray 70) := ⟨_, rfl⟩
  obtain ⟨g5, hg5⟩ : ∃ g5, g5 = w4.heap.size := ⟨_, rfl⟩
  have hb5 : Below w4.heap.size w4 W5 := by rw [hW5]; exact alloc1 _ _
  have hrd5 : Rd encN W5 (some ⟨g5, 0, none⟩) oneHd.ps := by rw [hW5, hg5, HRBE.out]; exact Hrd.out w4
  obtain ⟨HC, hHC⟩ : ∃ HC, HC = hcells oneHd (some ⟨g5, 0, none⟩) 1 := ⟨_, rfl⟩
  have HHC := Lib.hid hHC
  have HI : Hid ((Tryz.prog.info? 41).map (·.size) = some HC.size) := Lib.hid (by rw [hHC]; exact hinfo)
  have HON : Hid (∀ v ∈ HC.toList, v.oneCell' = true) := Lib.hid (by rw [hHC]; exact hcells_one _ _ _)
  have HSZ : Hid (HC.size = 7) := Lib.hid (by rw [hHC]; rfl)
  have hHC2 : #[.int .i64 1, .int .i64 0, .string ⟨#[116]⟩, .int .i64 1, .int .u64 2, .slice (some ⟨g5, 0, none⟩) 1 1, .int .i64 0] = HC := by rw [hHC]; exact (Hcl.out _).symm
  have HHC2 := Lib.hid hHC2
  have HW5 := Lib.hid hW5
  have HG5 := Lib.hid hg5
  have HB5 := Lib.hid (HB4.out.trans (hb5.mono HB4.out.size))
  have HRD5 := Lib.hid hrd5
  clear hb4 hW5 hg5 hb5 hrd5 hHC hHC2
  go_upto_region 5 with (first
    | (refine wpList_exec rfl (build_name (.tmp 17) rfl RB HRL.out rfl) ?_; rw [← HW5.out, ← HG5.out]; go_frame)
    | (refine wpList_store_row rfl rfl 41 (.tmp 2) (.tmp 19) rfl W5.heap.size rfl 41 _ HC (by rw [← HHC2.out]; rfl) (heap_alloc_new W5 _) HSZ.out.symm HI.out HON.out ?_))
  refine wp_gen (fun W6 => W6.heap[W5.heap.size]? = some (.cells HC 41 (0, 0)) ∧ Below W5.heap.size W5 W6) (row_new W5 _ _ HC 41 rfl) (fun W6 hW6 => ?_)
  obtain ⟨hr6, hb6⟩ := hW6
  obtain ⟨g6, hg6⟩ : ∃ g6, g6 = W5.heap.size := ⟨_, rfl⟩
  rw [← hg6] at hr6
  rw [← hg6]
  have HR6 := Lib.hid hr6
  have HB16 : Hid (Below w1.heap.size w1 W6) := Lib.hid (HB5.out.trans (hb6.mono HB5.out.size))
  have hbw6 := HB1.out.trans (HB16.out.mono HB1.out.size)
  have HADD := Lib.hid (dgadd_any (HDG.out.old HB16.out) oneHd (some ⟨g5, 0, none⟩) 1 (HRD5.out.old hb6) (.inr ⟨g5, 0, rfl⟩) (HOk.of oneHd_ok) (by rw [HL1.out]; decide) (HT.out.old hbw6))
  rw [← HHC.out] at HADD
  have HRD6 := Lib.hid (HRD5.out.old hb6)
  have HBW6 := Lib.hid hbw6
  have HG56 : Hid (w1.heap.size ≤ g5 ∧ w1.heap.size ≤ g6) := Lib.hid (by
    have h1 := HB4.out.size
    have h2 := HB5.out.size
    have h3 := HG5.out
    omega)
  clear hr6 hb6 hg6 hbw6
  go_wp2_with (refine wpList_exec rfl (exec_load_row 41 (.tmp 2) rfl g6 rfl 41 HC (0, 0) _ HR6.out Tryz.underlying41 rfl HI.out) ?_)
  refine HADD.out.mono ?_
  rintro r W7 ⟨e, rfl, hc7, hp7⟩
  have he : e = 0 := one_first HGEN.out hc7
  subst he
  rcases hp7 with ⟨h, _⟩ | ⟨_, S', R', F', nb, hnb, hdg7, hm7, hS7, hR7⟩
  · exact absurd rfl h
  have hnS : ∀ k, S k → k < w1.heap.size := fun k hk => HDG.out.rl k (HDG.out.rs k hk)
  have hr7 : W7.heap[g6]? = some (.cells HC 41 (0, 0)) := (hm7.block g6 (Array.getElem?_eq_some_iff.1 HR6.out).1 (fun h => by have := hnS _ h; have := HG56.out.2; omega)).trans HR6.out
  have hrd7 : Rd encN W7 (some ⟨g5, 0, none⟩) oneHd.ps := HRD6.out.mod hm7 (fun a e h => by cases e; have h3 : g5 < w1.heap.size := hnS _ h; have := HG56.out.1; omega)
  have hbw7 : Below w.heap.size w W7 := HBW6.out.trans (hm7.to_below HBW6.out.size (fun k hk h => by have := HRS.out k (HDG.out.rs k h); omega))
  have HADD2 := Lib.hid (dgadd_any hdg7 oneHd (some ⟨g5, 0, none⟩) 1 hrd7 (.inr ⟨g5, 0, rfl⟩) (HOk.of oneHd_ok) (by show (nb :: X.K).length < 100000; rw [List.length_cons, HL1.out]; decide) (HT.out.old hbw7))
  rw [← HHC.out] at HADD2
  have hh7 : hasE (nmH oneHd) (kE (nb :: X.K)) = true := (kE_has _ _).2 ⟨nb, by simp, congrArg (·.1) hnb⟩
  have HH7 := Lib.hid hh7
  have HR7 := Lib.hid hr7
  have HBW7 := Lib.hid hbw7
  have HLN7 := Lib.hid (fun (w' : World) (hb : Below W7.heap.size W7 w') => dglen_any (hdg7.old hb))
  have hln : (nb :: X.K).length = 2 := by rw [List.length_cons, HL1.out]
  rw [show (⟨X.m1, X.m2, nb :: X.K, F'⟩ : DD).K = nb :: X.K from rfl, hln] at HLN7
  clear hc7 hnb hdg7 hm7 hS7 hR7 hr7 hrd7 hbw7 hh7 hln HADD hnS
  go_wp2_with (refine wpList_load_rowG rfl 41 (.tmp 2) rfl g6 rfl 41 HC (0, 0) _ HR7.out Tryz.underlying41 rfl HI.out ?_)
  refine HADD2.out.mono ?_
  rintro r W8 ⟨e, rfl, hc8, hp8⟩
  have he : e = 9 := one_again HH7.out hc8
  subst he
  have hb8 : Below W7.heap.size W7 W8 := by
    rcases hp8 with ⟨_, hb8⟩ | ⟨h, _⟩
    · exact hb8
    · exact absurd h (by decide)
  have HB8 := Lib.hid hb8
  clear hb8 hc8 hp8 HADD2
  go_wp2_with fail
  refine (HLN7.out W8 HB8.out).mono ?_
  rintro r w9 ⟨rfl, rfl⟩
  have HBF := Lib.hid (HBW7.out.trans (HB8.out.mono HBW7.out.size))
  clear HLN7
  go_wp2_with fail
  go_ret
  exact ⟨rfl, HBF.out⟩
end Go.Proofs.YtemnebbdaljfbaaGreatDoor

namespace Go.Proofs.YtemnebbdaljfbaaGreatDoor
open Go.RowKit

/-- What stands at the head of a round: the dag, the names that came in, the headers. -/
structure GwS (w w1 w2 : World) (da : Nat) (hq : Option Addr) (D : List RH) (wr : World) (N : List Nm) (q : Option Addr) (c : Nat) : Prop where
  dg : ∃ (S R : Nat → Prop) (X : DD), DG S R wr da X ∧ (∀ b ∈ X.K, b.id = nmH b.h) ∧ X.K.length = 1 + N.length ∧ (∀ n ∈ N, hasE n (kE X.K) = true) ∧ (∀ k, R k → w.heap.size ≤ k ∧ (k < w1.heap.size ∨ w2.heap.size ≤ k)) ∧ (∀ a, q = some a → ¬ R a.block)
  rw : Rw encN 70 wr q c N
  f : ∀ a, q = some a → w2.heap.size ≤ a.block
  rd : Rd encR wr hq D
  ok : ∀ y ∈ D, okH wr y
  b : Below w.heap.size w wr
  s2 : w2.heap.size ≤ wr.heap.size
/-- The headers' rows lie between. -/
def BtH (w1 w2 : World) (hq : Option Addr) (D : List RH) : Prop := (∀ a, hq = some a → w1.heap.size ≤ a.block ∧ a.block < w2.heap.size) ∧ ∀ y ∈ D, ∀ z, y.q = some z → w1.heap.size ≤ z.block ∧ z.block < w2.heap.size
end Go.Proofs.YtemnebbdaljfbaaGreatDoor

namespace Go.Proofs.YtemnebbdaljfbaaGreatDoor
open Go.RowKit

/-- A round ends: it goes on. -/
def roundGo {α : Type} (B : Nat) (I : List α → World → Prop) (pre : List α) (x : α) (W : World) : Exit → Act → World → Prop
  | .normal, _, W' => KeepsFrom B W W' ∧ KeepsWalks W W' ∧ I (pre ++ [x]) W'
  | _, _, _ => False

variable {F : Fence} {n : Nat} {P : Program}

theorem wpIn_gives {α : Type} {g : Operand} {ps : Array Tmp} {assign body : Code} {Q : Exit → Act → World → Prop} {a : Act} {w : World}
    (hro : F.round = none) (h1 : 1 ≤ n) {gf : Nat} {lb : Array Value} (hg : a.eval g = .func (.func gf) #[] lb) (hFg : F.fn gf) (eg : ∀ args w, (callFunc gf args).run P w = .ok (.enter gf args) w)
    {enc : α → Value} {S : List α → Prop} {N : Nat} {w0 : World} (hseq : SeqGives F (n - 1) P gf lb enc S N w0) (hb0 : Below w0.heap.size w0 w) (hps : ps.size = 1)
    (I : List α → World → Prop) (hI : OwnFrom w.heap.size I) (h0 : I [] w) (B : α → Act → World → Prop) (hB : ∀ a, OwnFrom w.heap.size (fun x W => B x a W))
    (hassign : ∀ (l : Nat) (pre : List α) (x : α) (W : World) (K : Act → World → Prop), I pre W → w.heap.size ≤ W.heap.size → (∀ a W', I pre W' → B x a W' → KeepsFrom w.heap.size W W' → KeepsWalks W W' → K a W') →
      assign.wpIn (F.inRound l) (n - 1 - 1) P (Exit.then K (fun _ _ _ => False)) { tmps := (ps.zip #[enc x]).foldl (fun t (p, v) => t.setIfInBounds p v) a.tmps, defers := [] } W)
    (hbody : ∀ (l : Nat) (pre : List α) (x : α) (b : Act) (W : World), I pre W → B x b W → pre.length < N → body.wpIn (F.inRound l) (n - 1 - 1) P (roundGo w.heap.size I pre x W) b W)
    (hdone : ∀ (D : Nat) (xs : List α) (W : World), w.heap.size ≤ D → S xs → I xs W → W.heap[D]? = some (.deferred (some [])) → Q .normal { a with defers := { target := .collected D, args := #[] } :: a.defers } W) :
    (Code.rangeFunc g ps assign body).wpIn F n P Q a w := by
  refine wpIn_rangeFunc fun fn hfn => ?_
  rw [hro]
  obtain ⟨rec, hrec⟩ : ∃ rec : LoopState → Option Code → Loop, rec = fun st pe => { state := st, pending := pe, fn, tmps := a.tmps, params := ps, assign, body, defers := w.heap.size } := ⟨_, rfl⟩
  obtain ⟨V, hV⟩ : ∃ V, V = (w.alloc (.deferred (some []))).alloc (.loop (rec .ready none)) := ⟨_, rfl⟩
  have rL : V.heap[w.heap.size + 1]? = some (.loop (rec .ready none)) := by
    have := World.alloc_heap_new (w.alloc (.deferred (some []))) (.loop (rec .ready none)); rw [World.size_alloc] at this; rw [hV]; exact this
  have rD : V.heap[w.heap.size]? = some (.deferred (some [])) := by rw [hV]; exact (Below.heap_alloc _ _ _ (by simp)).trans (World.alloc_heap_new w _)
  have vI : I [] V := by rw [hV]; exact hI.alloc _ (hI.alloc _ h0)
  have vB : Below w0.heap.size w0 V := by rw [hV]; exact hb0.trans ((((Below.refl _ w).alloc (Nat.le_refl _) _).alloc (by simp) _).mono hb0.size)
  have vS : w.heap.size + 2 ≤ V.heap.size := by rw [hV]; simp
  refine ⟨w.heap.size + 1, [{ target := .collected w.heap.size, args := #[] }], V, { target := .fn (.func gf) lb, args := #[.func (.yield (w.heap.size + 1)) #[] #[]] }, V, gf,
    #[.func (.yield (w.heap.size + 1)) #[] #[]] ++ lb, V, ?_, ?_, ?_, ?_, fun _ => h1, ?_⟩
  · rw [hV, hrec]; exact run_enterLoop_outer _ _ _ _ _
  · simp only [resolve, hg]; simp [go_sem]
  · intro f' hf'; simp [Target.leads] at hf'; subst hf'; exact hFg
  · simp [invoke, go_sem, eg]
  clear hV
  -- the two blocks of the loop's own lie on where no walk's object turns
  have keep : ∀ {A C : World} {row : Option Nat} {j : Nat} {o : Obj}, A.grownBy C row → (∀ r, row = some r → V.heap.size ≤ r ∧ ∃ o : Obj, A.heap[r]? = some o ∧ o.isWalk = true) → A.heap[j]? = some o → o.isWalk = false → C.heap[j]? = some o :=
    fun hg' hr hj ho => (grownBy_keeps hg' (fun r e => (hr r e).2) hj ho).trans hj
  have own : ∀ {A : World} {row : Option Nat}, (∀ r, row = some r → V.heap.size ≤ r ∧ ∃ o : Obj, A.heap[r]? = some o ∧ o.isWalk = true) → ∀ r, row = some r → w.heap.size ≤ r ∧ ∃ o : Obj, A.heap[r]? = some o ∧ o.isCells = false :=
    fun hr r e => by obtain ⟨hB, o, ho, hw⟩ := hr r e; exact ⟨by omega, o, ho, Obj.not_cells_of_walk hw⟩
  refine (hseq (w.heap.size + 1)
    (fun k W => I k W ∧ W.heap[w.heap.size + 1]? = some (.loop (rec .ready none)) ∧ W.heap[w.heap.size]? = some (.deferred (some [])))
    V vB (fun s A C row hs hg' hr => ⟨hI s A C row hs.1 hg' (own hr), keep hg' hr hs.2.1 rfl, keep hg' hr hs.2.2 rfl⟩) ?_ ⟨vI, rL, rD⟩).mono ?_
  · rintro pre x W ⟨hi, hl, hd⟩ hk
    have hy := run_yield (P := P) (args := #[enc x]) hl (by rw [hrec]; exact hps.symm)
    rw [hrec] at hy
    refine ⟨fn, _, assign, body, hy, roundIn_of_wpIn hfn (hassign _ pre x W _ hi (Nat.le_of_lt (Array.getElem?_eq_some_iff.1 hd).1) (fun b1 W1 hi1 hB1 hkf hkw => ?_))⟩
    have hl1 := hkf.same _ _ (by omega) hl rfl
    have hd1 := hkf.same _ _ (Nat.le_refl _) hd rfl
    refine ⟨_, run_beginRound hl1 (by rw [hrec]), ?_⟩
    obtain ⟨X, hX⟩ : ∃ X, X = W1.putObj (w.heap.size + 1) (.loop { rec .ready none with state := .busy }) := ⟨_, rfl⟩
    have xl : X.heap[w.heap.size + 1]? = some (.loop { rec .ready none with state := .busy }) := by rw [hX]; exact World.putObj_heap_same (Array.getElem?_eq_some_iff.1 hl1).1
    have xd : X.heap[w.heap.size]? = some (.deferred (some [])) := by rw [hX]; exact (World.putObj_heap_other (by omega)).trans hd1
    have xi : I pre X := by rw [hX]; exact hI.putObj _ hi1 (by omega) hl1 rfl
    have xb : B x b1 X := by rw [hX]; exact (hB b1).putObj _ hB1 (by omega) hl1 rfl
    have xk : KeepsWalks W X := hkw.trans (by rw [hX]; exact KeepsWalks.putObj _ hl1 rfl)
    rw [← hX]
    clear hX
    refine wpIn_mono (hbody _ pre x b1 X xi xb hk) ?_
    rintro e b Y hp
    cases e with
    | normal =>
      have yl := hp.1.same _ _ (by omega) xl rfl
      have := run_endRound (P := P) none yl
      rw [hrec] at this
      exact ⟨_, _, this, rfl, ⟨hI.putObj _ hp.2.2 (by omega) yl rfl, World.putObj_heap_same (Array.getElem?_eq_some_iff.1 yl).1 |>.trans (by rw [hrec]; rfl), (World.putObj_heap_other (by omega)).trans (hp.1.same _ _ (Nat.le_refl _) xd rfl)⟩, (xk.trans hp.2.1).trans (KeepsWalks.putObj _ yl rfl)⟩
    | ret => exact hp.elim
    | exit id => exact hp.elim
    | goto t => exact hp.elim
    | panic ch => exact hp.elim
    | outgrown => exact hp.elim
  · rintro e X ⟨⟨v, rfl⟩, xs, hS, hi, hl, hd⟩
    exact ⟨none, _, by have := run_endLoop (P := P) hl (by rw [hrec]; simp); rw [hrec] at this; exact this, hdone _ xs _ (Nat.le_refl _) hS (hI.putObj _ hi (by omega) hl rfl) ((World.putObj_heap_other (by omega)).trans hd)⟩
end Go.Proofs.YtemnebbdaljfbaaGreatDoor

namespace Go.Proofs.YtemnebbdaljfbaaGreatDoor
open Go.RowKit Go.ChangeMaps Go.WideShapes

section
variable {α : Type} [DecidableEq α] {E : KeyE α} {L : List (α × Value)} {left : Lit → Bool} {ss : List α}
/-- The keys met so far: no one twice; those that are no more to come. -/
structure Coll (E : KeyE α) (L : List (α × Value)) (left : Lit → Bool) (ss : List α) : Prop where
  nd : ss.Nodup
  mem : ∀ x, x ∈ ss ↔ (hasE x L = true ∧ left (E.lit x) = false)
theorem Coll.start (E : KeyE α) (L : List (α × Value)) : Coll E L (Maps.has (E.d L)) [] :=
  ⟨List.nodup_nil, fun x => by rw [has_dE]; cases hasE x L <;> simp⟩
theorem Coll.step (h : Coll E L left ss) {x : α} (hlk : left (E.lit x) = true) (hh : hasE x L = true) : Coll E L (fun z => left z && !z.sameKey (E.lit x)) (ss ++ [x]) := by
  have hnew : x ∉ ss := fun hx => by have := ((h.mem x).1 hx).2; rw [hlk] at this; cases this
  refine ⟨List.nodup_append.2 ⟨h.nd, by simp, fun a ha b hb => by simp at hb; subst hb; exact fun e => hnew (e ▸ ha)⟩, fun y => ?_⟩
  rw [List.mem_append, List.mem_singleton, h.mem y]
  by_cases hy : y = x
  · subst hy; simp [hh, E.same]
  · simp [hy, E.same]
theorem Coll.perm (h : Coll E L left ss) (hap : ApartE L) (hl : ∀ kl, left kl = false) : ss.Perm (L.map (·.1)) := by
  refine (List.perm_ext_iff_of_nodup h.nd ?_).2 (fun x => ?_)
  · exact List.pairwise_map.2 hap
  · rw [h.mem x, hl, hasE_iff]; simp
variable {P : Program} {K : TypeId} {w : World} {b : Nat}
/-- What comes out of a range over a map. -/
theorem MapK.key_of (h : MapK P K E w b L) (kd : Maps.Keyed P K) {enc : α → Value} (henc : ∀ x ∈ L, keyOf P K (enc x.1) = some (E.lit x.1)) {key : Value} {kl : Lit} {y : DataW Value} (hk : keyOf P K key = some kl) (hat : ∀ zd, (E.d L).atKey kl zd = y) : ∃ x, hasE x L = true ∧ kl = E.lit x ∧ key = enc x := by
  have hh : Maps.has (E.d L) kl = true := Maps.has_true_of_atKey hat
  have hh2 : (E.es L).any (fun p => p.1.sameKey kl) = true := hh
  rw [anyE, List.any_eq_true] at hh2
  obtain ⟨x, hx, he⟩ := hh2
  have e : E.lit x.1 = kl := WideAt.sameKey_eq he
  subst e
  exact ⟨x.1, hasE_iff.2 (List.mem_map_of_mem hx), rfl, kd.inj hk (henc x hx)⟩
end
theorem wpListIn_exec {F : Fence} {n : Nat} {P : Program} {ops : Array Oper} {rest : List Oper} {o : Oper} {a : Act} {w w' : World} {Q : Exit → Act → World → Prop} {v : Value} (hgd : o.guard = none) (hc : ∀ c, o.op ≠ .defer c) (hab : o.about P w a.eval = none)
    (hr : (execOp a.eval o).run P w = .ok (.value v) w') (h : wpListIn F n P ops Q rest (a.put o.dst v) w') : wpListIn F n P ops Q (o :: rest) a w := by
  refine wpListIn_plain hgd fun K hK => ?_
  unfold Oper.wpIn
  refine ⟨(fun f hf => by rw [hab] at hf; cases hf), ?_⟩
  rw [Oper.semAt_plain F _ _ hc, hr]
  exact hK _ _ h
theorem rowC_new (w : World) (o : Obj) (old cs : Array Value) (t : TypeId) (ho : o = .cells old t (0, 0)) : ((w.alloc o).setRow w.heap.size cs).heap[w.heap.size]? = some (.cells cs t (0, 0)) ∧ Below w.heap.size w ((w.alloc o).setRow w.heap.size cs) := by
  subst ho
  have hb : Below w.heap.size w (w.alloc (.cells old t)) := (Below.refl _ w).alloc (Nat.le_refl _) _
  exact ⟨setRow_heap _ _ old cs t (0, 0) (heap_alloc_new w _), hb.trans (((Mod.refl (fun _ => False) (w.alloc (.cells old t))).setRow (g := w.heap.size) cs).to_below hb.size (by rintro i hi (h | h) <;> first | exact h | omega))⟩
theorem wpListIn_gen {F : Fence} {n : Nat} {P : Program} {ops : Array Oper} {rest : List Oper} {a : Act} {w : World} {Q : Exit → Act → World → Prop} (R : World → Prop) (hR : R w) (h : ∀ w', R w' → wpListIn F n P ops Q rest a w') : wpListIn F n P ops Q rest a w := h w hR
/-- A whole variable is stored: inside a fence. -/
theorem wpListIn_store_row {F : Fence} {n : Nat} {P : Program} {ops : Array Oper} {rest : List Oper} {o : Oper} {a : Act} {w : World} {Q : Exit → Act → World → Prop} (hgd : o.guard = none) (hdst : o.dst = none) (ty : TypeId) (x y : Operand) (ho : o.op = .store ty x y)
    (g : Nat) (hx : a.eval x = .pointer (some ⟨g, 0, none⟩)) (t : TypeId) (old cs : Array Value) (hy : a.eval y = .agg cs) (hg : w.heap[g]? = some (.cells old t (0, 0))) (hsz : old.size = cs.size)
    (hi : (P.info? ty).map (·.size) = some cs.size) (h1 : ∀ v ∈ cs.toList, v.oneCell' = true)
    (h : wpListIn F n P ops Q rest a (w.setRow g cs)) : wpListIn F n P ops Q (o :: rest) a w := by
  have hst := run_storeCells_at P g 0 t cs.toList 0 old w hg (by simp; omega) h1
  have e : (old.toList.take (0 + 0) ++ cs.toList ++ old.toList.drop (0 + 0 + cs.toList.length)).toArray = cs := by
    have : old.toList.drop (0 + 0 + cs.toList.length) = [] := List.drop_eq_nil_of_le (by simp; omega)
    rw [this]; simp
  rw [e] at hst
  cases hq : P.info? ty with
  | none => simp [hq] at hi
  | some i =>
    have hs : i.size = cs.size := by simpa [hq] using hi
    have hv : (storeVar ty ⟨g, 0, none⟩ (.agg cs)).run P w = .ok () (w.setRow g cs) := by
      simp [storeVar, sizeOf, typeInfo, hq, hs, Value.cells, hst]
    refine wpListIn_plain hgd fun K hK => ?_
    unfold Oper.wpIn
    refine ⟨by simp [Oper.about, ho], ?_⟩
    rw [Oper.semAt_plain F _ _ (by rw [ho]; intro c hc; cases hc)]
    unfold execOp
    simp only [ho, hx, hy, Instr.storeAt, Instr.sureAddr, Sem.run_bind, Sem.run_pure, Result.andThen_ok, hv]
    exact hK _ _ (by rw [hdst]; exact h)
theorem build_elem {α : Type} {P : Program} {o : Oper} {a : Act} {w : World} (E : Enc α) (Ts T : TypeId) (z : Value) (by_ : Nat) (hT : P.underlying Ts = some (.slice T)) (hi : (P.info? T).map (fun i => (i.zero, i.size, i.bytes)) = some (some z, E.k, by_)) (hk : E.k ≤ 1000)
    (x : Operand) (ho : o.op = .buildSlice Ts 1 #[(0, x)]) (y : α) (v : Value) (hv : v.cells = (E.f y).toArray) (hx : a.eval x = v) :
    (execOp a.eval o).run P w = .ok (.value (.slice (some ⟨w.heap.size, 0, none⟩) 1 1)) (w.alloc (.cells (E.f y).toArray T)) := by
  cases hq : P.info? T with
  | none => rw [hq] at hi; cases hi
  | some i =>
    rw [hq] at hi
    simp only [Option.map_some, Option.some.injEq, Prod.mk.injEq] at hi
    obtain ⟨hz, h1, _⟩ := hi
    have hpos := E.pos
    have hf := Great.fill_whole (s := E.k) E.pos [v] ((Array.range (1 * E.k)).map (z.cells[· % z.cells.size]!)) (by intro u hu; rw [List.mem_singleton.1 hu, hv, List.size_toArray, E.len]) (by simp)
    have hb := run_buildSlice (P := P) w Ts T 1 #[(0, v)] (E.f y).toArray i z hT hq hz (by rw [h1]; omega) (by rw [h1]; omega) (by
      rw [h1]
      refine hf.trans ?_
      simp [hv])
    unfold execOp
    simp only [ho, List.map_toArray, List.map_cons, List.map_nil, hx, Sem.run_bind, hb, Result.andThen_ok, Sem.run_pure]
/-- Elements are appended: inside a fence. -/
theorem wpListIn_pushE {α : Type} {F : Fence} {nF : Nat} {P : Program} {ops : Array Oper} {rest : List Oper} {o : Oper} {a : Act} {Q : Exit → Act → World → Prop} {w : World} (E : Enc α) (hgd : o.guard = none) (s x : Operand) (Ts T : TypeId) (z : Value) (by_ : Nat)
    (ho : o.op = .call { callee := .builtin .append, args := #[s, x], argTypes := #[Ts, Ts] }) (hT : P.underlying Ts = some (.slice T)) (hi : (P.info? T).map (fun i => (i.zero, i.size, i.bytes)) = some (some z, E.k, by_)) (hzs : z.cells.size = E.k) (hby : by_ ≤ 1024)
    (p : Option Addr) (cap n : Nat) (L : List α) (hn : L.length = n) (hs : a.eval s = .slice p n cap) (hS : Rw E T w p cap L) (ao : Option Addr) (m cx : Nat) (Y : List α) (hm : Y.length = m) (h0 : 0 < m) (hx : a.eval x = .slice ao m cx) (hY : Rd E w ao Y) (hl : n + m ≤ 100000000000)
    (h : ∀ q c w', PushR E T w p (L ++ Y) q c w' → wpListIn F nF P ops Q rest (a.put o.dst (.slice q (n + m) c)) w') :
    wpListIn F nF P ops Q (o :: rest) a w := by
  cases hq : P.info? T with
  | none => rw [hq] at hi; cases hi
  | some i =>
    rw [hq] at hi
    simp only [Option.map_some, Option.some.injEq, Prod.mk.injEq] at hi
    obtain ⟨hz, h1, h2⟩ := hi
    subst hn
    subst hm
    have hmul : (L.length + Y.length) * by_ ≤ 140737488355328 := Nat.le_trans (Nat.mul_le_mul hl hby) (by decide)
    obtain ⟨bs, off, rfl, hbs, _⟩ := hY 0 h0
    refine wpListIn_plain hgd fun K hK => ?_
    obtain ⟨g, c, w', hr, hown, hgrow, hat, _⟩ := run_append_lies (P := P) w Ts o.type 0 T i z E.k by_ hT hq hz h1 h2 hzs E.pos _ L.length (E.all L) hS ⟨bs, off, none⟩ Y.length cx (E.all Y) (E.all_len Y) (by
      intro j u hj
      have hjl : j < Y.length * E.k := by
        have := (List.getElem?_eq_some_iff.1 hj).1
        rwa [E.all_len] at this
      have hd : j / E.k < Y.length := by rw [Nat.div_lt_iff_lt_mul E.pos]; exact hjl
      have hr : j % E.k < E.k := Nat.mod_lt _ E.pos
      have he : j / E.k * E.k + j % E.k = j := by rw [Nat.mul_comm]; exact Nat.div_add_mod j E.k
      obtain ⟨bs', off', e, _, c1⟩ := hY (j / E.k) hd
      cases e
      have hadd : (⟨bs, off, none⟩ : Addr).add j = ⟨bs, off + j, none⟩ := by unfold Addr.add; split <;> simp_all
      rw [← he, E.all_get Y _ _ hd hr] at hj
      have := c1 _ _ hj
      rw [Nat.add_assoc, he] at this
      rw [hadd, this]) (E.all_one _) h0 (by unfold maxLen; omega) hmul (Nat.zero_le _) _ rfl
    unfold Oper.wpIn
    refine ⟨by simp [Oper.about, ho, resolve, Target.leads, Sem.run_pure], ?_⟩
    rw [Oper.semAt_plain F _ _ (by rw [ho]; intro c hc'; cases hc')]
    simp [execOp, ho, resolve, invoke, builtin, hs, hx, hr, Result.andThen]
    refine hK _ _ (h (some ⟨g, 0, none⟩) c w' ⟨?_, ?_, ?_⟩)
    · unfold Rw; rw [List.length_append, E.all_app]; exact hown
    · refine (Mod.refl _ w).grown hgrow ?_
      intro j hj _
      cases p with
      | none => simp [Value.ownBlock] at hj
      | some a => simp [Value.ownBlock] at hj; exact ⟨a, rfl, hj.symm⟩
    · rintro a' e; cases e
      rcases hat with hat | hat
      · left
        rcases hS.shape with ⟨rfl, _⟩ | ⟨g', rfl, _⟩
        · simp [Value.ownBlock] at hat
        · simp [Value.ownBlock] at hat; subst hat; rfl
      · right; rw [hat]; exact Nat.le_refl _
end Go.Proofs.YtemnebbdaljfbaaGreatDoor

namespace Go.Proofs.YtemnebbdaljfbaaGreatDoor
open Go.RowKit Go.Shelf Go.Maps
attribute [local go_sem] Oper.semAt_some

theorem keysN_henc {w : World} {b : Nat} {L : List (Nm × Value)} (h : MapK Tryz.prog 70 keyN w b L) : ∀ x ∈ L, keyOf Tryz.prog 70 ((fun x : Nm => Value.agg (vals x.1).toArray) x.1) = some (keyN.lit x.1) := (fun x _ => keyN_of x.1)
set_option maxRecDepth 100000 in
set_option maxHeartbeats 2000000 in
/-- The iterator: each key once, in some order. -/
theorem mkeysN1_in (F : Fence) (n : Nat) (h10 : F.fn 113) (hro : F.round = none) (hn : 1 ≤ n) (l Bm b : Nat) (L : List (Nm × Value)) (J : List (Nm) → World → Prop)
    (hY : ∀ pre x W, J pre W → pre.length < L.length → YieldAt F (n - 1) Tryz.prog l #[(fun x : Nm => Value.agg (vals x.1).toArray) x] W fun e W' => e = .returned (.bool true) ∧ J (pre ++ [x]) W' ∧ KeepsWalks W W')
    (W : World) (hJ : AbidesFrom W.heap.size J) (hm : W.cell? ⟨Bm, 0, none⟩ = some (.map (some b))) (hown : MapK Tryz.prog 70 keyN W b L) (h0 : J [] W) :
    CallsIn F n Tryz.prog 113 #[.func (.yield l) #[] #[], .pointer (some ⟨Bm, 0, none⟩)] W fun e W' => (∃ v, e = .returned v) ∧ ∃ ss : List (Nm), ss.Perm (L.map (·.1)) ∧ J ss W' := by
  have HM := Lib.hid hown
  have HY := Lib.hid hY
  have HJ := Lib.hid hJ
  have H0 := Lib.hid h0
  have HOW := hown.own
  clear hown hY hJ h0
  refine callsIn_of_wp Tryz.func113 rfl h10 ?_ hro
  simp only [Tryz.ntmps113, List.size_toArray, List.length_cons, List.length_nil, Nat.reduceAdd, Nat.reduceSub, Array.replicate_succ, Array.replicate_zero, List.push_toArray, List.append_toArray, List.nil_append, List.cons_append]
  gi_wp2_with (first
    | (gi_at_range; refine wpListIn_range_own _ rfl _ 79 rfl 70 72 keyedN Tryz.underlying79 _ b L.length _ rfl HOW ?_; intro w0 hrg0 hg0 hs0)
    | gi_in)
  first | go_frame | skip
  gi_loopw [3] (fun _ wr => ∃ (left : Lit → Bool) (cnt : Nat) (ss : List (Nm)), wr.ranges Tryz.prog 70 RVE b W.heap.size L.length (keyN.d L) left cnt ∧ ss.length + cnt ≤ L.length ∧ Coll keyN L left ss ∧ J ss wr)
    (fun _ wr => wr.rangeLeft b W.heap.size)
  case atStart =>
    exact ⟨_, _, [], hrg0, by rw [size_dE]; simp, Coll.start keyN L, HJ.out [] W w0 none H0.out hg0 (fun r e => by cases e)⟩
  case round =>
    obtain ⟨left, cnt, ss, hrg, hcs, hC, hJs⟩ := hrel
    gi_wp2_with (first
      | (gi_at_next; refine wpListIn_next_ranges _ rfl _ rfl 70 keyedN RVE (fun v : Value => v) (fun v : Value => v) (fun key kl _ => ⟨key, rfl⟩) (fun v _ _ => ⟨v, rfl⟩) b W.heap.size L.length _ _ _ rfl hrg ?_ ?_)
      | gi_in)
    · -- nothing is left
      intro hc0 hl0
      gi_wp2
      go_end0
      exact ⟨⟨_, rfl⟩, ss, hC.perm HM.out.ap hl0, hJs⟩
    · -- an entry has come
      intro key c kl yd yp w2 cnt2 hkey hlk hv hv2 hat hrg2 hlt hg2 hs2 hen
      obtain ⟨x, hx, rfl, rfl⟩ := HM.out.key_of keyedN (enc := (fun x : Nm => Value.agg (vals x.1).toArray)) (keysN_henc HM.out) hkey hat
      have hJ2 : J ss w2 := HJ.out ss wr w2 (some W.heap.size) hJs hg2 (fun r e => by cases e; exact ⟨Nat.le_refl _, hrg.iter_walk⟩)
      clear hs2
      gi_wp2_with (first
        | (refine wpListIn_store_row rfl rfl 70 (.tmp 3) (.tmp 9) rfl w2.heap.size rfl 70 _ (vals x.1).toArray rfl (heap_alloc_new w2 _) (id_size x.2).symm (by rw [id_size x.2]; kernel_rfl) (fun v hv => by rw [List.toList_toArray] at hv; exact vals_one _ v hv) ?_
           refine wpListIn_gen (fun W3 => W3.heap[w2.heap.size]? = some (.cells (vals x.1).toArray 70 (0, 0)) ∧ Below w2.heap.size w2 W3) (rowC_new w2 _ _ (vals x.1).toArray 70 rfl) (fun W3 hW3 => ?_)
           obtain ⟨hr3, hb3⟩ := hW3
           have hg3 : w2.grownBy W3 none := ⟨hb3.os, hb3.tape, hb3.output, hb3.size, fun i hi _ => hb3.block i hi⟩
           have hJ3 : J ss W3 := HJ.out ss w2 W3 none hJ2 hg3 (fun r e => by cases e)
           have hrg2 := hrg2.kept hg3 (by simp) (by simp)
           obtain ⟨fn, tmps, assign, body, hy, hR⟩ := HY.out ss x W3 hJ3 (by omega)
           obtain ⟨g3, hg33⟩ : ∃ g3, g3 = w2.heap.size := ⟨_, rfl⟩
           rw [← hg33] at hr3
           rw [← hg33]
           clear hg33 hb3 hg3)
        | (refine wpListIn_exec rfl (fun c hc => by cases hc) (by simp [Oper.about]) (exec_load_row 70 (.tmp 3) rfl g3 rfl 70 _ (0, 0) _ hr3 Tryz.underlying70 rfl (by rw [id_size x.2]; kernel_rfl)) ?_; go_frame)
        | gi_in)
      refine hR.mono ?_
      rintro e W3 ⟨rfl, hJ3, hk3⟩
      gi_wp2
      have hrg3 := hrg2.of_walks hk3
      go_roundw
      case rel => exact ⟨_, cnt2, ss ++ [x], hrg3, by simp; omega, hC.step hlk hx, hJ3⟩
      case measure => rw [hrg3.left_eq, hrg.left_eq]; exact hlt
theorem mkeysN_gives (F : Fence) (n : Nat) (h10 : F.fn 113) (hro : F.round = none) (hn : 1 ≤ n) (Bm b : Nat) (L : List (Nm × Value)) (w : World) (hBm : Bm < w.heap.size) (hm : w.cell? ⟨Bm, 0, none⟩ = some (.map (some b))) (hown : MapK Tryz.prog 70 keyN w b L) :
    SeqGives F n Tryz.prog 113 #[.pointer (some ⟨Bm, 0, none⟩)] (fun x : Nm => Value.agg (vals x.1).toArray) (fun ss => ss.Perm (L.map (·.1))) L.length w := fun l J W hW hJ hY h0 =>
  mkeysN1_in F n h10 hro hn l Bm b L J hY W hJ ((hW.cell (p := ⟨Bm, 0, none⟩) hBm).trans hm) (hown.old hW) h0
/-- maps.Keys. -/
theorem mkeysN_any (mb : Option Nat) (w : World) :
    Calls Tryz.prog 78 #[.map mb] w fun e w' => e = .returned (.func (.func 113) #[] #[.pointer (some ⟨w.heap.size, 0, none⟩)]) ∧ w' = w.alloc (.cells #[.map mb] 79) := by
  have hmf : ∀ (fn : Fn) (first cap : Array Value) (w : World), (Instr.makeFunc fn first cap).run Tryz.prog w = .ok (.func fn first cap) w := fun _ _ _ _ => rfl
  go_enter Tryz.func78, Tryz.ntmps78
  go_wp2_with fail
  go_ret
  exact ⟨rfl, rfl⟩
section
variable (w : World)
/-- The memory of AppendSeq. -/
structure GatN (w : World) (ss : List (Nm)) (q : Option Addr) (cq : Nat) (W : World) : Prop where
  s : Rw encN 70 W q cq ss
  new : ∀ a, q = some a → w.heap.size + 1 ≤ a.block
  bx : W.heap[w.heap.size]? = some (.cells #[.slice q ss.length cq] 39 (0, 0))
  m : Below w.heap.size w W
  hB : w.heap.size + 1 ≤ W.heap.size
def GatNI (w : World) (ss : List (Nm)) (W : World) : Prop := ∃ q cq, GatN w ss q cq W
variable {w}
theorem GatN.step {ss : List (Nm)} {q : Option Addr} {cq : Nat} {W W' : World} {S : Nat → Prop} (h : GatN w ss q cq W) (hm : Mod S W W') (hS : ∀ i, S i → w.heap.size + 1 ≤ i) (hq : ∀ a, q = some a → ¬ S a.block) : GatN w ss q cq W' :=
  ⟨h.s.kept hm hq, h.new, (hm.block _ (by have := h.hB; omega) (fun hs => by have := hS _ hs; omega)).trans h.bx,
    h.m.trans (hm.to_below h.m.size (fun i hi hs => by have := hS _ hs; omega)), Nat.le_trans h.hB hm.size⟩
theorem GatNI.own : OwnFrom (w.heap.size + 1) (GatNI w) := by
  rintro k W W' row ⟨q, cq, h⟩ hg hr
  have hm : Mod (fun i => row = some i) W W' := (Mod.refl _ _).grown hg (fun k e _ => e)
  refine ⟨q, cq, h.step hm (fun i e => (hr i e).1) (fun a e hs => ?_)⟩
  subst e
  obtain ⟨o, ho, hc⟩ := (hr _ hs).2
  rcases h.s.shape with ⟨e, _⟩ | ⟨g, e, _, _, _, cur, hh, _⟩
  · cases e
  · cases e
    rw [show (⟨g, 0, none⟩ : Addr).block = g from rfl, hh] at ho
    cases ho; cases hc
theorem GatN.next {ss : List (Nm)} {x : Nm} {q : Option Addr} {cq : Nat} {W W1 W5 : World} (h : GatN w ss q cq W) (hb : Below W.heap.size W W1)
    {q2 : Option Addr} {cq2 : Nat} (hP : PushR encN 70 W1 q (ss ++ [x]) q2 cq2 W5) :
    KeepsFrom (w.heap.size + 1) W (W5.setCell ⟨w.heap.size, 0, none⟩ (.slice q2 (ss.length + 1) cq2)) ∧ KeepsWalks W (W5.setCell ⟨w.heap.size, 0, none⟩ (.slice q2 (ss.length + 1) cq2)) ∧ GatNI w (ss ++ [x]) (W5.setCell ⟨w.heap.size, 0, none⟩ (.slice q2 (ss.length + 1) cq2)) := by
  obtain ⟨hS, hm, hor⟩ := hP
  have hnew : ∀ a, q2 = some a → w.heap.size + 1 ≤ a.block := by
    intro a e
    rcases hor a e with e | e
    · exact h.new _ e
    · have := h.hB; have := hb.size; omega
  have hm0 : Mod (fun i => ∃ a, q = some a ∧ i = a.block) W W5 := ((Mod.of_below hb).mono (T := fun i => ∃ a, q = some a ∧ i = a.block) (fun i hi h => absurd hi (by omega))).trans hm (fun _ _ h => h)
  have hm2 : Mod (fun i => (∃ a, q = some a ∧ i = a.block) ∨ i = w.heap.size) W (W5.setCell ⟨w.heap.size, 0, none⟩ (.slice q2 (ss.length + 1) cq2)) :=
    Mod.setCell (S := fun i => (∃ a, q = some a ∧ i = a.block) ∨ i = w.heap.size) (p := ⟨w.heap.size, 0, none⟩) (hm0.mono (fun i _ hs => Or.inl hs)) (fun _ => Or.inr rfl) _
  have hBp : ∀ i, (∃ a, q = some a ∧ i = a.block) → w.heap.size + 1 ≤ i := by rintro i ⟨a, e, rfl⟩; exact h.new a e
  have hbx5 : W5.heap[w.heap.size]? = some (.cells #[.slice q ss.length cq] 39 (0, 0)) := (hm0.block _ (by have := h.hB; omega) (fun hs => by have := hBp _ hs; omega)).trans h.bx
  have hnc : ∀ j o, W.heap[j]? = some o → ((∃ a, q = some a ∧ j = a.block) ∨ j = w.heap.size) → ∃ cs T fr, o = .cells cs T fr := by
    rintro j o hk (⟨a, e, rfl⟩ | rfl)
    · subst e
      rcases h.s.shape with ⟨e, _⟩ | ⟨g', e, _, _, _, cur, hh, _⟩
      · cases e
      · cases e
        rw [show (⟨g', 0, none⟩ : Addr).block = g' from rfl, hh] at hk
        cases hk; exact ⟨_, _, _, rfl⟩
    · rw [h.bx] at hk; cases hk; exact ⟨_, _, _, rfl⟩
  refine ⟨⟨hm2.size, fun j o hj hk hc => ?_⟩, ⟨hm2.size, fun j o hk hc => ?_⟩, q2, cq2, ⟨?_, hnew, ?_, ?_, Nat.le_trans h.hB hm2.size⟩⟩
  · refine (hm2.block j (Array.getElem?_eq_some_iff.1 hk).1 (fun hs => ?_)).trans hk
    obtain ⟨cs, T, fr, rfl⟩ := hnc j o hk hs
    cases hc
  · refine (hm2.block j (Array.getElem?_eq_some_iff.1 hk).1 (fun hs => ?_)).trans hk
    obtain ⟨cs, T, fr, rfl⟩ := hnc j o hk hs
    cases hc
  · refine hS.kept (S := fun i => i = w.heap.size) ((Mod.refl (fun i => i = w.heap.size) W5).setCell (fun _ => rfl) _) (fun a e hs => by have := hnew a e; omega)
  · rw [heap_setCell_same W5 w.heap.size 0 _ 39 (.slice q2 (ss.length + 1) cq2) hbx5, List.length_append]; rfl
  · exact h.m.trans (hm2.to_below h.m.size (by rintro i hi (hs | hs)
                                               · have := hBp _ hs; omega
                                               · omega))
end
set_option maxRecDepth 100000 in
set_option maxHeartbeats 8000000 in
/-- slices.AppendSeq against whatever iterator. -/
theorem appseqN_any (w : World) (gf : Nat) (lb : Array Value) (eg : ∀ args w, (callFunc gf args).run Tryz.prog w = .ok (.enter gf args) w) (S : List (Nm) → Prop) (N : Nat) (hN : N ≤ 1000000) (hseq : SeqGives Fence.wide (3 - 1) Tryz.prog gf lb (fun x : Nm => Value.agg (vals x.1).toArray) S N w) :
    Calls Tryz.prog 136 #[.slice none 0 0, .func (.func gf) #[] lb] w fun e w' => ∃ q cq ss, e = .returned (.slice q ss.length cq) ∧ S ss ∧ Rw encN 70 w' q cq ss ∧ (∀ a, q = some a → w.heap.size ≤ a.block) ∧ Below w.heap.size w w' := by
  obtain ⟨W0, hW0⟩ : ∃ W0, W0 = w.alloc (.cells #[.slice none 0 0] 39) := ⟨_, rfl⟩
  have hs0 : W0.heap.size = w.heap.size + 1 := by rw [hW0]; simp
  have hB0 : Below w.heap.size w W0 := by rw [hW0]; exact (Below.refl _ _).alloc (Nat.le_refl _) _
  have h0 : GatNI w [] W0 := ⟨none, 0, Rw.empty _ _, (fun a e => by cases e), by rw [hW0]; exact heap_alloc_new _ _, hB0, by omega⟩
  obtain ⟨vs, hvs⟩ : ∃ vs : Value, vs = .func (.func gf) #[] lb := ⟨_, rfl⟩
  refine (callsIn_wide (n := 3)).1 ?_
  refine callsIn_of_wp_marks Tryz.func136 rfl trivial ?_ rfl
  simp only [Tryz.ntmps136, List.size_toArray, List.length_cons, List.length_nil, Nat.reduceAdd, Nat.reduceSub, Array.replicate_succ, Array.replicate_zero, List.push_toArray, List.append_toArray, List.nil_append, List.cons_append]
  gi_wp2_with fail
  rw [← hW0]
  clear hW0
  have hI : OwnFrom W0.heap.size (GatNI w) := by rw [hs0]; exact GatNI.own
  refine wpIn_gives (F := Fence.wide) rfl (by decide) (gf := gf) (lb := lb) rfl trivial eg hseq hB0 rfl (GatNI w) hI h0 (fun x a W => ∃ g, a = { tmps := #[.slice none 0 0, .func (.func gf) #[] lb, .pointer (some ⟨w.heap.size, 0, none⟩), undef, .slice none 0 0, .pointer (some ⟨g, 0, none⟩), .func (.func gf) #[] lb, Value.agg (vals x.1).toArray, undef, undef, undef, undef, undef], defers := [] } ∧ W.heap[g]? = some (.cells (vals x.1).toArray 70 (0, 0))) ?hB ?assign ?body ?done
  case hB =>
    rintro a x W W' row ⟨g, e, hr⟩ hg hrow
    refine ⟨g, e, (hg.block g (Array.getElem?_eq_some_iff.1 hr).1 ?_).trans hr⟩
    intro e2
    obtain ⟨_, o, ho, hc⟩ := hrow g e2.symm
    rw [hr] at ho; cases ho; cases hc
  case assign =>
    rintro l pre x W K ⟨q, cq, h⟩ hsz hK
    have HI := Lib.hid h
    have HK := Lib.hid hK
    obtain ⟨y, hy⟩ : ∃ y : Value, y = .func (.func gf) #[] lb := ⟨_, rfl⟩
    rw [← hy]
    rw [← hy] at HK
    clear h hK hI h0 hy hvs
    gi_wp2_with (refine wpListIn_store_row rfl rfl 70 (.tmp 5) (.tmp 7) rfl W.heap.size rfl 70 _ (vals x.1).toArray rfl (heap_alloc_new W _) (id_size x.2).symm (by rw [id_size x.2]; kernel_rfl) (fun v hv => by rw [List.toList_toArray] at hv; exact vals_one _ v hv) ?_; refine wpListIn_gen (fun W3 => W3.heap[W.heap.size]? = some (.cells (vals x.1).toArray 70 (0, 0)) ∧ Below W.heap.size W W3) (rowC_new W _ _ (vals x.1).toArray 70 rfl) (fun W3 hn => ?_); have HN := Lib.hid hn; clear hn)
    have hn := HN.out
    refine HK.out _ _ ⟨q, cq, ?_⟩ ⟨W.heap.size, rfl, hn.1⟩ ?_ ?_
    · exact HI.out.step (Mod.of_below hn.2) (fun i hi => by have := HI.out.hB; omega) (fun a e hs => by subst e; have := HI.out.s.lt; omega)
    · exact ⟨hn.2.size, fun k o _ hk _ => (hn.2.block k (Array.getElem?_eq_some_iff.1 hk).1).trans hk⟩
    · exact ⟨hn.2.size, fun k o hk _ => (hn.2.block k (Array.getElem?_eq_some_iff.1 hk).1).trans hk⟩
  case body =>
    rintro l pre x b W ⟨q, cq, h⟩ ⟨g5, rfl, hr5⟩ hk
    have c1 : W.cell? ⟨w.heap.size, 0, none⟩ = some (.slice q pre.length cq) := by unfold World.cell?; rw [h.bx]; rfl
    have hb1 : Below W.heap.size W (W.alloc (.cells (encN.f x).toArray 70)) := (Below.refl _ _).alloc (Nat.le_refl _) _
    have Hend : Hid (∀ q2 cq2 W5, PushR encN 70 (W.alloc (.cells (encN.f x).toArray 70)) q (pre ++ [x]) q2 cq2 W5 → roundGo (w.heap.size + 1) (GatNI w) pre x W .normal { tmps := #[], defers := [] } (W5.setCell ⟨w.heap.size, 0, none⟩ (.slice q2 (pre.length + 1) cq2))) := Lib.hid (by
      intro q2 cq2 W5 hP
      exact h.next hb1 hP)
    have HS1 := Lib.hid (h.s.old hb1)
    have HY : Hid (Rd encN (W.alloc (.cells (encN.f x).toArray 70)) (some ⟨W.heap.size, 0, none⟩) [x]) := Lib.hid (by have := Rd.made encN W 70 [x] (by simp [maxLen]); rw [show encN.all [x] = encN.f x by simp [Enc.all]] at this; exact this)
    have hk9 : pre.length ≤ 1000000 := by omega
    have HBX : Hid (∀ q2 cq2 W5, PushR encN 70 (W.alloc (.cells (encN.f x).toArray 70)) q (pre ++ [x]) q2 cq2 W5 → W5.heap[w.heap.size]? = some (.cells #[.slice q pre.length cq] 39 (0, 0))) := Lib.hid (by
      intro q2 cq2 W5 hP
      have h1 := (hb1.block w.heap.size (by have := h.hB; omega)).trans h.bx
      refine (hP.2.1.block w.heap.size (by have := h.hB; have := hb1.size; omega) ?_).trans h1
      rintro ⟨a, e, h2⟩
      have := h.new a e; omega)
    obtain ⟨m, hm⟩ : ∃ m, m = pre.length := ⟨_, rfl⟩
    have HM : Hid (pre.length = m) := Lib.hid hm.symm
    obtain ⟨XC, hXC⟩ : ∃ XC : Array Value, XC = (encN.f x).toArray := ⟨_, rfl⟩
    obtain ⟨y, hy⟩ : ∃ y : Value, y = Value.agg (vals x.1).toArray := ⟨_, rfl⟩
    have HYC : Hid (y.cells = (encN.f x).toArray) := Lib.hid (by rw [hy]; rfl)
    have HXC := Lib.hid hXC
    have HYV := Lib.hid hy
    have HBD : Hid (∀ (o : Oper) (a : Act) (xx : Operand), o.op = .buildSlice 39 1 #[(0, xx)] → a.eval xx = y → (execOp a.eval o).run Tryz.prog W = .ok (.value (.slice (some ⟨W.heap.size, 0, none⟩) 1 1)) (W.alloc (.cells XC 70))) := Lib.hid (fun o a xx ho hx => by have hb := build_elem (P := Tryz.prog) (w := W) encN 39 70 (.agg (vals zid).toArray) 32 Tryz.underlying39 info_id (by decide) xx ho x y HYC.out hx; rw [← HXC.out] at hb; exact hb)
    rw [← hm, ← hXC] at Hend HBX
    rw [← hXC] at HS1 HY
    rw [hs0]
    rw [← hy]
    rw [← hvs]
    rw [← hm] at hk9 c1
    have hE : ∀ (q2 : Option Addr) (cq2 : Nat) (W5 : World) (a : Act), PushR encN 70 (W.alloc (.cells XC 70)) q (pre ++ [x]) q2 cq2 W5 → roundGo (w.heap.size + 1) (GatNI w) pre x W .normal a (W5.setCell ⟨w.heap.size, 0, none⟩ (.slice q2 (m + 1) cq2)) := fun q2 cq2 W5 a hP => Hend.out q2 cq2 W5 hP
    have HE := Lib.hid hE
    clear hb1 h hk hI h0 hy hm hXC hE Hend
    gi_wp2_with (first
      | (refine wpListIn_exec rfl (fun c hc => by cases hc) (by simp [Oper.about]) (exec_load_row 70 (.tmp 5) rfl g5 rfl 70 _ (0, 0) _ hr5 Tryz.underlying70 rfl (by rw [id_size x.2]; kernel_rfl)) ?_; rw [← HYV.out]; go_frame)
      | (refine wpListIn_exec rfl (fun c hc => by cases hc) (by simp [Oper.about]) (HBD.out _ _ (.tmp 9) rfl rfl) ?_; go_frame)
      | (gi_at_builtin; (refine wpListIn_pushE encN rfl _ _ 39 70 (.agg (vals zid).toArray) 32 rfl Tryz.underlying39 info_id (id_size (s := zid) rfl) (by decide) q cq m pre HM.out rfl HS1.out (some ⟨W.heap.size, 0, none⟩) 1 1 [x] rfl (by decide) rfl HY.out (by omega) ?_; intro q2 cq2 W5 hP; have b5 := HBX.out q2 cq2 W5 hP; have c5 : W5.cell? ⟨w.heap.size, 0, none⟩ = some (.slice q m cq) := (by unfold World.cell?; rw [b5]; rfl); have f5 := frozen_of_row W5 w.heap.size 0 _ 39 b5; have HP := Lib.hid hP; clear hP b5)))
    exact HE.out _ _ _ _ HP.out
  case done =>
    rintro D xs W hD hS ⟨q, cq, h⟩ hK
    have c1 : W.cell? ⟨w.heap.size, 0, none⟩ = some (.slice q xs.length cq) := by unfold World.cell?; rw [h.bx]; rfl
    have HH := Lib.hid h
    have HSS := Lib.hid hS
    have HSE := Lib.hid hseq
    rw [← hvs]
    clear h h0 hI hS hseq
    gi_wp2
    refine ⟨by simp, .inl ⟨_, _, rfl, run_takeDeferred hK, ?_⟩⟩
    have hmD : Mod (fun i => W0.heap.size ≤ i) W (W.putObj D (.deferred none)) := (Mod.refl _ _).grown (grownBy_putObj' _ D _) (fun k e _ => by cases e; exact hD)
    refine ⟨_, results_tmp rfl _ _ _, q, cq, xs, rfl, HSS.out, ?_, fun a e => ?_, ?_⟩
    · refine HH.out.s.kept (S := fun i => i = D) ((Mod.refl _ _).grown (grownBy_putObj' _ D _) (fun k e _ => by cases e; rfl)) (fun a e h2 => ?_)
      rcases HH.out.s.shape with ⟨e', _⟩ | ⟨g', e', _, _, _, cur, hh, _⟩
      · rw [e] at e'; cases e'
      · rw [e] at e'; cases e'
        rw [show (⟨g', 0, none⟩ : Addr).block = g' from rfl] at h2
        subst h2
        rw [hK] at hh; cases hh
    · have := HH.out.new a e; omega
    · exact HH.out.m.trans (hmD.to_below HH.out.m.size (fun i hi h2 => by omega))
theorem collectN_any (w : World) (gf : Nat) (lb : Array Value) (eg : ∀ args w, (callFunc gf args).run Tryz.prog w = .ok (.enter gf args) w) (S : List (Nm) → Prop) (N : Nat) (hN : N ≤ 1000000) (hseq : SeqGives Fence.wide (3 - 1) Tryz.prog gf lb (fun x : Nm => Value.agg (vals x.1).toArray) S N w) :
    Calls Tryz.prog 112 #[.func (.func gf) #[] lb] w fun e w' => ∃ q cq ss, e = .returned (.slice q ss.length cq) ∧ S ss ∧ Rw encN 70 w' q cq ss ∧ (∀ a, q = some a → w.heap.size ≤ a.block) ∧ Below w.heap.size w w' := by
  have H := Lib.hid (appseqN_any w gf lb eg S N hN hseq)
  clear hseq
  go_enter Tryz.func112, Tryz.ntmps112
  go_wp2_with fail
  refine H.out.mono ?_
  rintro e w1 ⟨q, cq, ss, rfl, hr⟩
  have HR := Lib.hid hr
  clear hr H
  go_wp2_with fail
  go_ret
  exact ⟨q, cq, ss, rfl, HR.out⟩
end Go.Proofs.YtemnebbdaljfbaaGreatDoor

namespace Go.Proofs.YtemnebbdaljfbaaGreatDoor
open Go.RowKit Go.Sort

theorem ksort_lt {L : List Nm} (h : L.Nodup) : (ksort L).Pairwise lN := by
  have h2 : (ksort L).Nodup := (List.mergeSort_perm L _).nodup_iff.2 h
  refine (List.Pairwise.and (ksort_pair L) h2).imp ?_
  rintro x y ⟨h1, h3⟩
  cases hxy : ltOf cfN x y with
  | true => exact hxy
  | false =>
    cases hyx : ltOf cfN y x with
    | true => exact absurd hyx h1
    | false => exact absurd (cfN_total x y hxy hyx) h3
theorem ksort_perm {A B : List Nm} (h : A.Perm B) (hB : B.Nodup) : ksort A = ksort B :=
  strict_uniq _ _ (ksort_lt (h.nodup_iff.2 hB)) (ksort_lt hB) (fun x => by rw [ksort_mem, ksort_mem, h.mem_iff])
set_option maxRecDepth 20000 in
set_option maxHeartbeats 4000000 in
theorem sortedfuncN_any (w : World) (Bm b : Nat) (L : List (Nm × Value)) (hm : w.cell? ⟨Bm, 0, none⟩ = some (.map (some b))) (hBm : Bm < w.heap.size) (hown : MapK Tryz.prog 70 keyN w b L) (hn : L.length ≤ 1000000) :
    Calls Tryz.prog 77 #[.func (.func 113) #[] #[.pointer (some ⟨Bm, 0, none⟩)], .func (.func 66) #[] #[]] w fun e w' => ∃ q cq, e = .returned (.slice q L.length cq) ∧ Rw encN 70 w' q cq (ksort (L.map (·.1))) ∧ (∀ a, q = some a → w.heap.size ≤ a.block) ∧ Below w.heap.size w w' := by
  have HC := Lib.hid (collectN_any w 113 #[.pointer (some ⟨Bm, 0, none⟩)] (enters_of Tryz.func113 (by kernel_rfl) rfl) _ L.length hn (mkeysN_gives Fence.wide (3 - 1) trivial rfl (by decide) Bm b L w hBm hm hown))
  have HND : Hid ((L.map (·.1)).Nodup) := Lib.hid (List.pairwise_map.2 hown.ap)
  have HN := Lib.hid hn
  clear hm hBm hown hn
  go_enter Tryz.func77, Tryz.ntmps77
  go_wp2_with fail
  refine HC.out.mono ?_
  rintro e w1 ⟨q, cq, ss, rfl, hS, hrw, hnew, hb⟩
  have hlen : ss.length = L.length := by have := hS.length_eq; simpa using this
  have HK : Hid (ksort ss = ksort (L.map (·.1))) := Lib.hid (ksort_perm hS HND.out)
  have HSO := Lib.hid (dgsort_any q cq ss w1 hrw (by rw [hlen]; exact HN.out))
  rw [hlen, HK.out] at HSO
  rw [hlen]
  have HNEW := Lib.hid hnew
  have HB := Lib.hid hb
  obtain ⟨n, hn⟩ : ∃ n, n = L.length := ⟨_, rfl⟩
  rw [← hn] at HSO ⊢
  have HNL := Lib.hid hn
  clear hS hrw hnew hb hlen HC HK hn
  go_wp2_with fail
  refine HSO.out.mono ?_
  rintro r w2 ⟨rfl, hrw2, hm2⟩
  have HR := Lib.hid hrw2
  have HM := Lib.hid (HB.out.trans (hm2.to_below HB.out.size (by rintro i hi ⟨a, e, rfl⟩; have := HNEW.out a e; omega)))
  clear hrw2 hm2 HSO
  go_wp2_with fail
  go_ret
  exact ⟨q, cq, by rw [← HNL.out]; rfl, HR.out, HNEW.out, HM.out⟩
section
variable {S R : Nat → Prop} {w : World} {da : Nat} {X : DD}
theorem kE_ids (K : List Blk) : (kE K).map (·.1) = K.map (·.id) := by unfold kE; rw [List.map_map]; rfl
set_option maxRecDepth 20000 in
set_option maxHeartbeats 4000000 in
theorem dgblocks_any (h : DG S R w da X) : Calls Tryz.prog 35 #[.pointer (some ⟨da, 0, none⟩)] w fun r w' => ∃ q c, r = .returned (.slice q X.K.length c) ∧ Rw encN 70 w' q c (ksort (X.K.map (·.id))) ∧ (∀ a, q = some a → w.heap.size ≤ a.block) ∧ Below w.heap.size w w' := by
  have cc : w.cell? ⟨da, 0, none⟩ = some (.map (some X.m1)) := cell_of_row _ da 0 _ _ _ h.box
  have HMK := Lib.hid (mkeysN_any (some X.m1) w)
  obtain ⟨w1, hw1⟩ : ∃ w1, w1 = w.alloc (.cells #[.map (some X.m1)] 79) := ⟨_, rfl⟩
  have hb1 : Below w.heap.size w w1 := by rw [hw1]; exact alloc1 _ _
  have HB1 := Lib.hid hb1
  have HSF := Lib.hid (sortedfuncN_any w1 w.heap.size X.m1 (kE X.K) (by rw [hw1]; unfold World.cell?; rw [heap_alloc_new]; rfl) (by rw [hw1]; simp) (h.bm.old hb1) (by rw [kE_len]; exact Nat.le_trans h.len (by decide)))
  rw [kE_len, kE_ids] at HSF
  obtain ⟨k, hk⟩ : ∃ k, k = X.K.length := ⟨_, rfl⟩
  rw [← hk] at HSF ⊢
  have hmf : ∀ (fn : Fn) (first cap : Array Value) (w : World), (Instr.makeFunc fn first cap).run Tryz.prog w = .ok (.func fn first cap) w := fun _ _ _ _ => rfl
  rw [← hw1] at HMK
  clear h hk hb1 hw1
  go_enter Tryz.func35, Tryz.ntmps35
  go_wp2_with fail
  refine HMK.out.mono ?_
  rintro r w2 ⟨rfl, rfl⟩
  go_wp2_with fail
  refine HSF.out.mono ?_
  rintro r w3 ⟨q, c, rfl, hrw, hnew, hb⟩
  have HR := Lib.hid hrw
  have HN : Hid (∀ a, q = some a → w.heap.size ≤ a.block) := Lib.hid (fun a e => Nat.le_trans HB1.out.size (hnew a e))
  have HB := Lib.hid (HB1.out.trans (hb.mono HB1.out.size))
  clear hrw hnew hb HSF HMK
  go_wp2_with fail
  go_ret
  exact ⟨q, c, rfl, HR.out, HN.out, HB.out⟩
end
end Go.Proofs.YtemnebbdaljfbaaGreatDoor

namespace Go.Proofs.YtemnebbdaljfbaaGreatDoor
open Go.RowKit

theorem exec_field_hd {o : Oper} {a : Act} {w : World} {x : Operand} (ho : o.op = .field 72 x 1) (b : Blk) (hx : a.eval x = .agg b.cells.toArray) : (execOp a.eval o).run Tryz.prog w = .ok (.value (.agg (hcells b.h b.q b.c))) w := by
  have e : List.take 7 (List.drop 32 b.cells) = [.int .i64 b.h.ht, .int .i64 b.h.mi, .string ⟨b.h.tk.toArray⟩, .int .i64 b.h.wi, .int .u64 (b.h.pw : Int), .slice b.q b.h.ps.length b.c, .int .i64 b.h.sa] := by
    simp [Blk.cells, hcells, List.drop_append, vals_len, b.id.2]
  unfold execOp
  simp [ho, hx, Instr.field, run_underlying Tryz.underlying72, part, asAgg, e, Tryz.sizeOf41]
  rfl
theorem uniq_idF : ∀ {K : List Blk}, (K.map (·.id)).Nodup → ∀ b ∈ K, ∀ b' ∈ K, b.id = b'.id → b = b'
  | [], _, b, hb, _, _, _ => by cases hb
  | x :: K, hn, b, hb, b', hb', e => by
    rw [List.map_cons, List.nodup_cons] at hn
    rcases List.mem_cons.1 hb with rfl | hb2
    · rcases List.mem_cons.1 hb' with rfl | hb3
      · rfl
      · exact absurd (by rw [e]; exact List.mem_map_of_mem hb3) hn.1
    · rcases List.mem_cons.1 hb' with rfl | hb3
      · exact absurd (by rw [← e]; exact List.mem_map_of_mem hb2) hn.1
      · exact uniq_idF hn.2 b hb2 b' hb3 e
theorem blks_of {K : List Blk} {t : List UInt8} : ∀ (ns : List Nm), (∀ n ∈ ns, ∃ b ∈ K, famK b = t ∧ b.id = n) → ∃ Fb : List Blk, Fb.map (·.id) = ns ∧ ∀ b ∈ Fb, b ∈ K ∧ famK b = t
  | [], _ => ⟨[], rfl, fun b hb => by cases hb⟩
  | n :: ns, h => by
    obtain ⟨b, hb, e1, e2⟩ := h n (by simp)
    obtain ⟨Fb, h1, h2⟩ := blks_of ns (fun m hm => h m (by simp [hm]))
    refine ⟨b :: Fb, by rw [List.map_cons, h1, e2], fun x hx => ?_⟩
    rcases List.mem_cons.1 hx with rfl | hx
    · exact ⟨hb, e1⟩
    · exact h2 x hx
section
variable {S R : Nat → Prop} {w : World} {da : Nat} {X : DD}
set_option maxRecDepth 20000 in
/-- What the lookup of a family tells. -/
theorem dg_lkF (h : DG S R w da X) (t : List UInt8) (ht : t.length ≤ maxLen) : ∃ (fq : Option Addr) (fc : Nat) (L : List Blk), Rd encN w fq (L.map (·.id)) ∧ L.length ≤ X.K.length ∧ (∀ b ∈ L, b ∈ X.K ∧ famK b = t) ∧ (L.map (·.id)).Pairwise lN ∧ (∀ b ∈ X.K, famK b = t → b.id ∈ L.map (·.id)) ∧
    (Instr.lookup 80 (.map (some X.m2)) (.string ⟨t.toArray⟩) false).run Tryz.prog w = .ok (.slice fq L.length fc) w := by
  have hl := h.fm.look keyedS Tryz.underlying80 (z := .slice none 0 0) (by kernel_rfl) (keyS_of t ht)
  cases hh : hasE t (fE X.F) with
  | true =>
    obtain ⟨f, hf, rfl, hg⟩ := h.lookF (z := .slice none 0 0) hh
    obtain ⟨h1, h2⟩ := h.fs f hf
    obtain ⟨L, e, h3⟩ := blks_of f.ns (fun n hn => (h2 n).1 hn)
    have hlen : L.length = f.ns.length := by rw [← e, List.length_map]
    refine ⟨f.q, f.c, L, by rw [e]; exact (h.fr f hf).rd, by rw [hlen]; exact h.fl f hf, h3, by rw [e]; exact h1, fun b hb eb => by rw [e]; exact (h2 b.id).2 ⟨b, hb, eb, rfl⟩, ?_⟩
    rw [hl, hg, hlen]; rfl
  | false =>
    refine ⟨none, 0, [], Rd.nil _ _, Nat.zero_le _, (fun b hb => by cases hb), List.Pairwise.nil, fun b hb eb => ?_, ?_⟩
    · obtain ⟨f, hf, e⟩ := h.fb b hb
      exfalso
      have : hasE t (fE X.F) = true := (fE_has _ _).2 ⟨f, hf, by rw [e, eb]⟩
      rw [hh] at this; cases this
    · rw [hl, getE_no hh]; rfl
set_option maxRecDepth 20000 in
set_option maxHeartbeats 8000000 in
theorem dgfamily_any (h : DG S R w da X) (t : List UInt8) (ht : t.length ≤ maxLen) :
    Calls Tryz.prog 30 #[.pointer (some ⟨da, 0, none⟩), .string ⟨t.toArray⟩] w fun r w' => ∃ q c L, r = .returned (.slice q L.length c) ∧ (∀ b ∈ L, b ∈ X.K ∧ famK b = t) ∧ (L.map (·.id)).Pairwise lN ∧ (∀ b ∈ X.K, famK b = t → b.id ∈ L.map (·.id)) ∧ L.length ≤ X.K.length ∧ OwR w w' L L.length q c := by
  obtain ⟨fq, fc, L, hrd, hlen, hLK, hpw, hall, hlk⟩ := dg_lkF h t ht
  obtain ⟨F, hF⟩ : ∃ F : Ending → World → Prop, F = fun r w' => ∃ q c L, r = .returned (.slice q L.length c) ∧ (∀ b ∈ L, b ∈ X.K ∧ famK b = t) ∧ (L.map (·.id)).Pairwise lN ∧ (∀ b ∈ X.K, famK b = t → b.id ∈ L.map (·.id)) ∧ L.length ≤ X.K.length ∧ OwR w w' L L.length q c := ⟨_, rfl⟩
  have HF : Hid (∀ (q : Option Addr) (c : Nat) (w' : World), OwR w w' L L.length q c → F (.returned (.slice q L.length c)) w') := Lib.hid (fun q c w' ho => by rw [hF]; exact ⟨q, c, L, rfl, hLK, hpw, hall, hlen, ho⟩)
  rw [← hF]
  have cc : w.cell? ⟨da, 1, none⟩ = some (.map (some X.m2)) := cell_of_row _ da 1 _ _ _ h.box
  have HCC1 : Hid (∀ w1, Below w.heap.size w w1 → w1.cell? ⟨da, 0, none⟩ = some (.map (some X.m1))) := Lib.hid (fun w1 hb => cell_of_row _ da 0 _ _ _ (h.old hb).box)
  have HLK1 : Hid (∀ b ∈ L, ∀ w1, Below w.heap.size w w1 → (Instr.lookup 79 (.map (some X.m1)) (.agg (vals b.id.1).toArray) false).run Tryz.prog w1 = .ok (.agg b.cells.toArray) w1) := Lib.hid (fun b hb w1 hw => by
    have hh : hasE b.id (kE X.K) = true := (kE_has _ _).2 ⟨b, (hLK b hb).1, rfl⟩
    have hl := (h.old hw).bm.look keyedN Tryz.underlying79 (zblk_zero w1) (keyN_of b.id)
    obtain ⟨b', hb', e, hg⟩ := h.look (z := .agg zBlk.cells.toArray) hh
    have : b' = b := uniq_idF h.nodup b' hb' b (hLK b hb).1 e
    rw [hl, hg, this])
  have HOKK : Hid (∀ b ∈ L, okK w b) := Lib.hid (fun b hb => h.okK (hLK b hb).1)
  have HRD := Lib.hid hrd
  obtain ⟨W, hW⟩ : ∃ W, W = w := ⟨_, rfl⟩
  have H0 : Hid (OwR W w L 0 none 0) := Lib.hid ⟨⟨[], rfl, Rw.empty _ _, rfl, fun b hb => by cases hb⟩, by rw [hW]; exact Below.refl _ _, fun a e => by cases e⟩
  have HWW := Lib.hid hW
  rw [← hW] at HF HCC1 HLK1 HOKK HRD
  have hn9 : L.length ≤ 1000000 := Nat.le_trans hlen (Nat.le_trans h.len (by decide))
  obtain ⟨n, hn⟩ : ∃ n, n = L.length := ⟨_, rfl⟩
  have HN := Lib.hid hn
  rw [← hn] at HF hn9 hlk
  clear h hrd hlen hLK hpw hall hF hn hW
  go_enter Tryz.func30, Tryz.ntmps30
  go_wp2_with fail
  go_loopw [5, 15] (fun s5 s15 wr => ∃ (k : Nat) (q : Option Addr) (c : Nat), k ≤ n ∧ s5 = .slice q k c ∧ s15 = .int .i64 (k : Int) ∧ Hid (OwR W wr L k q c)) (fun _ s15 _ => n - (intOf s15).toNat)
  case atStart => exact ⟨0, none, 0, Nat.zero_le _, rfl, rfl, H0⟩
  case round =>
    clear H0 cc hlk
    obtain ⟨k, q, c, hkn, rfl, rfl, HS⟩ := hrel
    have k0 : (0 : Int) ≤ k := by omega
    by_cases hlt : k < n
    · have hlt' : (k : Int) < n := by omega
      have hkl : k < L.length := by have := HN.out; omega
      obtain ⟨bs, off, rfl, hbs, hc⟩ := (HRD.out.old HS.out.b) k (by rw [List.length_map]; exact hkl)
      obtain ⟨b, hb⟩ : ∃ b, b = L[k] := ⟨_, rfl⟩
      have HBL : Hid (b ∈ L) := Lib.hid (by rw [hb]; exact List.getElem_mem _)
      rw [List.getElem_map, ← hb] at hc
      have HCC : Hid (∀ i u, (encN.f b.id)[i]? = some u → wr.cell? ⟨bs, off + k * 32 + i, none⟩ = some u) := Lib.hid hc
      have HNX : Hid ((L.take (k + 1)).map Blk.is = (L.take k).map Blk.is ++ [b.is]) := Lib.hid (by rw [List.take_succ_eq_append_getElem hkl, List.map_append, ← hb]; rfl)
      have HOK : Hid (okK wr b) := Lib.hid ((HOKK.out b HBL.out).old HS.out.b)
      have HLK0 := Lib.hid (HLK1.out b HBL.out)
      clear hb hc hbs hkl
      have HSZ : Hid ((vals b.id.1).toArray.size = 32) := Lib.hid (id_size b.id.2)
      have HQ3 : Hid ((Tryz.prog.info? 70).map (·.size) = some (vals b.id.1).toArray.size) := Lib.hid (id_info b.id.2)
      have HQ4 : Hid (∀ v ∈ (vals b.id.1).toArray.toList, v.oneCell' = true) := Lib.hid (id_one b.id.1)
      have HFD : Hid (∀ (o : Oper) (a : Act) (u : World), o.op = .field 72 (.tmp 26) 1 → a.eval (.tmp 26) = .agg b.cells.toArray → (execOp a.eval o).run Tryz.prog u = .ok (.value (.agg (hcells b.h b.q b.c))) u) := Lib.hid (fun o a u ho ha => exec_field_hd ho b ha)
      have HOW : Hid (∀ w, Below wr.heap.size wr w → Calls Tryz.prog 73 #[.agg (hcells b.h b.q b.c)] w fun r w' => ∃ q c, r = .returned (.agg (hcells b.h q c)) ∧ Rw encN 70 w' q c b.h.ps ∧ (∀ a, q = some a → w.heap.size ≤ a.block) ∧ Below w.heap.size w w') := Lib.hid (fun w hb => tsown_any b.h b.q b.c w (HOK.out.rd.old hb) HOK.out.ad HOK.out.n HOK.out.k)
      have HWR : Hid (W.heap.size ≤ wr.heap.size) := Lib.hid HS.out.b.size
      go_upto_region 5 with (first
        | (refine wpList_exec rfl (exec_load_mid (.tmp 17) rfl bs (off + k * 32) rfl b.id HCC.out) ?_; go_frame)
        | (refine wpList_store_row rfl rfl 70 (.tmp 7) (.tmp 18) rfl wr.heap.size rfl 70 _ (vals b.id.1).toArray rfl (heap_alloc_new wr _) HSZ.out.symm HQ3.out HQ4.out ?_))
      refine wp_gen (fun W1 => W1.heap[wr.heap.size]? = some (.cells (vals b.id.1).toArray 70 (0, 0)) ∧ Below wr.heap.size wr W1) (row_new wr _ _ (vals b.id.1).toArray 70 rfl) (fun W1 hW1 => ?_)
      have HRW0 := Lib.hid hW1.1
      have HB1 := Lib.hid hW1.2
      have HCC1r : Hid (∀ w1, Below wr.heap.size wr w1 → w1.cell? ⟨da, 0, none⟩ = some (.map (some X.m1))) := Lib.hid (fun w1 hb => HCC1.out w1 (HS.out.b.trans (hb.mono HS.out.b.size)))
      have HLK : Hid (∀ w1, Below wr.heap.size wr w1 → (Instr.lookup 79 (.map (some X.m1)) (.agg (vals b.id.1).toArray) false).run Tryz.prog w1 = .ok (.agg b.cells.toArray) w1) := Lib.hid (fun w1 hb => HLK0.out w1 (HS.out.b.trans (hb.mono HS.out.b.size)))
      clear hW1
      obtain ⟨g, hg⟩ : ∃ g, g = wr.heap.size := ⟨_, rfl⟩
      rw [← hg]
      have HRW := Lib.hid HRW0.out
      rw [← hg] at HRW
      have HPU : Hid (∀ (D : List Blk) (w1 w' : World) (q' : Option Addr) (c' : Nat) (q2 : Option Addr) (c2 : Nat), D.length = k → Rw encK 72 wr q c D → D.map Blk.is = (L.take k).map Blk.is → (∀ b ∈ D, okW W wr b) → Below wr.heap.size wr w1 → Rw encN 70 w1 q' c' b.h.ps → (∀ a, q' = some a → W.heap.size ≤ a.block) → PushR encK 72 w1 q (D ++ [⟨b.id, b.h, q', c'⟩]) q2 c2 w' → OwR W w' L (k + 1) q2 c2) := Lib.hid (fun D w1 w' q' c' q2 c2 a1 a2 a3 a4 a5 a6 a7 a8 => OwR.push HS.out a1 a2 a3 a4 HNX.out HOK.out a5 a6 a7 a8)
      clear HRW0 hg HCC HQ3 HQ4 HSZ
      have HG0 : Hid ((fun (j : Nat) (x : Value) (w1 : World) => (j ≤ 3 → (Below wr.heap.size wr w1 ∧ w1.heap[g]? = some (.cells (vals b.id.1).toArray 70 (0, 0)))) ∧ (j = 1 → ∃ q' c', x = .agg (hcells b.h q' c') ∧ Rw encN 70 w1 q' c' b.h.ps ∧ ∀ a, q' = some a → W.heap.size ≤ a.block) ∧ (j = 2 → ∃ q' c', x = .agg (⟨b.id, b.h, q', c'⟩ : Blk).cells.toArray ∧ Rw encN 70 w1 q' c' b.h.ps ∧ ∀ a, q' = some a → W.heap.size ≤ a.block) ∧ (j = 3 → ∃ q' c', (∃ p, x = .slice (some ⟨p, 0, none⟩) 1 1 ∧ Rd encK w1 (some ⟨p, 0, none⟩) [(⟨b.id, b.h, q', c'⟩ : Blk)]) ∧ Rw encN 70 w1 q' c' b.h.ps ∧ ∀ a, q' = some a → W.heap.size ≤ a.block) ∧ (j = 4 → ∃ q2 c2, x = .slice q2 (k + 1) c2 ∧ OwR W w1 L (k + 1) q2 c2) ∧ (j = 5 → ∃ q2 c2, x = .slice q2 (k + 1) c2 ∧ OwR W w1 L (k + 1) q2 c2)) 0 undef W1.drew) := Lib.hid ⟨fun _ => ⟨HB1.out.trans (((Below.refl _ W1).drew).mono HB1.out.size), HRW.out⟩, (fun h => absurd h (by omega)), (fun h => absurd h (by omega)), (fun h => absurd h (by omega)), (fun h => absurd h (by omega)), (fun h => absurd h (by omega))⟩
      refine wp_region_chain2 (fun t v => match t with
        | 19 => v = .slice q k c
        | 20 => v = .agg (vals b.id.1).toArray
        | 21 => v = .pointer (some ⟨da, 0, none⟩)
        | 22 => v = .pointer (some ⟨da, 0, none⟩)
        | 23 => v = .pointer (some ⟨da, 0, none⟩)
        | 24 => v = .map (some X.m1)
        | 25 => v = .agg (vals b.id.1).toArray
        | 26 => v = .agg b.cells.toArray
        | 27 => v = .agg (hcells b.h b.q b.c)
        | _ => True) (fun (j : Nat) (x : Value) (w1 : World) => (j ≤ 3 → (Below wr.heap.size wr w1 ∧ w1.heap[g]? = some (.cells (vals b.id.1).toArray 70 (0, 0)))) ∧ (j = 1 → ∃ q' c', x = .agg (hcells b.h q' c') ∧ Rw encN 70 w1 q' c' b.h.ps ∧ ∀ a, q' = some a → W.heap.size ≤ a.block) ∧ (j = 2 → ∃ q' c', x = .agg (⟨b.id, b.h, q', c'⟩ : Blk).cells.toArray ∧ Rw encN 70 w1 q' c' b.h.ps ∧ ∀ a, q' = some a → W.heap.size ≤ a.block) ∧ (j = 3 → ∃ q' c', (∃ p, x = .slice (some ⟨p, 0, none⟩) 1 1 ∧ Rd encK w1 (some ⟨p, 0, none⟩) [(⟨b.id, b.h, q', c'⟩ : Blk)]) ∧ Rw encN 70 w1 q' c' b.h.ps ∧ ∀ a, q' = some a → W.heap.size ≤ a.block) ∧ (j = 4 → ∃ q2 c2, x = .slice q2 (k + 1) c2 ∧ OwR W w1 L (k + 1) q2 c2) ∧ (j = 5 → ∃ q2 c2, x = .slice q2 (k + 1) c2 ∧ OwR W w1 L (k + 1) q2 c2)) [9, 10, 11, 12, 13] 34 (by kernel_rfl) (by decide +kernel) rfl (by decide +kernel) (by decide) (by decide) HG0.out (by
        refine OweAllC.cons (owesC_val 3 (by decide +kernel) (by decide) rfl rfl fun k' a w1 x hk ha hG hV => ?_) ?_
        · skip
          have h5 := ha.kp 4 13 _ 5 (by omega) rfl rfl rfl
          simp only [Act.eval] at h5
          exact ⟨.slice q k c, wanted_free rfl, by simp [execOp, go_sem, h5], rfl⟩
        refine OweAllC.cons (owesC_val 1 (by decide +kernel) (by decide) rfl rfl fun k' a w1 x hk ha hG hV => ?_) ?_
        · skip
          have h7 := ha.outer 7 (by decide +kernel)
          simp only [Act.eval] at h7
          obtain ⟨hbw, hrow⟩ := hG.1 (by omega)
          exact ⟨.agg (vals b.id.1).toArray, wanted_free rfl, exec_load_mid (.tmp 7) rfl g 0 h7 b.id (fun i u hu => by rw [cell_of_row _ g (0 + i) _ _ _ hrow, Nat.zero_add, List.getElem?_toArray]; exact hu), rfl⟩
        refine OweAllC.cons (owesC_val 0 (by decide +kernel) (by decide) rfl rfl fun k' a w1 x hk ha hG hV => ?_) ?_
        · skip
          have h0 := ha.outer 0 (by decide +kernel)
          simp only [Act.eval] at h0
          exact ⟨.pointer (some ⟨da, 0, none⟩), wanted_free rfl, by simp [execOp, go_sem, h0], rfl⟩
        refine OweAllC.cons (owesC_val 0 (by decide +kernel) (by decide) rfl rfl fun k' a w1 x hk ha hG hV => ?_) ?_
        · skip
          have h21 : a.tmps.getD 21 undef = .pointer (some ⟨da, 0, none⟩) := hV.get 21 (by decide +kernel)
          exact ⟨.pointer (some ⟨da, 0, none⟩), wanted_free rfl, by simp [execOp, go_sem, h21], rfl⟩
        refine OweAllC.cons (owesC_val 0 (by decide +kernel) (by decide) rfl rfl fun k' a w1 x hk ha hG hV => ?_) ?_
        · skip
          have h22 : a.tmps.getD 22 undef = .pointer (some ⟨da, 0, none⟩) := hV.get 22 (by decide +kernel)
          exact ⟨.pointer (some ⟨da, 0, none⟩), wanted_free rfl, by simp [execOp, go_sem, h22], rfl⟩
        refine OweAllC.cons (owesC_val 0 (by decide +kernel) (by decide) rfl rfl fun k' a w1 x hk ha hG hV => ?_) ?_
        · skip
          have h23 : a.tmps.getD 23 undef = .pointer (some ⟨da, 0, none⟩) := hV.get 23 (by decide +kernel)
          obtain ⟨hbw, hrow⟩ := hG.1 (by omega)
          have cc : w1.cell? ⟨da, 0, none⟩ = some (.map (some X.m1)) := HCC1r.out w1 hbw
          exact ⟨.map (some X.m1), wanted_free rfl, by simp [execOp, go_sem, h23, cc], rfl⟩
        refine OweAllC.cons (owesC_val 0 (by decide +kernel) (by decide) rfl rfl fun k' a w1 x hk ha hG hV => ?_) ?_
        · skip
          have h7 := ha.outer 7 (by decide +kernel)
          simp only [Act.eval] at h7
          obtain ⟨hbw, hrow⟩ := hG.1 (by omega)
          exact ⟨.agg (vals b.id.1).toArray, wanted_free rfl, exec_load_mid (.tmp 7) rfl g 0 h7 b.id (fun i u hu => by rw [cell_of_row _ g (0 + i) _ _ _ hrow, Nat.zero_add, List.getElem?_toArray]; exact hu), rfl⟩
        refine OweAllC.cons (owesC_val 0 (by decide +kernel) (by decide) rfl rfl fun k' a w1 x hk ha hG hV => ?_) ?_
        · skip
          have h24 : a.tmps.getD 24 undef = .map (some X.m1) := hV.get 24 (by decide +kernel)
          have h25 : a.tmps.getD 25 undef = .agg (vals b.id.1).toArray := hV.get 25 (by decide +kernel)
          obtain ⟨hbw, hrow⟩ := hG.1 (by omega)
          have hlk := HLK.out w1 hbw
          exact ⟨.agg b.cells.toArray, wanted_free rfl, by simp [execOp, go_sem, h24, h25, hlk], rfl⟩
        refine OweAllC.cons (owesC_val 0 (by decide +kernel) (by decide) rfl rfl fun k' a w1 x hk ha hG hV => ?_) ?_
        · skip
          have h26 : a.tmps.getD 26 undef = .agg b.cells.toArray := hV.get 26 (by decide +kernel)
          exact ⟨.agg (hcells b.h b.q b.c), wanted_free rfl, HFD.out _ _ _ rfl h26, rfl⟩
        refine OweAllC.cons (owesC_call 0 rfl rfl rfl 73 fun a w1 x ha hG hx hV => ?_) ?_
        · skip
          have h27 : a.tmps.getD 27 undef = .agg (hcells b.h b.q b.c) := hV.get 27 (by decide +kernel)
          refine ⟨#[.agg (hcells b.h b.q b.c)], wanted_free rfl, by simp [execOp, resolve, invoke, go_sem, h27], ?_⟩
          obtain ⟨hbw, hrow⟩ := hG.1 (by omega)
          refine (HOW.out w1 hbw).mono ?_
          rintro r u2 ⟨q', c', rfl, hR, hq, hb⟩
          exact ⟨_, rfl, trivial, (fun _ => ⟨hbw.trans (hb.mono hbw.size), (hb.block _ (Array.getElem?_eq_some_iff.1 hrow).1).trans hrow⟩), (fun _ => ⟨q', c', rfl, hR, fun a e => Nat.le_trans (Nat.le_trans HWR.out hbw.size) (hq a e)⟩), (fun h => absurd h (by omega)), (fun h => absurd h (by omega)), (fun h => absurd h (by omega)), (fun h => absurd h (by omega))⟩
        refine OweAllC.cons (owesC_mem 1 rfl rfl rfl fun a w1 x ha hG hx hV => ?_) ?_
        · skip
          have h20 : a.tmps.getD 20 undef = .agg (vals b.id.1).toArray := hV.get 20 (by decide +kernel)
          have g20 : a.tmps[20]?.getD undef = .agg (vals b.id.1).toArray := by simpa using h20
          have h28 := hx 0 9 _ 28 rfl rfl rfl rfl
          obtain ⟨hbw, hrow⟩ := hG.1 (by omega)
          obtain ⟨q', c', rfl, hR, hq⟩ := hG.2.1 rfl
          exact ⟨_, w1, wanted_free rfl, build_blk (.tmp 20) (.tmp 28) rfl (⟨b.id, b.h, q', c'⟩ : Blk) h20 h28, trivial, (fun _ => ⟨hbw, hrow⟩), (fun h => absurd h (by omega)), (fun _ => ⟨q', c', rfl, hR, hq⟩), (fun h => absurd h (by omega)), (fun h => absurd h (by omega)), (fun h => absurd h (by omega))⟩
        refine OweAllC.cons (owesC_mem 2 rfl rfl rfl fun a w1 x ha hG hx hV => ?_) ?_
        · skip
          have h29 := hx 1 10 _ 29 rfl rfl rfl rfl
          obtain ⟨hbw, hrow⟩ := hG.1 (by omega)
          obtain ⟨q', c', rfl, hR, hq⟩ := hG.2.2.1 rfl
          have hb : Below w1.heap.size w1 (w1.alloc (.cells (⟨b.id, b.h, q', c'⟩ : Blk).cells.toArray 72)) := (Below.refl _ _).alloc (Nat.le_refl _) _
          have hr : Rd encK (w1.alloc (.cells (⟨b.id, b.h, q', c'⟩ : Blk).cells.toArray 72)) (some ⟨w1.heap.size, 0, none⟩) [(⟨b.id, b.h, q', c'⟩ : Blk)] := by have := Rd.made encK w1 72 [(⟨b.id, b.h, q', c'⟩ : Blk)] (by simp [maxLen]); rw [enc_oneK] at this; exact this
          exact ⟨_, _, wanted_free rfl, build_blks (.tmp 29) rfl (⟨b.id, b.h, q', c'⟩ : Blk) h29, trivial, (fun _ => ⟨hbw.trans (hb.mono hbw.size), (hb.block _ (Array.getElem?_eq_some_iff.1 hrow).1).trans hrow⟩), (fun h => absurd h (by omega)), (fun h => absurd h (by omega)), (fun _ => ⟨q', c', ⟨_, rfl, hr⟩, hR.old hb, hq⟩), (fun h => absurd h (by omega)), (fun h => absurd h (by omega))⟩
        refine OweAllC.cons (owesC_law 3 rfl rfl fun a w1 x ha hG hx hV => ?_) ?_
        · skip
          have h19 : a.tmps.getD 19 undef = .slice q k c := hV.get 19 (by decide +kernel)
          have h30 := hx 2 11 _ 30 rfl rfl rfl rfl
          obtain ⟨hbw, hrow⟩ := hG.1 (by omega)
          obtain ⟨q', c', ⟨p, rfl, hr⟩, hR, hq⟩ := hG.2.2.2.1 rfl
          obtain ⟨D, hDl, hRw, hDi, hDo⟩ := HS.out.ex
          obtain ⟨z, hz1, hz2, hz3⟩ := info_blk
          refine ⟨wanted_free rfl, fun K hK => ?_⟩
          refine wp_pushR1 encK (.tmp 19) (.tmp 30) 50 72 z _ rfl Tryz.underlying50 hz1 hz2 hz3 q c k D hDl h19 (hRw.old hbw) (some ⟨p, 0, none⟩) 1 (⟨b.id, b.h, q', c'⟩ : Blk) h30 hr (by omega) ?_
          intro q2 c2 w' hP
          exact hK _ _ (fun t ht => by cases ht; trivial) ⟨(fun h => absurd h (by omega)), (fun h => absurd h (by omega)), (fun h => absurd h (by omega)), (fun h => absurd h (by omega)), (fun _ => ⟨q2, c2, rfl, HPU.out D w1 w' q' c' q2 c2 hDl hRw hDi hDo hbw hR hq hP⟩), (fun h => absurd h (by omega))⟩
        refine OweAllC.cons (owesC_mem 4 rfl rfl rfl fun a w1 x ha hG hx hV => ?_) ?_
        · skip
          have h31 := hx 3 12 _ 31 rfl rfl rfl rfl
          simp only [Act.eval] at h31
          obtain ⟨q2, c2, rfl, hO⟩ := hG.2.2.2.2.1 rfl
          exact ⟨_, w1, wanted_free rfl, by simp [execOp, go_sem, h31], trivial, (fun h => absurd h (by omega)), (fun h => absurd h (by omega)), (fun h => absurd h (by omega)), (fun h => absurd h (by omega)), (fun h => absurd h (by omega)), (fun _ => ⟨q2, c2, rfl, hO⟩)⟩
        exact OweAllC.nil
        ) ?_
      intro f wz xz hG hx hv
      have e5 : f 5 = xz := hx 4 13 _ 5 rfl rfl rfl rfl
      first | (rename_i hK; refine hK _ _ ?_; clear hK) | (rename_i hK _; refine hK _ _ ?_; clear hK) | (rename_i hK _ _; refine hK _ _ ?_; clear hK) | (rename_i hK _ _ _; refine hK _ _ ?_; clear hK)
      clear hv hx
      simp only [dsts, puts, List.filterMap_cons, List.filterMap_nil, List.foldl_cons, List.foldl_nil, Act.put, List.setIfInBounds_toArray, List.set_cons_succ, List.set_cons_zero, e5]
      clear e5
      obtain ⟨q2, c2, rfl, hO⟩ := hG.2.2.2.2.2 rfl
      have HO := Lib.hid hO
      clear hG HG0 hO
      go_wp2_with fail
      go_roundw
      case rel => exact ⟨k + 1, q2, c2, by omega, rfl, by go_num, HO⟩
      case measure => simp [intOf]; omega
    · obtain rfl : k = n := by omega
      have hlt' : ¬ (k : Int) < k := by omega
      clear hlt
      go_wp2_with fail
      exact HF.out q c _ HS.out
end
end Go.Proofs.YtemnebbdaljfbaaGreatDoor

namespace Go.Proofs.YtemnebbdaljfbaaGreatDoor
open Go.RowKit

section
variable {S R : Nat → Prop} {w : World} {da : Nat} {X : DD}
/-- Is there no block of that name? -/
def noK (X : DD) (n : Nm) : Bool := !hasE n (kE X.K)
/-- What IndexFunc tells. -/
def IdxP (X : DD) (L : List Nm) (e : Int) : Prop :=
  (e = -1 ∧ ∀ n ∈ L, noK X n = true) ∨ ∃ i, ∃ h : i < L.length, e = (i : Int) ∧ noK X L[i] = false ∧ ∀ n ∈ L.take i, noK X n = true
set_option maxRecDepth 20000 in
set_option maxHeartbeats 4000000 in
theorem indexN_any (h : DG S R w da X) (q : Option Addr) (c : Nat) (L : List Nm) (hL : Rd encN w q L) (hn : L.length ≤ 1000000) :
    Calls Tryz.prog 96 #[.slice q L.length c, .func (.func 33) #[.pointer (some ⟨da, 0, none⟩)] #[]] w fun r w' => ∃ e, r = .returned (.int .i64 e) ∧ IdxP X L e ∧ Below w.heap.size w w' := by
  obtain ⟨F, hF⟩ : ∃ F : Ending → World → Prop, F = fun r w' => ∃ e, r = .returned (.int .i64 e) ∧ IdxP X L e ∧ Below w.heap.size w w' := ⟨_, rfl⟩
  rw [← hF]
  have HF := Lib.hid hF
  have HL := Lib.hid hL
  have HDG := Lib.hid h
  obtain ⟨n, hnn⟩ : ∃ n, n = L.length := ⟨_, rfl⟩
  have HN := Lib.hid hnn
  rw [← hnn] at hn ⊢
  clear hF hL h hnn
  go_enter Tryz.func96, Tryz.ntmps96
  go_wp2_with fail
  go_loopw [8] (fun s8 wr => ∃ k : Nat, k ≤ n ∧ s8 = .int .i64 (k : Int) ∧ Hid (Below w.heap.size w wr ∧ ∀ x ∈ L.take k, noK X x = true)) (fun s8 _ => n - (intOf s8).toNat)
  case atStart => exact ⟨0, Nat.zero_le _, rfl, Lib.hid ⟨Below.refl _ _, fun x hx => by simp at hx⟩⟩
  case round =>
    obtain ⟨k, hk, rfl, HS⟩ := hrel
    have k0 : (0 : Int) ≤ k := by omega
    by_cases hlt : k < n
    · have hlt' : (k : Int) < n := by omega
      have hkl : k < L.length := by have := HN.out; omega
      obtain ⟨bs, off, rfl, hbs, hc⟩ := (HL.out.old HS.out.1) k hkl
      obtain ⟨y, hy⟩ : ∃ y, y = L[k] := ⟨_, rfl⟩
      have HTK : Hid (L.take (k + 1) = L.take k ++ [y]) := Lib.hid (by rw [List.take_succ_eq_append_getElem hkl, hy])
      have HYL : Hid (∃ h : k < L.length, L[k] = y) := Lib.hid ⟨hkl, hy.symm⟩
      rw [← hy] at hc
      have HCC : Hid (∀ i u, (encN.f y)[i]? = some u → wr.cell? ⟨bs, off + k * 32 + i, none⟩ = some u) := Lib.hid hc
      obtain ⟨b, hb⟩ : ∃ b, b = hasE y (kE X.K) := ⟨_, rfl⟩
      have HH := Lib.hid (dghas_any (HDG.out.old HS.out.1) y)
      rw [← hb] at HH
      have HNB : Hid (noK X y = !b) := Lib.hid (by rw [hb]; rfl)
      clear hy hc hbs hkl hb
      go_wp2_with (refine wpList_exec rfl (exec_load_mid (.tmp 14) rfl bs (off + k * 32) rfl y HCC.out) ?_; go_frame)
      refine HH.out.mono ?_
      rintro r w2 ⟨rfl, hb2⟩
      have HB2 := Lib.hid (HS.out.1.trans (hb2.mono HS.out.1.size))
      clear hb2 HH HCC
      cases b with
      | true =>
        go_wp2_with fail
        rw [HF.out]
        obtain ⟨h1, h2⟩ := HYL.out
        exact ⟨k, rfl, .inr ⟨k, h1, rfl, by rw [h2]; exact HNB.out, HS.out.2⟩, HB2.out⟩
      | false =>
        have HS2 : Hid (Below w.heap.size w w2 ∧ ∀ x ∈ L.take (k + 1), noK X x = true) := Lib.hid ⟨HB2.out, fun x hx => by
          rw [HTK.out, List.mem_append, List.mem_singleton] at hx
          rcases hx with hx | rfl
          · exact HS.out.2 x hx
          · exact HNB.out⟩
        go_wp2_with fail
        go_roundw
        case rel => exact ⟨k + 1, by omega, by go_num, HS2⟩
        case measure => simp [intOf]; omega
    · obtain rfl : n = k := by omega
      have hlt' : ¬ (n : Int) < n := by omega
      go_wp2_with fail
      rw [HF.out]
      exact ⟨-1, rfl, .inl ⟨rfl, fun x hx => HS.out.2 x (by rw [List.take_of_length_le (by have := HN.out; omega)]; exact hx)⟩, HS.out.1⟩
theorem filter_take {L : List Nm} {p : Nm → Bool} {i : Nat} (hi : i < L.length) (h : ∀ n ∈ L.take i, p n = true) (hn : p L[i] = false) : (L.take (i + 1)).filter p = L.take i := by
  rw [List.take_succ_eq_append_getElem hi, List.filter_append, List.filter_eq_self.2 h]
  simp [hn]
set_option maxRecDepth 20000 in
set_option maxHeartbeats 8000000 in
theorem deleteN_any (h : DG S R w da X) (q : Option Addr) (c : Nat) (L : List Nm) (hL : Rw encN 70 w q c L) (hq : ∀ a, q = some a → ¬ R a.block) (hn : L.length ≤ 1000000) :
    Calls Tryz.prog 63 #[.slice q L.length c, .func (.func 33) #[.pointer (some ⟨da, 0, none⟩)] #[]] w fun r w' => r = .returned (.slice q (L.filter (noK X)).length c) ∧ Rw encN 70 w' q c (L.filter (noK X)) ∧ Mod (fun i => ∃ a, q = some a ∧ i = a.block) w w' := by
  have hidx := indexN_any h q c L hL.rd hn
  have hcap := hL.cap_le
  obtain ⟨n, hnL⟩ : ∃ n, n = L.length := ⟨_, rfl⟩
  have Hn := Lib.hid hnL
  obtain ⟨F, hF⟩ : ∃ F : Ending → World → Prop, F = fun r w' => r = .returned (.slice q (L.filter (noK X)).length c) ∧ Rw encN 70 w' q c (L.filter (noK X)) ∧ Mod (fun i => ∃ a, q = some a ∧ i = a.block) w w' := ⟨_, rfl⟩
  have HF := Lib.hid hF
  rw [← hF]
  have HIX := Lib.hid hidx
  have HL := Lib.hid hL
  have HDG := Lib.hid h
  have HQ := Lib.hid hq
  rw [← hnL] at HIX hn hcap ⊢
  clear hidx hF hL h hq hnL
  go_enter Tryz.func63, Tryz.ntmps63
  go_wp2_with fail
  refine HIX.out.mono ?_
  rintro r w1 ⟨e, rfl, he, hb1⟩
  have HB1 := Lib.hid hb1
  have HL1 := Lib.hid (HL.out.old hb1)
  clear hb1 HIX
  rcases he with ⟨rfl, hall⟩ | ⟨i, hi, rfl, hno, hbef⟩
  · have HE : Hid (L.filter (noK X) = L) := Lib.hid (List.filter_eq_self.2 hall)
    clear hall
    go_wp2_with fail
    rw [HF.out]
    exact ⟨by rw [HE.out, ← Hn.out]; rfl, by rw [HE.out]; exact HL1.out, Mod.of_below HB1.out |>.mono (fun i hi h => absurd hi (by omega))⟩
  · obtain ⟨g, rfl⟩ : ∃ g, q = some ⟨g, 0, none⟩ := by
      rcases HL.out.shape with ⟨_, h0, _⟩ | ⟨g, e, _⟩
      · rw [h0] at hi; simp at hi
      · exact ⟨g, e⟩
    have hin : i < n := by have := Hn.out; omega
    have H0 : Hid ((L.take i).length = i ∧ L.take i = (L.take (i + 1)).filter (noK X)) := Lib.hid ⟨by rw [List.length_take]; omega, (filter_take hi hbef hno).symm⟩
    have H1 : Hid (Rw encN 70 w1 (some ⟨g, 0, none⟩) c (L.take i ++ L.drop (L.take i).length) ∧ Mod (fun k => k = g) w w1) := Lib.hid ⟨by rw [H0.out.1, List.take_append_drop]; exact HL1.out, (Mod.of_below HB1.out).mono (fun k hk h => absurd hk (by omega))⟩
    have e1 : IntKind.i64.wrap ((i : Int) + 1) = (i : Int) + 1 := IntWalk.i64_in _ (by omega)
    have e2 : ((i : Int) == -1) = false := by simp
    have e3 : ¬ (i : Int) = -1 := by omega
    clear hno hbef hi
    go_wp2_with fail
    go_loopw [5, 6] (fun s5 s6 wr => ∃ (j m : Nat) (C : List Nm), j ≤ n ∧ s6 = .int .i64 (j : Int) ∧ s5 = .int .i64 (m : Int) ∧ m < j ∧ Hid (C.length = m ∧ C = (L.take j).filter (noK X)) ∧ Hid (Rw encN 70 wr (some ⟨g, 0, none⟩) c (C ++ L.drop C.length) ∧ Mod (fun k => k = g) w wr)) (fun _ s6 _ => n - (intOf s6).toNat)
    case atStart => exact ⟨i + 1, i, L.take i, by omega, by go_num, rfl, by omega, Lib.hid ⟨H0.out.1, H0.out.2⟩, H1⟩
    case round =>
      clear H0 H1 HL1 HB1
      obtain ⟨j, m, C, hj, rfl, rfl, hmj, HC, HB⟩ := hrel
      have j0 : (0 : Int) ≤ j := by omega
      have m0 : (0 : Int) ≤ m := by omega
      have Hcn : Hid (C.length ≤ L.length) := Lib.hid (by rw [HC.out.1, ← Hn.out]; omega)
      by_cases hlt : j < n
      · have hlt' : (j : Int) < n := by omega
        have hmn' : (m : Int) < n := by omega
        have jl : j < L.length := by have := Hn.out; omega
        have hml := mid_len Hcn.out
        have c1 := HB.out.1.at j (by rw [hml]; exact jl) (j * 32) rfl
        rw [mid_get j (by rw [HC.out.1]; omega) jl] at c1
        obtain ⟨y, hy⟩ : ∃ y, y = L[j] := ⟨_, rfl⟩
        rw [← hy] at c1
        have C1 := Lib.hid c1
        have HTK : Hid ((L.take (j + 1)).filter (noK X) = C ++ if noK X y then [y] else []) := Lib.hid (by rw [List.take_succ_eq_append_getElem jl, List.filter_append, HC.out.2, hy]; congr 1; cases hp : noK X L[j] <;> simp [hp])
        obtain ⟨b, hb⟩ : ∃ b, b = hasE y (kE X.K) := ⟨_, rfl⟩
        have HNB : Hid (noK X y = !b) := Lib.hid (by rw [hb]; rfl)
        have hdgr : DG S R wr da X := HDG.out.kept HB.out.2 (fun k hk hr => HQ.out _ rfl (hk ▸ hr))
        have HH : Hid (∀ u, Below wr.heap.size wr u → Calls Tryz.prog 33 #[.pointer (some ⟨da, 0, none⟩), .agg (vals y.1).toArray] u fun r w' => r = .returned (.bool b) ∧ Below u.heap.size u w') := Lib.hid (fun u hu => by rw [hb]; exact dghas_any (hdgr.old hu) y)
        have HGL : Hid (g < wr.heap.size) := Lib.hid HB.out.1.lt
        have HSZ : Hid ((vals y.1).toArray.size = 32) := Lib.hid (id_size y.2)
        have HIN : Hid ((Tryz.prog.info? 70).map (·.size) = some (vals y.1).toArray.size) := Lib.hid (id_info y.2)
        have HON : Hid (∀ v ∈ (vals y.1).toArray.toList, v.oneCell' = true) := Lib.hid (id_one y.1)
        clear hy c1 hml jl hb hdgr
        go_upto_region 8 with (first
          | (refine wpList_exec rfl (exec_load_mid (.tmp 24) rfl g (j * 32) rfl y C1.out) ?_; go_frame)
          | (refine wpList_store_row rfl rfl 70 (.tmp 7) (.tmp 25) rfl wr.heap.size rfl 70 _ (vals y.1).toArray rfl (heap_alloc_new wr _) HSZ.out.symm HIN.out HON.out ?_))
        refine wp_gen (fun W5 => W5.heap[wr.heap.size]? = some (.cells (vals y.1).toArray 70 (0, 0)) ∧ Below wr.heap.size wr W5) (row_new wr _ _ (vals y.1).toArray 70 rfl) (fun W5 hW5 => ?_)
        obtain ⟨hr5, hb5⟩ := hW5
        obtain ⟨g7, hg7⟩ : ∃ g7, g7 = wr.heap.size := ⟨_, rfl⟩
        rw [← hg7] at hr5
        rw [← hg7]
        have HR5 := Lib.hid hr5
        have HB5 := Lib.hid hb5
        clear hr5 hb5 hg7
        go_upto_region 8 with fail
        go_upto_region 9 with (refine wpList_exec rfl (exec_load_row 70 (.tmp 7) rfl g7 rfl 70 _ (0, 0) _ HR5.out Tryz.underlying70 rfl HIN.out) ?_)
        refine (HH.out W5 HB5.out).mono ?_
        rintro r w6 ⟨rfl, hb6⟩
        have HR6 := Lib.hid ((hb6.block g7 (Array.getElem?_eq_some_iff.1 HR5.out).1).trans HR5.out)
        have hB := HB5.out.trans (hb6.mono HB5.out.size)
        have HG : Hid (Rw encN 70 w6 (some ⟨g, 0, none⟩) c (C ++ L.drop C.length) ∧ Mod (fun k => k = g) w w6) := Lib.hid ⟨HB.out.1.old hB, HB.out.2.trans (Mod.of_below hB) (fun k hk h => by have := HB.out.2.size; omega)⟩
        clear hb6 hB HH HB
        cases b with
        | true =>
          have HC2 : Hid (C.length = m ∧ C = (L.take (j + 1)).filter (noK X)) := Lib.hid ⟨HC.out.1, by rw [HTK.out, HNB.out]; simp⟩
          go_wp2_with fail
          go_roundw
          case rel => exact ⟨j + 1, m, C, by omega, by go_num, rfl, by omega, HC2, HG⟩
          case measure => simp [intOf]; omega
        | false =>
          have hcL : C.length < L.length := by rw [HC.out.1, ← Hn.out]; omega
          obtain ⟨cur, hh, hsz, hrw⟩ := HG.out.1.setAt C.length (by rw [mid_len Hcn.out]; exact hcL) y
          rw [mid_set y hcL] at hrw
          have HGM := HG.out.2.setRow (g := g) (cur.toList.take (C.length * encN.k) ++ encN.f y ++ cur.toList.drop (C.length * encN.k + encN.k)).toArray
          have hof : m * 32 = C.length * 32 := by rw [HC.out.1]
          obtain ⟨W7, hW7⟩ : ∃ W7, W7 = w6.setRow g (cur.toList.take (C.length * encN.k) ++ encN.f y ++ cur.toList.drop (C.length * encN.k + encN.k)).toArray := ⟨_, rfl⟩
          rw [← hW7] at hrw HGM
          have hst : Hid (∀ (oo : Oper) (a : Act), oo.op = .store 70 (.tmp 33) (.tmp 32) → a.eval (.tmp 33) = .pointer (some ⟨g, m * 32, none⟩) → a.eval (.tmp 32) = .agg (vals y.1).toArray → (execOp a.eval oo).run Tryz.prog w6 = .ok .skip W7) := Lib.hid (fun oo a ho hx hy => by
            rw [hW7]
            have h := exec_store_at (P := Tryz.prog) (w := w6) 70 (.tmp 33) (.tmp 32) ho g (m * 32) hx 70 cur (vals y.1) hy hh (by rw [hof, vals_len, y.2]; exact hsz) (by rw [vals_len, y.2]; kernel_rfl) (vals_one y.1)
            rw [hof, vals_len, y.2] at h
            exact h)
          have HC2 : Hid ((C ++ [y]).length = m + 1 ∧ C ++ [y] = (L.take (j + 1)).filter (noK X)) := Lib.hid ⟨by rw [List.length_append, HC.out.1]; rfl, by rw [HTK.out, HNB.out]; simp⟩
          have HG7 := Lib.hid (And.intro hrw (HGM.mono (T := fun i => i = g) (fun i _ h => h.elim id id)))
          clear hh hsz hrw HGM hof hW7 hcL HG
          go_wp2_with (first
            | (refine wpList_exec rfl (exec_load_row 70 (.tmp 7) rfl g7 rfl 70 _ (0, 0) _ HR6.out Tryz.underlying70 rfl HIN.out) ?_; go_frame)
            | (refine wpList_skip rfl rfl (hst.out _ _ rfl rfl rfl) ?_))
          go_roundw
          case rel => exact ⟨j + 1, m + 1, C ++ [y], by omega, by go_num, by go_num, by omega, HC2, HG7⟩
          case measure => simp [intOf]; omega
      · have hjn : j = n := by omega
        have i4 : ¬ (j : Int) < n := by omega
        have hmn : (C ++ L.drop C.length).length = n := by rw [mid_len Hcn.out, Hn.out]
        have hmn2 : m < n := by omega
        obtain ⟨cur, hh, hrow⟩ : ∃ cur : Array Value, wr.heap[g]? = some (.cells cur 70 (0, 0)) ∧ ∀ Z : List Value, Z.length = (n - m) * 32 → m * 32 + Z.length ≤ cur.size ∧ Rw encN 70 (wr.setRow g (cur.toList.take (m * 32) ++ Z ++ cur.toList.drop (m * 32 + Z.length)).toArray) (some ⟨g, 0, none⟩) c C := by
          obtain ⟨cur, hh, h3, h4, _, _⟩ := HB.out.1.parts
          refine ⟨cur, hh, fun Z hZ => ?_⟩
          obtain ⟨cur', hh', h5, h6⟩ := HB.out.1.clearAt C.length (by rw [hmn, HC.out.1]; omega) Z (by rw [hmn, HC.out.1]; exact hZ)
          obtain rfl : cur' = cur := by rw [hh] at hh'; cases hh'; rfl
          rw [HC.out.1, List.take_left' HC.out.1] at h6
          rw [HC.out.1] at h5
          exact ⟨h5, h6⟩
        have hz : (List.replicate ((n - m) * 32) undef).length = (n - m) * 32 := List.length_replicate
        have hb := (hrow _ hz).1
        rw [hz] at hb
        obtain ⟨Z, hZ, hcl⟩ := clear_names g (m * 32) (n - m) (c - m) wr cur hh (by omega) hb
        obtain ⟨W7, hW7⟩ : ∃ W7, W7 = wr.setRow g (cur.toList.take (m * 32) ++ Z ++ cur.toList.drop (m * 32 + Z.length)).toArray := ⟨_, rfl⟩
        rw [← hW7] at hcl
        have HG7 : Hid (Rw encN 70 W7 (some ⟨g, 0, none⟩) c C ∧ Mod (fun k => k = g) w W7) := Lib.hid ⟨by rw [hW7]; exact (hrow Z hZ).2, by rw [hW7]; exact (HB.out.2.setRow _).mono (fun i _ h => h.elim id id)⟩
        have HE : Hid (C = L.filter (noK X)) := Lib.hid (by have h := HC.out.2; rw [List.take_of_length_le (by rw [hjn, Hn.out]; exact Nat.le_refl _)] at h; exact h)
        have HCM : Hid (C.length = m) := Lib.hid HC.out.1
        have k1 : (m : Int) ≤ n := by omega
        have k2 : (m : Int) ≤ c := by omega
        clear hh hrow hz hb hW7 hZ hmn HB HC
        go_wp2_with fail
        rw [HF.out]
        exact ⟨by rw [← HE.out, HCM.out], by rw [← HE.out]; exact HG7.out.1, HG7.out.2.mono (fun k _ h => ⟨_, rfl, h⟩)⟩
theorem ids_rd {P : List Nm} {q : Option Addr} (h : Rd encN w q P) : P = [] ∨ ∃ b off, q = some ⟨b, off, none⟩ := by
  cases P with
  | nil => exact .inl rfl
  | cons a l => obtain ⟨b, off, e, _⟩ := h 0 (by simp); exact .inr ⟨b, off, e⟩
set_option maxRecDepth 20000 in
set_option maxHeartbeats 4000000 in
/-- Those that aren't there, rising, each once. -/
theorem dgmissing_any (h : DG S R w da X) (ao : Option Addr) (cap : Nat) (P : List Nm) (hP : Rd encN w ao P) (hao : ao = none ∨ ∃ b off, ao = some ⟨b, off, none⟩) (hn : P.length ≤ 1000000) :
    Calls Tryz.prog 27 #[.pointer (some ⟨da, 0, none⟩), .slice ao P.length cap] w fun r w' => ∃ q c, r = .returned (.slice q (kset (P.filter (noK X))).length c) ∧ Rw encN 70 w' q c (kset (P.filter (noK X))) ∧ Below w.heap.size w w' := by
  obtain ⟨F, hF⟩ : ∃ F : Ending → World → Prop, F = fun r w' => ∃ q c, r = .returned (.slice q (kset (P.filter (noK X))).length c) ∧ Rw encN 70 w' q c (kset (P.filter (noK X))) ∧ Below w.heap.size w w' := ⟨_, rfl⟩
  have HF : Hid (∀ q c w', Rw encN 70 w' q c (kset (P.filter (noK X))) → Below w.heap.size w w' → F (.returned (.slice q (kset (P.filter (noK X))).length c)) w') := Lib.hid (fun q c w' h1 h2 => by rw [hF]; exact ⟨q, c, rfl, h1, h2⟩)
  rw [← hF]
  have HCL := Lib.hid (cloneN_any ao cap P w hP hao hn)
  have HDEL : Hid (∀ (u : World) (q : Option Addr) (c : Nat), Below w.heap.size w u → Rw encN 70 u q c P → (∀ a, q = some a → w.heap.size ≤ a.block) → Calls Tryz.prog 63 #[.slice q P.length c, .func (.func 33) #[.pointer (some ⟨da, 0, none⟩)] #[]] u fun r w' => r = .returned (.slice q (P.filter (noK X)).length c) ∧ Rw encN 70 w' q c (P.filter (noK X)) ∧ Mod (fun i => ∃ a, q = some a ∧ i = a.block) u w') := Lib.hid (fun u q c hb hr hq => deleteN_any (h.old hb) q c P hr (fun a e hR => by have := hq a e; have := h.rl _ hR; omega) hn)
  obtain ⟨M, hM⟩ : ∃ M, M = P.filter (noK X) := ⟨_, rfl⟩
  have hMl : M.length ≤ 1000000 := by rw [hM]; exact Nat.le_trans (List.length_filter_le _ _) hn
  have HSO : Hid (∀ (u : World) (q : Option Addr) (c : Nat), Rw encN 70 u q c M → Calls Tryz.prog 65 #[.slice q M.length c, .func (.func 66) #[] #[]] u fun r w' => r = .returned (.tuple #[]) ∧ Rw encN 70 w' q c (ksort M) ∧ Mod (fun i => ∃ a, q = some a ∧ i = a.block) u w') := Lib.hid (fun u q c hr => dgsort_any q c M u hr hMl)
  have HCO : Hid (∀ (u : World) (q : Option Addr) (c : Nat), Rw encN 70 u q c (ksort M) → Calls Tryz.prog 67 #[.slice q M.length c] u fun r w' => r = .returned (.slice q (kset M).length c) ∧ Rw encN 70 w' q c (kset M) ∧ Mod (fun i => ∃ a, q = some a ∧ i = a.block) u w') := Lib.hid (fun u q c hr => by
    have h := compactN_any q c (ksort M) u hr (by rw [ksort_len]; exact hMl)
    rw [ksort_len] at h
    have e : kset M = cpt (ksort M) M.length := by unfold kset; rw [ksort_len]
    rw [e]; exact h)
  rw [← hM] at HF HDEL
  obtain ⟨n, hn2⟩ : ∃ n, n = P.length := ⟨_, rfl⟩
  obtain ⟨m, hm2⟩ : ∃ m, m = M.length := ⟨_, rfl⟩
  obtain ⟨k, hk2⟩ : ∃ k, k = (kset M).length := ⟨_, rfl⟩
  rw [← hn2] at HCL HDEL
  rw [← hm2] at HDEL HSO HCO
  rw [← hk2] at HCO HF
  rw [← hn2]
  have hmf : ∀ (fn : Fn) (first cap : Array Value) (w : World), (Instr.makeFunc fn first cap).run Tryz.prog w = .ok (.func fn first cap) w := fun _ _ _ _ => rfl
  clear h hP hao hn hF hM hMl hn2 hm2 hk2
  go_enter Tryz.func27, Tryz.ntmps27
  go_wp2_with fail
  refine HCL.out.mono ?_
  rintro r w1 ⟨q, c, rfl, hr1, hq1, hb1⟩
  have HQ := Lib.hid hq1
  have HB1 := Lib.hid hb1
  have HD1 := Lib.hid (HDEL.out w1 q c hb1 hr1 hq1)
  clear hr1 hq1 hb1 HCL HDEL
  go_wp2_with fail
  refine HD1.out.mono ?_
  rintro r w2 ⟨rfl, hr2, hm2⟩
  have HB2 := Lib.hid (HB1.out.trans (hm2.to_below HB1.out.size (by rintro i hi ⟨a, e, rfl⟩; have := HQ.out a e; omega)))
  have HS2 := Lib.hid (HSO.out w2 q c hr2)
  clear hr2 hm2 HD1 HSO
  go_wp2_with fail
  refine HS2.out.mono ?_
  rintro r w3 ⟨rfl, hr3, hm3⟩
  have HB3 := Lib.hid (HB2.out.trans (hm3.to_below HB2.out.size (by rintro i hi ⟨a, e, rfl⟩; have := HQ.out a e; omega)))
  have HC3 := Lib.hid (HCO.out w3 q c hr3)
  clear hr3 hm3 HS2 HCO
  go_wp2_with fail
  refine HC3.out.mono ?_
  rintro r w4 ⟨rfl, hr4, hm4⟩
  have HB4 := Lib.hid (HB3.out.trans (hm4.to_below HB3.out.size (by rintro i hi ⟨a, e, rfl⟩; have := HQ.out a e; omega)))
  have HR4 := Lib.hid hr4
  clear hr4 hm4 HC3
  go_wp2_with fail
  exact HF.out q c _ HR4.out HB4.out
end
end Go.Proofs.YtemnebbdaljfbaaGreatDoor

namespace Go.Proofs.YtemnebbdaljfbaaGreatDoor
open Go.RowKit Go.Shelf Go.Maps
attribute [local go_sem] Oper.semAt_some

theorem keysF_henc {w : World} {b : Nat} {L : List (List UInt8 × Value)} (h : MapK Tryz.prog 9 keyS w b L) : ∀ x ∈ L, keyOf Tryz.prog 9 ((fun x : List UInt8 => Value.string ⟨x.toArray⟩) x.1) = some (keyS.lit x.1) := (fun x hx => keyS_of x.1 (by obtain ⟨v, hv⟩ := h.ky x hx; obtain ⟨y, _, e, hl⟩ := Maps.keyOf_str Tryz.underlying9 hv; have e2 : x.1 = y := (by simpa [keyS] using e); rw [e2]; exact hl))
set_option maxRecDepth 100000 in
set_option maxHeartbeats 2000000 in
/-- The iterator: each key once, in some order. -/
theorem mkeysF1_in (F : Fence) (n : Nat) (h10 : F.fn 101) (hro : F.round = none) (hn : 1 ≤ n) (l Bm b : Nat) (L : List (List UInt8 × Value)) (J : List (List UInt8) → World → Prop)
    (hY : ∀ pre x W, J pre W → pre.length < L.length → YieldAt F (n - 1) Tryz.prog l #[(fun x : List UInt8 => Value.string ⟨x.toArray⟩) x] W fun e W' => e = .returned (.bool true) ∧ J (pre ++ [x]) W' ∧ KeepsWalks W W')
    (W : World) (hJ : AbidesFrom W.heap.size J) (hm : W.cell? ⟨Bm, 0, none⟩ = some (.map (some b))) (hown : MapK Tryz.prog 9 keyS W b L) (h0 : J [] W) :
    CallsIn F n Tryz.prog 101 #[.func (.yield l) #[] #[], .pointer (some ⟨Bm, 0, none⟩)] W fun e W' => (∃ v, e = .returned v) ∧ ∃ ss : List (List UInt8), ss.Perm (L.map (·.1)) ∧ J ss W' := by
  have HM := Lib.hid hown
  have HY := Lib.hid hY
  have HJ := Lib.hid hJ
  have H0 := Lib.hid h0
  have HOW := hown.own
  clear hown hY hJ h0
  refine callsIn_of_wp Tryz.func101 rfl h10 ?_ hro
  simp only [Tryz.ntmps101, List.size_toArray, List.length_cons, List.length_nil, Nat.reduceAdd, Nat.reduceSub, Array.replicate_succ, Array.replicate_zero, List.push_toArray, List.append_toArray, List.nil_append, List.cons_append]
  gi_wp2_with (first
    | (gi_at_range; refine wpListIn_range_own _ rfl _ 80 rfl 9 39 keyedS Tryz.underlying80 _ b L.length _ rfl HOW ?_; intro w0 hrg0 hg0 hs0)
    | gi_in)
  first | go_frame | skip
  gi_loopw [3] (fun _ wr => ∃ (left : Lit → Bool) (cnt : Nat) (ss : List (List UInt8)), wr.ranges Tryz.prog 9 RVE b W.heap.size L.length (keyS.d L) left cnt ∧ ss.length + cnt ≤ L.length ∧ Coll keyS L left ss ∧ J ss wr)
    (fun _ wr => wr.rangeLeft b W.heap.size)
  case atStart =>
    exact ⟨_, _, [], hrg0, by rw [size_dE]; simp, Coll.start keyS L, HJ.out [] W w0 none H0.out hg0 (fun r e => by cases e)⟩
  case round =>
    obtain ⟨left, cnt, ss, hrg, hcs, hC, hJs⟩ := hrel
    gi_wp2_with (first
      | (gi_at_next; refine wpListIn_next_ranges _ rfl _ rfl 9 keyedS RVE (fun v : Value => v) (fun v : Value => v) (fun key kl _ => ⟨key, rfl⟩) (fun v _ _ => ⟨v, rfl⟩) b W.heap.size L.length _ _ _ rfl hrg ?_ ?_)
      | gi_in)
    · -- nothing is left
      intro hc0 hl0
      gi_wp2
      go_end0
      exact ⟨⟨_, rfl⟩, ss, hC.perm HM.out.ap hl0, hJs⟩
    · -- an entry has come
      intro key c kl yd yp w2 cnt2 hkey hlk hv hv2 hat hrg2 hlt hg2 hs2 hen
      obtain ⟨x, hx, rfl, rfl⟩ := HM.out.key_of keyedS (enc := (fun x : List UInt8 => Value.string ⟨x.toArray⟩)) (keysF_henc HM.out) hkey hat
      have hJ2 : J ss w2 := HJ.out ss wr w2 (some W.heap.size) hJs hg2 (fun r e => by cases e; exact ⟨Nat.le_refl _, hrg.iter_walk⟩)
      obtain ⟨fn, tmps, assign, body, hy, hR⟩ := HY.out ss x w2 hJ2 (by omega)
      clear hs2
      gi_wp2
      refine hR.mono ?_
      rintro e W3 ⟨rfl, hJ3, hk3⟩
      gi_wp2
      have hrg3 := hrg2.of_walks hk3
      go_roundw
      case rel => exact ⟨_, cnt2, ss ++ [x], hrg3, by simp; omega, hC.step hlk hx, hJ3⟩
      case measure => rw [hrg3.left_eq, hrg.left_eq]; exact hlt
theorem mkeysF_gives (F : Fence) (n : Nat) (h10 : F.fn 101) (hro : F.round = none) (hn : 1 ≤ n) (Bm b : Nat) (L : List (List UInt8 × Value)) (w : World) (hBm : Bm < w.heap.size) (hm : w.cell? ⟨Bm, 0, none⟩ = some (.map (some b))) (hown : MapK Tryz.prog 9 keyS w b L) :
    SeqGives F n Tryz.prog 101 #[.pointer (some ⟨Bm, 0, none⟩)] (fun x : List UInt8 => Value.string ⟨x.toArray⟩) (fun ss => ss.Perm (L.map (·.1))) L.length w := fun l J W hW hJ hY h0 =>
  mkeysF1_in F n h10 hro hn l Bm b L J hY W hJ ((hW.cell (p := ⟨Bm, 0, none⟩) hBm).trans hm) (hown.old hW) h0
/-- maps.Keys. -/
theorem mkeysF_any (mb : Option Nat) (w : World) :
    Calls Tryz.prog 71 #[.map mb] w fun e w' => e = .returned (.func (.func 101) #[] #[.pointer (some ⟨w.heap.size, 0, none⟩)]) ∧ w' = w.alloc (.cells #[.map mb] 80) := by
  have hmf : ∀ (fn : Fn) (first cap : Array Value) (w : World), (Instr.makeFunc fn first cap).run Tryz.prog w = .ok (.func fn first cap) w := fun _ _ _ _ => rfl
  go_enter Tryz.func71, Tryz.ntmps71
  go_wp2_with fail
  go_ret
  exact ⟨rfl, rfl⟩
section
variable (w : World)
/-- The memory of AppendSeq. -/
structure GatF (w : World) (ss : List (List UInt8)) (q : Option Addr) (cq : Nat) (W : World) : Prop where
  s : Rw encS 9 W q cq ss
  new : ∀ a, q = some a → w.heap.size + 1 ≤ a.block
  bx : W.heap[w.heap.size]? = some (.cells #[.slice q ss.length cq] 27 (0, 0))
  m : Below w.heap.size w W
  hB : w.heap.size + 1 ≤ W.heap.size
def GatFI (w : World) (ss : List (List UInt8)) (W : World) : Prop := ∃ q cq, GatF w ss q cq W
variable {w}
theorem GatF.step {ss : List (List UInt8)} {q : Option Addr} {cq : Nat} {W W' : World} {S : Nat → Prop} (h : GatF w ss q cq W) (hm : Mod S W W') (hS : ∀ i, S i → w.heap.size + 1 ≤ i) (hq : ∀ a, q = some a → ¬ S a.block) : GatF w ss q cq W' :=
  ⟨h.s.kept hm hq, h.new, (hm.block _ (by have := h.hB; omega) (fun hs => by have := hS _ hs; omega)).trans h.bx,
    h.m.trans (hm.to_below h.m.size (fun i hi hs => by have := hS _ hs; omega)), Nat.le_trans h.hB hm.size⟩
theorem GatFI.own : OwnFrom (w.heap.size + 1) (GatFI w) := by
  rintro k W W' row ⟨q, cq, h⟩ hg hr
  have hm : Mod (fun i => row = some i) W W' := (Mod.refl _ _).grown hg (fun k e _ => e)
  refine ⟨q, cq, h.step hm (fun i e => (hr i e).1) (fun a e hs => ?_)⟩
  subst e
  obtain ⟨o, ho, hc⟩ := (hr _ hs).2
  rcases h.s.shape with ⟨e, _⟩ | ⟨g, e, _, _, _, cur, hh, _⟩
  · cases e
  · cases e
    rw [show (⟨g, 0, none⟩ : Addr).block = g from rfl, hh] at ho
    cases ho; cases hc
theorem GatF.next {ss : List (List UInt8)} {x : List UInt8} {q : Option Addr} {cq : Nat} {W W1 W5 : World} (h : GatF w ss q cq W) (hb : Below W.heap.size W W1)
    {q2 : Option Addr} {cq2 : Nat} (hP : PushR encS 9 W1 q (ss ++ [x]) q2 cq2 W5) :
    KeepsFrom (w.heap.size + 1) W (W5.setCell ⟨w.heap.size, 0, none⟩ (.slice q2 (ss.length + 1) cq2)) ∧ KeepsWalks W (W5.setCell ⟨w.heap.size, 0, none⟩ (.slice q2 (ss.length + 1) cq2)) ∧ GatFI w (ss ++ [x]) (W5.setCell ⟨w.heap.size, 0, none⟩ (.slice q2 (ss.length + 1) cq2)) := by
  obtain ⟨hS, hm, hor⟩ := hP
  have hnew : ∀ a, q2 = some a → w.heap.size + 1 ≤ a.block := by
    intro a e
    rcases hor a e with e | e
    · exact h.new _ e
    · have := h.hB; have := hb.size; omega
  have hm0 : Mod (fun i => ∃ a, q = some a ∧ i = a.block) W W5 := ((Mod.of_below hb).mono (T := fun i => ∃ a, q = some a ∧ i = a.block) (fun i hi h => absurd hi (by omega))).trans hm (fun _ _ h => h)
  have hm2 : Mod (fun i => (∃ a, q = some a ∧ i = a.block) ∨ i = w.heap.size) W (W5.setCell ⟨w.heap.size, 0, none⟩ (.slice q2 (ss.length + 1) cq2)) :=
    Mod.setCell (S := fun i => (∃ a, q = some a ∧ i = a.block) ∨ i = w.heap.size) (p := ⟨w.heap.size, 0, none⟩) (hm0.mono (fun i _ hs => Or.inl hs)) (fun _ => Or.inr rfl) _
  have hBp : ∀ i, (∃ a, q = some a ∧ i = a.block) → w.heap.size + 1 ≤ i := by rintro i ⟨a, e, rfl⟩; exact h.new a e
  have hbx5 : W5.heap[w.heap.size]? = some (.cells #[.slice q ss.length cq] 27 (0, 0)) := (hm0.block _ (by have := h.hB; omega) (fun hs => by have := hBp _ hs; omega)).trans h.bx
  have hnc : ∀ j o, W.heap[j]? = some o → ((∃ a, q = some a ∧ j = a.block) ∨ j = w.heap.size) → ∃ cs T fr, o = .cells cs T fr := by
    rintro j o hk (⟨a, e, rfl⟩ | rfl)
    · subst e
      rcases h.s.shape with ⟨e, _⟩ | ⟨g', e, _, _, _, cur, hh, _⟩
      · cases e
      · cases e
        rw [show (⟨g', 0, none⟩ : Addr).block = g' from rfl, hh] at hk
        cases hk; exact ⟨_, _, _, rfl⟩
    · rw [h.bx] at hk; cases hk; exact ⟨_, _, _, rfl⟩
  refine ⟨⟨hm2.size, fun j o hj hk hc => ?_⟩, ⟨hm2.size, fun j o hk hc => ?_⟩, q2, cq2, ⟨?_, hnew, ?_, ?_, Nat.le_trans h.hB hm2.size⟩⟩
  · refine (hm2.block j (Array.getElem?_eq_some_iff.1 hk).1 (fun hs => ?_)).trans hk
    obtain ⟨cs, T, fr, rfl⟩ := hnc j o hk hs
    cases hc
  · refine (hm2.block j (Array.getElem?_eq_some_iff.1 hk).1 (fun hs => ?_)).trans hk
    obtain ⟨cs, T, fr, rfl⟩ := hnc j o hk hs
    cases hc
  · refine hS.kept (S := fun i => i = w.heap.size) ((Mod.refl (fun i => i = w.heap.size) W5).setCell (fun _ => rfl) _) (fun a e hs => by have := hnew a e; omega)
  · rw [heap_setCell_same W5 w.heap.size 0 _ 27 (.slice q2 (ss.length + 1) cq2) hbx5, List.length_append]; rfl
  · exact h.m.trans (hm2.to_below h.m.size (by rintro i hi (hs | hs)
                                               · have := hBp _ hs; omega
                                               · omega))
end
set_option maxRecDepth 100000 in
set_option maxHeartbeats 8000000 in
/-- slices.AppendSeq against whatever iterator. -/
theorem appseqF_any (w : World) (gf : Nat) (lb : Array Value) (eg : ∀ args w, (callFunc gf args).run Tryz.prog w = .ok (.enter gf args) w) (S : List (List UInt8) → Prop) (N : Nat) (hN : N ≤ 1000000) (hseq : SeqGives Fence.wide (3 - 1) Tryz.prog gf lb (fun x : List UInt8 => Value.string ⟨x.toArray⟩) S N w) :
    Calls Tryz.prog 133 #[.slice none 0 0, .func (.func gf) #[] lb] w fun e w' => ∃ q cq ss, e = .returned (.slice q ss.length cq) ∧ S ss ∧ Rw encS 9 w' q cq ss ∧ (∀ a, q = some a → w.heap.size ≤ a.block) ∧ Below w.heap.size w w' := by
  obtain ⟨W0, hW0⟩ : ∃ W0, W0 = w.alloc (.cells #[.slice none 0 0] 27) := ⟨_, rfl⟩
  have hs0 : W0.heap.size = w.heap.size + 1 := by rw [hW0]; simp
  have hB0 : Below w.heap.size w W0 := by rw [hW0]; exact (Below.refl _ _).alloc (Nat.le_refl _) _
  have h0 : GatFI w [] W0 := ⟨none, 0, Rw.empty _ _, (fun a e => by cases e), by rw [hW0]; exact heap_alloc_new _ _, hB0, by omega⟩
  obtain ⟨vs, hvs⟩ : ∃ vs : Value, vs = .func (.func gf) #[] lb := ⟨_, rfl⟩
  refine (callsIn_wide (n := 3)).1 ?_
  refine callsIn_of_wp_marks Tryz.func133 rfl trivial ?_ rfl
  simp only [Tryz.ntmps133, List.size_toArray, List.length_cons, List.length_nil, Nat.reduceAdd, Nat.reduceSub, Array.replicate_succ, Array.replicate_zero, List.push_toArray, List.append_toArray, List.nil_append, List.cons_append]
  gi_wp2_with fail
  rw [← hW0]
  clear hW0
  have hI : OwnFrom W0.heap.size (GatFI w) := by rw [hs0]; exact GatFI.own
  refine wpIn_gives (F := Fence.wide) rfl (by decide) (gf := gf) (lb := lb) rfl trivial eg hseq hB0 rfl (GatFI w) hI h0 (fun x a W => a = { tmps := #[.slice none 0 0, .func (.func gf) #[] lb, .pointer (some ⟨w.heap.size, 0, none⟩), undef, .slice none 0 0, Value.string ⟨x.toArray⟩, .func (.func gf) #[] lb, Value.string ⟨x.toArray⟩, undef, undef, undef, undef, undef], defers := [] }) ?hB ?assign ?body ?done
  case hB => intro a x W W' row h _ _; exact h
  case assign =>
    intro l pre x W K hI1 hsz hK
    have HK := Lib.hid hK
    have HI := Lib.hid hI1
    obtain ⟨y, hy⟩ : ∃ y : Value, y = Value.string ⟨x.toArray⟩ := ⟨_, rfl⟩
    rw [← hy] at HK ⊢
    rw [← hvs] at HK ⊢
    clear hy hvs hI1 hK h0 hI
    gi_wp2
    exact HK.out _ _ HI.out rfl (KeepsFrom.refl _ _) (KeepsWalks.refl _)
  case body =>
    rintro l pre x b W ⟨q, cq, h⟩ rfl hk
    have c1 : W.cell? ⟨w.heap.size, 0, none⟩ = some (.slice q pre.length cq) := by unfold World.cell?; rw [h.bx]; rfl
    have hb1 : Below W.heap.size W (W.alloc (.cells (encS.f x).toArray 9)) := (Below.refl _ _).alloc (Nat.le_refl _) _
    have Hend : Hid (∀ q2 cq2 W5, PushR encS 9 (W.alloc (.cells (encS.f x).toArray 9)) q (pre ++ [x]) q2 cq2 W5 → roundGo (w.heap.size + 1) (GatFI w) pre x W .normal { tmps := #[], defers := [] } (W5.setCell ⟨w.heap.size, 0, none⟩ (.slice q2 (pre.length + 1) cq2))) := Lib.hid (by
      intro q2 cq2 W5 hP
      exact h.next hb1 hP)
    have HS1 := Lib.hid (h.s.old hb1)
    have HY : Hid (Rd encS (W.alloc (.cells (encS.f x).toArray 9)) (some ⟨W.heap.size, 0, none⟩) [x]) := Lib.hid (by have := Rd.made encS W 9 [x] (by simp [maxLen]); rw [show encS.all [x] = encS.f x by simp [Enc.all]] at this; exact this)
    have hk9 : pre.length ≤ 1000000 := by omega
    have HBX : Hid (∀ q2 cq2 W5, PushR encS 9 (W.alloc (.cells (encS.f x).toArray 9)) q (pre ++ [x]) q2 cq2 W5 → W5.heap[w.heap.size]? = some (.cells #[.slice q pre.length cq] 27 (0, 0))) := Lib.hid (by
      intro q2 cq2 W5 hP
      have h1 := (hb1.block w.heap.size (by have := h.hB; omega)).trans h.bx
      refine (hP.2.1.block w.heap.size (by have := h.hB; have := hb1.size; omega) ?_).trans h1
      rintro ⟨a, e, h2⟩
      have := h.new a e; omega)
    obtain ⟨m, hm⟩ : ∃ m, m = pre.length := ⟨_, rfl⟩
    have HM : Hid (pre.length = m) := Lib.hid hm.symm
    obtain ⟨XC, hXC⟩ : ∃ XC : Array Value, XC = (encS.f x).toArray := ⟨_, rfl⟩
    obtain ⟨y, hy⟩ : ∃ y : Value, y = Value.string ⟨x.toArray⟩ := ⟨_, rfl⟩
    have HYC : Hid (y.cells = (encS.f x).toArray) := Lib.hid (by rw [hy]; rfl)
    have HXC := Lib.hid hXC
    have HYV := Lib.hid hy
    have HBD : Hid (∀ (o : Oper) (a : Act) (xx : Operand), o.op = .buildSlice 27 1 #[(0, xx)] → a.eval xx = y → (execOp a.eval o).run Tryz.prog W = .ok (.value (.slice (some ⟨W.heap.size, 0, none⟩) 1 1)) (W.alloc (.cells XC 9))) := Lib.hid (fun o a xx ho hx => by have hb := build_elem (P := Tryz.prog) (w := W) encS 27 9 (.string ⟨#[]⟩) 16 Tryz.underlying27 (by kernel_rfl) (by decide) xx ho x y HYC.out hx; rw [← HXC.out] at hb; exact hb)
    rw [← hm, ← hXC] at Hend HBX
    rw [← hXC] at HS1 HY
    rw [hs0]
    rw [← hy]
    rw [← hvs]
    rw [← hm] at hk9 c1
    have hE : ∀ (q2 : Option Addr) (cq2 : Nat) (W5 : World) (a : Act), PushR encS 9 (W.alloc (.cells XC 9)) q (pre ++ [x]) q2 cq2 W5 → roundGo (w.heap.size + 1) (GatFI w) pre x W .normal a (W5.setCell ⟨w.heap.size, 0, none⟩ (.slice q2 (m + 1) cq2)) := fun q2 cq2 W5 a hP => Hend.out q2 cq2 W5 hP
    have HE := Lib.hid hE
    clear hb1 h hk hI h0 hy hm hXC hE Hend
    gi_wp2_with (first
      | (refine wpListIn_exec rfl (fun c hc => by cases hc) (by simp [Oper.about]) (HBD.out _ _ (.tmp 9) rfl rfl) ?_; go_frame)
      | (gi_at_builtin; (refine wpListIn_pushE encS rfl _ _ 27 9 (.string ⟨#[]⟩) 16 rfl Tryz.underlying27 (by kernel_rfl) rfl (by decide) q cq m pre HM.out rfl HS1.out (some ⟨W.heap.size, 0, none⟩) 1 1 [x] rfl (by decide) rfl HY.out (by omega) ?_; intro q2 cq2 W5 hP; have b5 := HBX.out q2 cq2 W5 hP; have c5 : W5.cell? ⟨w.heap.size, 0, none⟩ = some (.slice q m cq) := (by unfold World.cell?; rw [b5]; rfl); have f5 := frozen_of_row W5 w.heap.size 0 _ 27 b5; have HP := Lib.hid hP; clear hP b5)))
    exact HE.out _ _ _ _ HP.out
  case done =>
    rintro D xs W hD hS ⟨q, cq, h⟩ hK
    have c1 : W.cell? ⟨w.heap.size, 0, none⟩ = some (.slice q xs.length cq) := by unfold World.cell?; rw [h.bx]; rfl
    have HH := Lib.hid h
    have HSS := Lib.hid hS
    have HSE := Lib.hid hseq
    rw [← hvs]
    clear h h0 hI hS hseq
    gi_wp2
    refine ⟨by simp, .inl ⟨_, _, rfl, run_takeDeferred hK, ?_⟩⟩
    have hmD : Mod (fun i => W0.heap.size ≤ i) W (W.putObj D (.deferred none)) := (Mod.refl _ _).grown (grownBy_putObj' _ D _) (fun k e _ => by cases e; exact hD)
    refine ⟨_, results_tmp rfl _ _ _, q, cq, xs, rfl, HSS.out, ?_, fun a e => ?_, ?_⟩
    · refine HH.out.s.kept (S := fun i => i = D) ((Mod.refl _ _).grown (grownBy_putObj' _ D _) (fun k e _ => by cases e; rfl)) (fun a e h2 => ?_)
      rcases HH.out.s.shape with ⟨e', _⟩ | ⟨g', e', _, _, _, cur, hh, _⟩
      · rw [e] at e'; cases e'
      · rw [e] at e'; cases e'
        rw [show (⟨g', 0, none⟩ : Addr).block = g' from rfl] at h2
        subst h2
        rw [hK] at hh; cases hh
    · have := HH.out.new a e; omega
    · exact HH.out.m.trans (hmD.to_below HH.out.m.size (fun i hi h2 => by omega))
theorem collectF_any (w : World) (gf : Nat) (lb : Array Value) (eg : ∀ args w, (callFunc gf args).run Tryz.prog w = .ok (.enter gf args) w) (S : List (List UInt8) → Prop) (N : Nat) (hN : N ≤ 1000000) (hseq : SeqGives Fence.wide (3 - 1) Tryz.prog gf lb (fun x : List UInt8 => Value.string ⟨x.toArray⟩) S N w) :
    Calls Tryz.prog 99 #[.func (.func gf) #[] lb] w fun e w' => ∃ q cq ss, e = .returned (.slice q ss.length cq) ∧ S ss ∧ Rw encS 9 w' q cq ss ∧ (∀ a, q = some a → w.heap.size ≤ a.block) ∧ Below w.heap.size w w' := by
  have H := Lib.hid (appseqF_any w gf lb eg S N hN hseq)
  clear hseq
  go_enter Tryz.func99, Tryz.ntmps99
  go_wp2_with fail
  refine H.out.mono ?_
  rintro e w1 ⟨q, cq, ss, rfl, hr⟩
  have HR := Lib.hid hr
  clear hr H
  go_wp2_with fail
  go_ret
  exact ⟨q, cq, ss, rfl, HR.out⟩
end Go.Proofs.YtemnebbdaljfbaaGreatDoor

namespace Go.Proofs.YtemnebbdaljfbaaGreatDoor
open Go.RowKit Go.Sort

theorem leq_total (a b : List UInt8) : (decide (a ≤ b) || decide (b ≤ a)) = true := by
  by_cases h : a ≤ b
  · simp [h]
  · simp [List.le_of_lt (List.not_le.1 h)]
theorem Rw.holdsS {T : TypeId} {w : World} {g c : Nat} {L : List (List UInt8)} (h : Rw encS T w (some ⟨g, 0, none⟩) c L) : Go.Sort.Holds encStr w g 0 L.toArray := by
  rcases h.shape with ⟨e, _⟩ | ⟨g', e, hl, h1, h2, cur, hh, h3, h4⟩
  · cases e
  simp only [Option.some.injEq, Addr.mk.injEq] at e
  obtain ⟨rfl, _⟩ := e
  intro j hj
  have hj2 : j < L.length := by simpa using hj
  refine ⟨?_, frozen_of_row w g _ _ T hh⟩
  rw [cell_of_row w g _ _ T (0, 0) hh, Nat.zero_add, ← Array.getElem?_toList]
  have e2 : (cur.toList.take (L.length * encS.k))[j]? = some (encStr L[j]) := by rw [h4, encS_all]; simp [hj2, encStr]
  rw [List.getElem?_take_of_lt (by simp [encS]; omega)] at e2
  rw [e2]
  simp [hj2]
theorem Rw.sortedS {T : TypeId} {w : World} {g c : Nat} {L : List (List UInt8)} (h : Rw encS T w (some ⟨g, 0, none⟩) c L) (d : List (List UInt8)) (hd : d.length = L.length) (m : Nat) (os : Array Obj) :
    Rw encS T (grow (putRow encStr (Sort.ahead w m) g 0 d.toArray) os) (some ⟨g, 0, none⟩) c d ∧ Mod (fun i => i = g) w (grow (putRow encStr (Sort.ahead w m) g 0 d.toArray) os) := by
  rcases h.shape with ⟨e, _⟩ | ⟨g', e, hl, h1, h2, cur, hh, h3, h4⟩
  · cases e
  simp only [Option.some.injEq, Addr.mk.injEq] at e
  obtain ⟨rfl, _⟩ := e
  have eh : (grow (putRow encStr (Sort.ahead w m) g 0 d.toArray) os).heap = (w.heap.modify g (onCells (putCells encStr 0 d.toArray))) ++ os := rfl
  have hk : ∀ k, k < w.heap.size → (grow (putRow encStr (Sort.ahead w m) g 0 d.toArray) os).heap[k]? = if g = k then some (.cells (putCells encStr 0 d.toArray cur) T (0, 0)) else w.heap[k]? := by
    intro k hk
    rw [eh, Array.getElem?_append_left (by rw [Array.size_modify]; exact hk), Array.getElem?_modify]
    by_cases e1 : g = k
    · subst e1; rw [if_pos rfl, if_pos rfl, hh]; rfl
    · rw [if_neg e1, if_neg e1]
  have hsz : w.heap.size ≤ (grow (putRow encStr (Sort.ahead w m) g 0 d.toArray) os).heap.size := by
    rw [eh, Array.size_append, Array.size_modify]; omega
  refine ⟨Rw.of_row (by rw [hk g hl, if_pos rfl]) (by rw [hd]; exact h1) h2 (by rw [← h3]; simp [putCells]) ?_, rfl, rfl, rfl, hsz, fun k hk1 hn => by rw [hk k hk1, if_neg (fun e => hn e.symm)]⟩
  rw [encS_all]
  have hcl : L.length ≤ cur.size := by rw [h3]; simpa [encS] using h1
  apply List.ext_getElem?
  intro t
  by_cases ht : t < d.length
  · rw [List.getElem?_take_of_lt (by simpa [encS] using ht), Array.getElem?_toList]
    have htc : t < cur.size := by omega
    simp [putCells, htc, ht, encStr]
  · rw [List.getElem?_eq_none (by rw [List.length_take]; exact Nat.le_trans (Nat.min_le_left _ _) (by simpa [encS] using ht)), List.getElem?_eq_none (by simpa using ht)]
/-- slices.Sort at texts. -/
theorem nsort_any {w : World} {q : Option Addr} {c : Nat} {ks : List (List UInt8)} (h : Rw encS 9 w q c ks) (hn : ks.length ≤ 1000000) :
    Calls Tryz.prog 100 #[.slice q ks.length c] w fun e w' => e = .returned (.tuple #[]) ∧ Rw encS 9 w' q c (ks.mergeSort fun x y => decide (x ≤ y)) ∧ Mod (fun i => ∃ a, q = some a ∧ i = a.block) w w' := by
  have h2 := h
  rcases h.shape with ⟨rfl, rfl, rfl⟩ | ⟨g, rfl, hl, h1, _⟩
  · refine (Tryz.slices_Sort_string_none none 0 w).mono ?_
    rintro r w' ⟨rfl, rfl⟩
    exact ⟨rfl, by simpa using h2, Mod.refl _ _⟩
  · refine (Tryz.slices_Sort_string g 0 c ks w h2.holdsS hl (by omega)).mono ?_
    rintro r w' ⟨rfl, n, os, rfl⟩
    obtain ⟨h3, h4⟩ := h2.sortedS (ks.mergeSort fun x y => decide (x ≤ y)) (List.length_mergeSort ks) n os
    exact ⟨rfl, h3, h4.mono (fun i _ e => ⟨_, rfl, e⟩)⟩
end Go.Proofs.YtemnebbdaljfbaaGreatDoor

namespace Go.Proofs.YtemnebbdaljfbaaGreatDoor
open Go.RowKit

/-- A cell that is stored as it is. -/
theorem mod_same {w : World} {g i : Nat} {cur : Array Value} {T : TypeId} {v : Value} (hh : w.heap[g]? = some (.cells cur T (0, 0))) (hc : cur[i]? = some v) : Mod (fun _ => False) w (w.setCell ⟨g, i, none⟩ v) := by
  have hm := (Mod.refl (fun i => i = g) w).setCell (p := ⟨g, i, none⟩) (fun _ => rfl) v
  refine ⟨hm.os, hm.tape, hm.output, hm.size, fun k hk _ => ?_⟩
  by_cases e : k = g
  · subst e
    rw [heap_setCell_same w k i cur T v hh, hh]
    congr 2
    apply Array.ext'
    obtain ⟨hl, he⟩ := Array.getElem?_eq_some_iff.1 hc
    apply List.ext_getElem?
    intro j
    simp only [Array.toList_setIfInBounds, List.getElem?_set]
    by_cases ej : i = j
    · subst ej; simp [hl, he]
    · simp [ej]
  · exact hm.block k hk e
set_option maxRecDepth 20000 in
set_option maxHeartbeats 4000000 in
theorem sortedS_any (w : World) (Bm b : Nat) (L : List (List UInt8 × Value)) (hm : w.cell? ⟨Bm, 0, none⟩ = some (.map (some b))) (hBm : Bm < w.heap.size) (hown : MapK Tryz.prog 9 keyS w b L) (hn : L.length ≤ 1000000) :
    Calls Tryz.prog 70 #[.func (.func 101) #[] #[.pointer (some ⟨Bm, 0, none⟩)]] w fun e w' => ∃ q cq, e = .returned (.slice q L.length cq) ∧ Rw encS 9 w' q cq ((L.map (·.1)).mergeSort fun x y => decide (x ≤ y)) ∧ (∀ a, q = some a → w.heap.size ≤ a.block) ∧ Below w.heap.size w w' := by
  have HC := Lib.hid (collectF_any w 101 #[.pointer (some ⟨Bm, 0, none⟩)] (enters_of Tryz.func101 (by kernel_rfl) rfl) _ L.length hn (mkeysF_gives Fence.wide (3 - 1) trivial rfl (by decide) Bm b L w hBm hm hown))
  have HN := Lib.hid hn
  clear hm hBm hown hn
  go_enter Tryz.func70, Tryz.ntmps70
  go_wp2_with fail
  refine HC.out.mono ?_
  rintro e w1 ⟨q, cq, ss, rfl, hS, hrw, hnew, hb⟩
  have hlen : ss.length = L.length := by have := hS.length_eq; simpa using this
  have HK : Hid ((ss.mergeSort fun x y => decide (x ≤ y)) = ((L.map (·.1)).mergeSort fun x y => decide (x ≤ y))) := Lib.hid (mergeSort_of_perm hS)
  have HSO := Lib.hid (nsort_any (w := w1) hrw (by rw [hlen]; exact HN.out))
  rw [hlen, HK.out] at HSO
  rw [hlen]
  have HNEW := Lib.hid hnew
  have HB := Lib.hid hb
  obtain ⟨n, hn⟩ : ∃ n, n = L.length := ⟨_, rfl⟩
  rw [← hn] at HSO ⊢
  have HNL := Lib.hid hn
  clear hS hrw hnew hb hlen HC HK hn
  go_wp2_with fail
  refine HSO.out.mono ?_
  rintro r w2 ⟨rfl, hrw2, hm2⟩
  have HR := Lib.hid hrw2
  have HM := Lib.hid (HB.out.trans (hm2.to_below HB.out.size (by rintro i hi ⟨a, e, rfl⟩; have := HNEW.out a e; omega)))
  clear hrw2 hm2 HSO
  go_wp2_with fail
  go_ret
  exact ⟨q, cq, by rw [← HNL.out]; rfl, HR.out, HNEW.out, HM.out⟩
section
variable {S R : Nat → Prop} {w : World} {da : Nat} {X : DD}
theorem fE_ts (F : List Fam) : (fE F).map (·.1) = F.map (·.t) := by unfold fE; rw [List.map_map]; rfl
/-- What the loop of Families keeps. -/
structure FmS (w : World) (q : Option Addr) (c : Nat) (M : List (List UInt8)) (wr : World) : Prop where
  rw : Rw encS 9 wr q c M
  b : Below w.heap.size w wr
set_option maxRecDepth 20000 in
set_option maxHeartbeats 4000000 in
theorem dgfamilies_any (h : DG S R w da X) (ht : ∀ f ∈ X.F, f.t.length ≤ 1000000000) : Calls Tryz.prog 29 #[.pointer (some ⟨da, 0, none⟩)] w fun r w' => ∃ q c, r = .returned (.slice q X.F.length c) ∧ Rw encS 9 w' q c ((X.F.map (·.t)).mergeSort fun x y => decide (x ≤ y)) ∧ (∀ a, q = some a → w.heap.size ≤ a.block) ∧ Below w.heap.size w w' := by
  have cc : w.cell? ⟨da, 1, none⟩ = some (.map (some X.m2)) := cell_of_row _ da 1 _ _ _ h.box
  have HMK := Lib.hid (mkeysF_any (some X.m2) w)
  obtain ⟨w1, hw1⟩ : ∃ w1, w1 = w.alloc (.cells #[.map (some X.m2)] 80) := ⟨_, rfl⟩
  have hb1 : Below w.heap.size w w1 := by rw [hw1]; exact alloc1 _ _
  have HB1 := Lib.hid hb1
  have HSF := Lib.hid (sortedS_any w1 w.heap.size X.m2 (fE X.F) (by rw [hw1]; unfold World.cell?; rw [heap_alloc_new]; rfl) (by rw [hw1]; simp) (h.fm.old hb1) (by rw [fE_len]; exact Nat.le_trans h.fn (Nat.le_trans h.len (by decide))))
  rw [fE_len, fE_ts] at HSF
  obtain ⟨M, hM⟩ : ∃ M, M = (X.F.map (·.t)).mergeSort fun x y => decide (x ≤ y) := ⟨_, rfl⟩
  have HML : Hid (M.length = X.F.length) := Lib.hid (by rw [hM, List.length_mergeSort, List.length_map])
  have HMT : Hid (∀ t ∈ M, t.length ≤ 1000000000) := Lib.hid (fun t htm => by
    rw [hM, (List.mergeSort_perm _ _).mem_iff] at htm
    obtain ⟨f, hf, rfl⟩ := List.mem_map.1 htm
    exact ht f hf)
  rw [← hM] at HSF ⊢
  obtain ⟨k, hk⟩ : ∃ k, k = X.F.length := ⟨_, rfl⟩
  have hk9 : k ≤ 1000000 := by rw [hk]; exact Nat.le_trans h.fn (Nat.le_trans h.len (by decide))
  rw [← hk] at HSF HML ⊢
  rw [← hw1] at HMK
  clear h hk hb1 hw1 hM ht
  go_enter Tryz.func29, Tryz.ntmps29
  go_wp2_with fail
  refine HMK.out.mono ?_
  rintro r w2 ⟨rfl, rfl⟩
  go_wp2_with fail
  refine HSF.out.mono ?_
  rintro r w3 ⟨q, c, rfl, hrw, hnew, hb⟩
  have HN : Hid (∀ a, q = some a → w.heap.size ≤ a.block) := Lib.hid (fun a e => Nat.le_trans HB1.out.size (hnew a e))
  have H0 : Hid (FmS w q c M w3) := Lib.hid ⟨hrw, HB1.out.trans (hb.mono HB1.out.size)⟩
  clear hrw hnew hb HSF HMK
  go_wp2_with fail
  go_loopw [14] (fun s14 wr => ∃ i : Nat, i ≤ k ∧ s14 = .int .i64 (i : Int) ∧ Hid (FmS w q c M wr)) (fun s14 _ => k - (intOf s14).toNat)
  case atStart => exact ⟨0, Nat.zero_le _, rfl, H0⟩
  case round =>
    clear H0
    obtain ⟨i, hik, rfl, HS⟩ := hrel
    have i0 : (0 : Int) ≤ i := by omega
    by_cases hlt : i < k
    · have hlt' : (i : Int) < k := by omega
      have hiM : i < M.length := by have := HML.out; omega
      obtain ⟨t, ht⟩ : ∃ t, t = M[i] := ⟨_, rfl⟩
      obtain ⟨g, rfl⟩ : ∃ g, q = some ⟨g, 0, none⟩ := by
        rcases HS.out.rw.shape with ⟨_, h0, _⟩ | ⟨g, e, _⟩
        · rw [h0] at hiM; simp at hiM
        · exact ⟨g, e⟩
      have HCL := Lib.hid (fun (u : World) => tsclone_any t u (by have := HMT.out t (by rw [ht]; exact List.getElem_mem _); omega))
      have HTL : Hid (t.length ≤ 1000000000) := Lib.hid (HMT.out t (by rw [ht]; exact List.getElem_mem _))
      have hcell : wr.cell? ⟨g, i, none⟩ = some (.string ⟨t.toArray⟩) := by
        obtain ⟨bs, off, e, _, c1⟩ := HS.out.rw.rd.str i hiM
        cases e
        rw [Nat.zero_add] at c1
        rw [c1, ht]
      have HCE := Lib.hid hcell
      clear ht hiM
      go_wp2_with fail
      refine (HCL.out wr).mono ?_
      rintro r w5 ⟨rfl, hb5⟩
      have hrw5 := HS.out.rw.old hb5
      have hB5 := HS.out.b.trans (hb5.mono HS.out.b.size)
      obtain ⟨cur, hh, hcur⟩ : ∃ cur : Array Value, w5.heap[g]? = some (.cells cur 9 (0, 0)) ∧ cur[i]? = some (.string ⟨t.toArray⟩) := by
        rcases hrw5.shape with ⟨e, _⟩ | ⟨g', e, _, _, _, cur, hh, _⟩
        · cases e
        · cases e
          refine ⟨cur, hh, ?_⟩
          have := (hb5.cell (p := ⟨g, i, none⟩) HS.out.rw.lt).trans HCE.out
          rwa [cell_of_row _ g i _ _ _ hh] at this
      have c5 : w5.cell? ⟨g, i, none⟩ = some (.string ⟨t.toArray⟩) := by rw [cell_of_row _ g i _ _ _ hh]; exact hcur
      have f5 : w5.frozen? ⟨g, i, none⟩ = false := frozen_of_row _ g i _ _ hh
      have HM5 := Lib.hid (mod_same hh hcur)
      have HR5 := Lib.hid hrw5
      have HB5 := Lib.hid hB5
      clear hrw5 hB5 hh hcur hb5 hcell HCL
      go_wp2_with fail
      go_roundw
      case rel => exact ⟨i + 1, by omega, by go_num, Lib.hid ⟨HR5.out.kept HM5.out (fun _ _ h => h), HB5.out.trans (HM5.out.to_below HB5.out.size (fun _ _ h => h.elim))⟩⟩
      case measure => simp [intOf]; omega
    · obtain rfl : i = k := by omega
      have hlt' : ¬ (i : Int) < i := by omega
      go_wp2_with fail
      go_ret
      exact ⟨q, c, rfl, HS.out.rw, HN.out, HS.out.b⟩
end
end Go.Proofs.YtemnebbdaljfbaaGreatDoor
