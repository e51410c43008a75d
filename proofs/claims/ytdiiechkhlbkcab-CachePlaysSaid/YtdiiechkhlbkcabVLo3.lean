/- Texts 3: what the laws lean on. -/
import Derived.Test.YtdiiechkhlbkcabVLo2
import Derived.LoopTactic
import Derived.Deep.DeepCutAuto
import Derived.Test.YtdiiechkhlbkcabRows
import Derived.Test.YtdiiechkhlbkcabVLo1
import Derived.WalkKit
import Derived.ProofKit
import Derived.OpenShut
import Derived.SliceStrings
import Derived.Deep.SlicePairs
import Derived.ChangeArms
import Derived.OwnWalk
import Derived.Recover
import Derived.Laws.EntriesVeiled
import Derived.BigQuiet
namespace Go.Proofs.Ytdiiechkhlbkcab
open Go.RowKit Go.Shelf
attribute [local go_sem] Oper.semAt_some

set_option maxRecDepth 100000 in
set_option maxHeartbeats 8000000 in
theorem appseq_any (w : World) (c b r : Nat) (M fd ak : Int) (bs : List Nat) (kf : Nat → List UInt8) (vf : Nat → Int) (nw od : Nat → Nat) (h : CI w c b r M fd ak bs kf vf nw od) (hl : bs.length ≤ 100000) (hkl : ∀ y ∈ bs, (kf y).length ≤ 1000000) :
    Calls Try.prog 27 #[.slice none 0 0, .func (.func 25) #[.pointer (some ⟨c, 0, none⟩)] #[]] w fun e w' => ∃ q cq, e = .returned (.slice q bs.length cq) ∧ Rw encS 9 w' q cq (bs.map kf) ∧ (∀ a, q = some a → w.heap.size ≤ a.block) ∧ Below w.heap.size w w' := by
  have hF : ∀ i ∈ c :: b :: r :: bs, i < w.heap.size := by
    intro i hi
    rcases List.mem_cons.1 hi with rfl | hi
    · exact h.clt
    rcases List.mem_cons.1 hi with rfl | hi
    · exact h.map.lt
    · exact h.ylt hi
  obtain ⟨W0, hW0⟩ : ∃ W0, W0 = w.alloc (.cells #[.slice none 0 0] 39) := ⟨_, rfl⟩
  have hs0 : W0.heap.size = w.heap.size + 1 := by rw [hW0]; simp
  have hB0 : Below w.heap.size w W0 := by rw [hW0]; exact (Below.refl _ _).alloc (Nat.le_refl _) _
  have h0 : ColI w c b r M fd ak bs kf vf nw od 0 W0 := ⟨none, 0, h.old hB0, Nat.zero_le _, by rw [List.take_zero]; exact Rw.empty _ _, (fun a e => by cases e), by rw [hW0]; exact heap_alloc_new _ _, hB0, by omega⟩
  have HF := Lib.hid hF
  have HKL := Lib.hid hkl
  clear hF h hkl hB0
  refine (callsIn_wide (n := 3)).1 ?_
  refine callsIn_of_wp_marks Try.func27 rfl trivial ?_ rfl
  simp only [Try.ntmps27, List.size_toArray, List.length_cons, List.length_nil, Nat.reduceAdd, Nat.reduceSub, Array.replicate_succ, Array.replicate_zero, List.push_toArray, List.append_toArray, List.nil_append, List.cons_append]
  gi_wp2_with fail
  rw [← hW0]
  clear hW0
  have hI : OwnFrom W0.heap.size (ColI w c b r M fd ak bs kf vf nw od) := by rw [hs0]; exact ColI.own HF.out
  refine wpIn_rounds (F := Fence.wide) rfl (by decide) (gf := 25) (fb := #[.pointer (some ⟨c, 0, none⟩)]) (lb := #[]) rfl trivial (enters_of Try.func25 (by kernel_rfl) rfl)
    (each_rounds (3 - 1) c b r M fd ak bs kf vf nw od HKL.out W0) (fun _ => rfl)
    (ColI w c b r M fd ak bs kf vf nw od) (fun _ _ _ => False) ?hR hI (fun _ _ _ _ _ hs _ _ => hs) h0
    (fun k => { tmps := #[.slice none 0 0, .func (.func 25) #[.pointer (some ⟨c, 0, none⟩)] #[], .pointer (some ⟨w.heap.size, 0, none⟩), undef, .slice none 0 0, .string ⟨(kf (nth r bs k)).toArray⟩, .func (.func 25) #[.pointer (some ⟨c, 0, none⟩)] #[], .string ⟨(kf (nth r bs k)).toArray⟩, undef, undef, undef, undef, undef], defers := [] }) ?assign ?body ?done ?stop
  case hR =>
    rintro k W ⟨q, cq, h⟩
    exact h.ci
  case assign =>
    intro l k W K hK
    generalize kf (nth r bs k) = y at hK ⊢
    gi_wp2
    exact hK
  case body =>
    rintro l k W ⟨q, cq, h⟩ hk
    have c1 : W.cell? ⟨w.heap.size, 0, none⟩ = some (.slice q k cq) := by unfold World.cell?; rw [h.bx]; rfl
    obtain ⟨y, hy⟩ : ∃ y, y = kf (nth r bs k) := ⟨_, rfl⟩
    have hb1 : Below W.heap.size W (W.alloc (.cells #[.string ⟨y.toArray⟩] 9)) := (Below.refl _ _).alloc (Nat.le_refl _) _
    have Hend : Hid (∀ q2 cq2 W5, PushR encS 9 (W.alloc (.cells #[.string ⟨y.toArray⟩] 9)) q ((bs.map kf).take k ++ [y]) q2 cq2 W5 → KeepsFrom (w.heap.size + 1) W (W5.setCell ⟨w.heap.size, 0, none⟩ (.slice q2 (k + 1) cq2)) ∧ ColI w c b r M fd ak bs kf vf nw od (k + 1) (W5.setCell ⟨w.heap.size, 0, none⟩ (.slice q2 (k + 1) cq2))) := Lib.hid (by
      intro q2 cq2 W5 hP
      rw [hy] at hP hb1
      exact h.next HF.out hk hb1 hP)
    have HS1 := Lib.hid (h.s.old hb1)
    have HY : Hid (Rd encS (W.alloc (.cells #[.string ⟨y.toArray⟩] 9)) (some ⟨W.heap.size, 0, none⟩) [y]) := Lib.hid (Rd.made encS W 9 [y] (by simp [maxLen]))
    have HL : Hid (((bs.map kf).take k).length = k) := Lib.hid (by rw [List.length_take, List.length_map]; omega)
    have hk9 : k ≤ 100000 := by omega
    have HBX : Hid (∀ q2 cq2 W5, PushR encS 9 (W.alloc (.cells #[.string ⟨y.toArray⟩] 9)) q ((bs.map kf).take k ++ [y]) q2 cq2 W5 → W5.heap[w.heap.size]? = some (.cells #[.slice q k cq] 39 (0, 0))) := Lib.hid (by
      intro q2 cq2 W5 hP
      have h1 := (hb1.block w.heap.size (by have := h.hB; omega)).trans h.bx
      refine (hP.2.1.block w.heap.size (by have := h.hB; have := hb1.size; omega) ?_).trans h1
      rintro ⟨a, e, h2⟩
      have := h.new a e; omega)
    rw [hs0, ← hy]
    clear hb1 h hk hI h0 hy
    gi_wp2_with (gi_at_builtin; (refine wpListIn_pushR encS rfl _ _ 39 9 (.string ⟨#[]⟩) 16 rfl Try.underlying39 (by kernel_rfl) rfl (by decide) q cq k ((bs.map kf).take k) HL.out rfl HS1.out (some ⟨W.heap.size, 0, none⟩) 1 1 [y] rfl (by decide) rfl HY.out (by omega) ?_; intro q2 cq2 W5 hP; have b5 := HBX.out q2 cq2 W5 hP; have c5 : W5.cell? ⟨w.heap.size, 0, none⟩ = some (.slice q k cq) := (by unfold World.cell?; rw [b5]; rfl); have f5 := frozen_of_row W5 w.heap.size 0 _ 39 b5; have HP := Lib.hid hP; clear hP b5))
    exact Hend.out _ _ _ HP.out
  case done =>
    rintro D W hD ⟨q, cq, h⟩ hK
    have c1 : W.cell? ⟨w.heap.size, 0, none⟩ = some (.slice q bs.length cq) := by unfold World.cell?; rw [h.bx]; rfl
    have HH := Lib.hid h
    clear h h0 hI
    gi_wp2
    refine ⟨by simp, .inl ⟨_, _, rfl, run_takeDeferred hK, ?_⟩⟩
    have hmD : Mod (fun i => W0.heap.size ≤ i) W (W.putObj D (.deferred none)) := (Mod.refl _ _).grown (grownBy_putObj' _ D _) (fun k e _ => by cases e; exact hD)
    refine ⟨_, results_tmp rfl _ _ _, q, cq, rfl, ?_, fun a e => ?_, ?_⟩
    · have hs := HH.out.s
      rw [List.take_of_length_le (by rw [List.length_map]; exact Nat.le_refl _)] at hs
      refine hs.kept (S := fun i => i = D) ((Mod.refl _ _).grown (grownBy_putObj' _ D _) (fun k e _ => by cases e; rfl)) (fun a e h2 => ?_)
      rcases HH.out.s.shape with ⟨e', _⟩ | ⟨g', e', _, _, _, cur, hh, _⟩
      · rw [e] at e'; cases e'
      · rw [e] at e'; cases e'
        rw [show (⟨g', 0, none⟩ : Addr).block = g' from rfl] at h2
        subst h2
        rw [hK] at hh; cases hh
    · have := HH.out.new a e; omega
    · exact HH.out.m.trans (hmD.to_below HH.out.m.size (fun i hi h2 => by omega))
  case stop =>
    rintro D c k W _ _ h _
    exact h.elim
end Go.Proofs.Ytdiiechkhlbkcab

namespace Go.Proofs.Ytdiiechkhlbkcab
open Go.RowKit

theorem collect_any (w : World) (c b r : Nat) (M fd ak : Int) (bs : List Nat) (kf : Nat → List UInt8) (vf : Nat → Int) (nw od : Nat → Nat) (h : CI w c b r M fd ak bs kf vf nw od) (hl : bs.length ≤ 100000) (hkl : ∀ y ∈ bs, (kf y).length ≤ 1000000) :
    Calls Try.prog 24 #[.func (.func 25) #[.pointer (some ⟨c, 0, none⟩)] #[]] w fun e w' => ∃ q cq, e = .returned (.slice q bs.length cq) ∧ Rw encS 9 w' q cq (bs.map kf) ∧ (∀ a, q = some a → w.heap.size ≤ a.block) ∧ Below w.heap.size w w' := by
  have H := Lib.hid (appseq_any w c b r M fd ak bs kf vf nw od h hl hkl)
  clear h hl hkl
  go_enter Try.func24, Try.ntmps24
  go_wp2_with fail
  refine H.out.mono ?_
  rintro e w1 ⟨q, cq, rfl, hr⟩
  have HR := Lib.hid hr
  clear hr H
  go_wp2_with fail
  go_ret
  exact ⟨q, cq, rfl, HR.out⟩
theorem ca_keys {w : World} {c : Nat} {M fd ak : Int} {L : List KV} {F : List Nat} (h : CA w c M fd ak L F) (hl : L.length ≤ 100000) (hkl : ∀ x ∈ L, x.1.length ≤ 1000000) :
    Calls Try.prog 15 #[.pointer (some ⟨c, 0, none⟩)] w fun e w' => ∃ q cq, e = .returned (.slice q L.length cq) ∧ Rw encS 9 w' q cq (L.map Prod.fst) ∧ (∀ a, q = some a → w.heap.size ≤ a.block) ∧ Below w.heap.size w w' := by
  obtain ⟨b, r, bs, kf, vf, nw, od, h, rfl, rfl⟩ := h
  rw [List.length_map] at hl
  have e1 : (bs.map (kvOf kf vf)).map Prod.fst = bs.map kf := by rw [List.map_map]; rfl
  rw [e1, List.length_map]
  have H := Lib.hid (collect_any w c b r M fd ak bs kf vf nw od h hl (fun y hy => hkl (kvOf kf vf y) (List.mem_map_of_mem hy)))
  have hmf : ∀ (fn : Fn) (first cap : Array Value) (w : World), (Instr.makeFunc fn first cap).run Try.prog w = .ok (.func fn first cap) w := fun _ _ _ _ => rfl
  clear h hl hkl e1
  go_enter Try.func15, Try.ntmps15
  go_wp2_with fail
  refine H.out.mono ?_
  rintro e w1 ⟨q, cq, rfl, hr⟩
  have HR := Lib.hid hr
  clear hr H
  go_wp2_with fail
  go_ret
  exact ⟨q, cq, rfl, HR.out⟩
end Go.Proofs.Ytdiiechkhlbkcab

namespace Go.Proofs.Ytdiiechkhlbkcab
open Go.RowKit

def encK : Enc KV := ⟨fun x => [.string ⟨x.1.toArray⟩, .int .i64 x.2], 2, fun _ => rfl, fun _ v hv => by simp at hv; rcases hv with rfl | rfl <;> rfl, by decide⟩
theorem Rd.kv {w : World} {ao : Option Addr} {L : List KV} (h : Rd encK w ao L) (j : Nat) (hj : j < L.length) : ∃ bs off, ao = some ⟨bs, off, none⟩ ∧ bs < w.heap.size ∧
    w.cell? ⟨bs, off + j * 2, none⟩ = some (.string ⟨(L[j]).1.toArray⟩) ∧ w.cell? ⟨bs, off + j * 2 + 1, none⟩ = some (.int .i64 (L[j]).2) := by
  obtain ⟨bs, off, e, hlt, hc⟩ := h j hj
  exact ⟨bs, off, e, hlt, hc 0 _ rfl, hc 1 _ rfl⟩
theorem info_pair : (Try.prog.info? 34).map (fun i => (i.zero, i.size, i.bytes)) = some (some (.agg #[.string ⟨#[]⟩, .int .i64 0]), 2, 24) := by kernel_rfl
theorem dropK_succ (k : List UInt8) (L : List KV) (i : Nat) (h : i < L.length) : dropK k (L.take (i + 1)) = dropK k (L.take i) ++ (if L[i].1 = k then [] else [L[i]]) := by
  unfold dropK
  rw [List.take_succ_eq_append_getElem h, List.filter_append]
  by_cases e : L[i].1 = k <;> simp [e]
theorem AccR.oneK {w wr : World} {k : Nat} {D : List KV} {q : Option Addr} {c : Nat} (h : AccR encK 34 w k D q c wr) (y : KV) :
    Rw encK 34 (wr.alloc (.cells #[.string ⟨y.1.toArray⟩, .int .i64 y.2] 34)) q c D ∧ Rd encK (wr.alloc (.cells #[.string ⟨y.1.toArray⟩, .int .i64 y.2] 34)) (some ⟨wr.heap.size, 0, none⟩) [y] ∧
    ∀ q' c' w', PushR encK 34 (wr.alloc (.cells #[.string ⟨y.1.toArray⟩, .int .i64 y.2] 34)) q (D ++ [y]) q' c' w' → AccR encK 34 w (k + 1) (D ++ [y]) q' c' w' := by
  have h2 := h.below ((Below.refl wr.heap.size wr).alloc (Nat.le_refl _) (.cells #[.string ⟨y.1.toArray⟩, .int .i64 y.2] 34))
  exact ⟨h2.s, Rd.made encK wr 34 [y] (by simp [maxLen]), fun q' c' w' hP => h2.push hP⟩

set_option maxRecDepth 20000 in
set_option maxHeartbeats 2000000 in
theorem use_any (ao : Option Addr) (c : Nat) (L : List KV) (most : Nat) (xk : List UInt8) (xv : Int) (w : World) (hL : Rd encK w ao L) (hn : L.length ≤ 100000) (_h1 : 1 ≤ most) (_h2 : most ≤ 100000) :
    Calls Try.prog 10 #[.slice ao L.length c, .int .i64 most, .agg #[.string ⟨xk.toArray⟩, .int .i64 xv]] w fun r w' => ∃ q c', r = .returned (.slice q (((xk, xv) :: dropK xk L).take most).length c') ∧ Rd encK w' q (((xk, xv) :: dropK xk L).take most) ∧ (∀ a, q = some a → w.heap.size ≤ a.block ∧ a.block < w'.heap.size) ∧ Below w.heap.size w w' := by
  obtain ⟨n, hnL⟩ : ∃ n, n = L.length := ⟨_, rfl⟩
  obtain ⟨F, hF⟩ : ∃ F : Ending → World → Prop, F = fun r w' => ∃ q c', r = .returned (.slice q (((xk, xv) :: dropK xk L).take most).length c') ∧ Rd encK w' q (((xk, xv) :: dropK xk L).take most) ∧ (∀ a, q = some a → w.heap.size ≤ a.block ∧ a.block < w'.heap.size) ∧ Below w.heap.size w w' := ⟨_, rfl⟩
  rw [← hF, ← hnL]
  rw [← hnL] at hn
  have HF := Lib.hid hF
  have HN := Lib.hid hnL
  have HL := Lib.hid hL
  have HS : Hid (∀ i (h : i < L.length), dropK xk (L.take (i + 1)) = dropK xk (L.take i) ++ (if L[i].1 = xk then [] else [L[i]])) := Lib.hid (dropK_succ xk L)
  have HE : Hid (dropK xk (L.take n) = dropK xk L) := Lib.hid (by rw [hnL, List.take_length])
  obtain ⟨W0, hW0⟩ : ∃ W0, W0 = w.alloc (.cells #[.string ⟨xk.toArray⟩, .int .i64 xv] 34) := ⟨_, rfl⟩
  have hs0 : W0.heap.size = w.heap.size + 1 := by rw [hW0]; simp
  have hg0 : W0.heap[w.heap.size]? = some (.cells #[.string ⟨xk.toArray⟩, .int .i64 xv] 34 (0, 0)) := by rw [hW0]; exact heap_alloc_new _ _
  have hB0 : Below w.heap.size w W0 := by rw [hW0]; exact (Below.refl _ _).alloc (Nat.le_refl _) _
  have H0 : Hid (AccR encK 34 W0 1 ((xk, xv) :: dropK xk (L.take 0)) (some ⟨W0.heap.size, 0, none⟩) 1 (W0.alloc (.cells #[.string ⟨xk.toArray⟩, .int .i64 xv] 34))) :=
    Lib.hid ⟨Rw.made (E := encK) 34 W0 [(xk, xv)] (by simp [maxLen]), rfl, (fun a e => by cases e; exact Nat.le_refl _), (Below.refl _ _).alloc (Nat.le_refl _) _⟩
  have HG0 := Lib.hid hg0
  have HB0 := Lib.hid hB0
  have HS0 := Lib.hid hs0
  clear hnL hL hF hg0 hB0
  go_enter Try.func10, Try.ntmps10
  go_upto_region 1 with fail
  rw [← hW0]
  clear hW0
  obtain ⟨g5, hg5⟩ : ∃ g5, g5 = w.heap.size := ⟨_, rfl⟩
  rw [← hg5] at hs0 HG0 HS0 ⊢
  have HG5 := Lib.hid hg5
  have k0 : W0.cell? ⟨g5, 0, none⟩ = some (.string ⟨xk.toArray⟩) := by unfold World.cell?; rw [HG0.out]; rfl
  have k1 : W0.cell? ⟨g5, 1, none⟩ = some (.int .i64 xv) := by unfold World.cell?; rw [HG0.out]; rfl
  clear hg5 hs0
  go_upto_region 3 with fail
  clear k0 k1
  go_loopw [7, 9, 14] (fun s7 _ s14 wr => ∃ (i m : Nat) (q : Option Addr) (c' : Nat), i ≤ n ∧ m ≤ i + 1 ∧ s14 = .int .i64 (i : Int) ∧ s7 = .slice q m c' ∧ Hid (AccR encK 34 W0 m ((xk, xv) :: dropK xk (L.take i)) q c' wr)) (fun _ _ i _ => n - (intOf i).toNat)
  case atStart => exact ⟨0, 1, _, _, Nat.zero_le _, Nat.le_refl _, rfl, rfl, H0⟩
  case round =>
    obtain ⟨i, m, q, c', hi, hmi, rfl, rfl, HA⟩ := hrel
    by_cases hin : i < n
    · have hil : i < L.length := by rw [← HN.out]; exact hin
      have hbw : Below w.heap.size w wr := HB0.out.trans (HA.out.m.mono HB0.out.size)
      obtain ⟨bs, off, rfl, hbs, c1, c2⟩ := ((HL.out.old hbw).kv) i hil
      have hnx := HS.out i hil
      obtain ⟨y, hy⟩ : ∃ y, y = L[i] := ⟨_, rfl⟩
      rw [← hy] at c1 c2 hnx
      obtain ⟨yk, yv⟩ := y
      simp only at c1 c2 hnx
      have i1 : (i : Int) < n := by omega
      have i0 : (0 : Int) ≤ i := by omega
      have hba := (Below.refl wr.heap.size wr).alloc (Nat.le_refl _) (.cells #[.string ⟨yk.toArray⟩, .int .i64 yv] 34)
      have HA2 := Lib.hid (HA.out.below hba)
      have HW : Hid ((wr.alloc (.cells #[.string ⟨yk.toArray⟩, .int .i64 yv] 34)).heap.size = wr.heap.size + 1) := Lib.hid (by simp)
      have k5 : (wr.alloc (.cells #[.string ⟨yk.toArray⟩, .int .i64 yv] 34)).cell? ⟨g5, 0, none⟩ = some (.string ⟨xk.toArray⟩) := by
        have hlt : g5 < W0.heap.size := by have := HS0.out; omega
        have e1 := (HA2.out.m.block g5 hlt).trans HG0.out
        unfold World.cell?; rw [e1]; rfl
      have ksz : (Try.prog.info? 34).map (·.size) = some 2 := by kernel_rfl
      clear hba hbw
      by_cases hk : yk = xk
      · subst hk
        rw [if_pos rfl, List.append_nil] at hnx
        have HNX := Lib.hid hnx
        clear hnx hy
        go_wp2_with fail
        go_roundw
        case rel => exact ⟨i + 1, m, q, c', by omega, by omega, by go_num, rfl, by rw [HNX.out]; exact HA2⟩
        case measure => simp [intOf]; omega
      · have hke : (yk == xk) = false := by simpa using hk
        rw [if_neg hk] at hnx
        have HNX := Lib.hid hnx
        obtain ⟨a1, a2, a3⟩ := HA2.out.oneK (yk, yv)
        simp only [World.size_alloc] at a1 a2 a3
        have A1 := Lib.hid a1
        have A2 := Lib.hid a2
        have A3 := Lib.hid a3
        have HLn := Lib.hid HA2.out.len
        have hmb : m + 1 ≤ 100000000000 := by omega
        clear hnx hy hk a1 a2 a3
        go_wp2_with (refine wpList_pushR encK rfl _ _ 26 34 (.agg #[.string ⟨#[]⟩, .int .i64 0]) 24 rfl Try.underlying26 info_pair rfl (by decide) q c' m _ HLn.out rfl A1.out (some ⟨wr.heap.size + 1, 0, none⟩) 1 1 [(yk, yv)] rfl rfl A2.out hmb ?_; intro q9 c9 w9 hP9; have HP9 := Lib.hid (A3.out _ _ _ hP9); clear hP9; go_frame)
        go_roundw
        case rel => exact ⟨i + 1, m + 1, q9, c9, by omega, by omega, by go_num, rfl, by rw [HNX.out]; exact HP9⟩
        case measure => simp [intOf]; omega
    · obtain rfl : i = n := by omega
      have hA9 : AccR encK 34 W0 m ((xk, xv) :: dropK xk L) q c' wr := by rw [← HE.out]; exact HA.out
      obtain ⟨mm, hmm⟩ : ∃ mm : Nat, mm = min m most := ⟨_, rfl⟩
      have e1 : min (m : Int) (most : Int) = (mm : Int) := by omega
      have hcap : m ≤ c' := by have h3 := hA9.s.cap_le; rw [hA9.len] at h3; exact h3
      have m0 : (0 : Int) ≤ mm := by omega
      have m1 : (mm : Int) ≤ c' := by omega
      have hlen := hA9.len
      have hRd := (hA9.s.rd).take most
      have hle : (((xk, xv) :: dropK xk L).take most).length = mm := by rw [List.length_take, hlen, hmm]; exact Nat.min_comm _ _
      have HFF : Hid (F (.returned (.slice q mm c')) wr) := Lib.hid (by rw [HF.out]; exact ⟨q, c', by rw [hle], hRd, fun a e => ⟨Nat.le_trans HB0.out.size (hA9.new a e), (show Rw encK 34 wr (some a) c' ((xk, xv) :: dropK xk L) from e ▸ hA9.s).lt⟩, HB0.out.trans (hA9.m.mono HB0.out.size)⟩)
      clear HA hA9 hlen hRd hle hmm
      go_wp2_with fail
      exact HFF.out
end Go.Proofs.Ytdiiechkhlbkcab

namespace Go.Proofs.Ytdiiechkhlbkcab
open Go.RowKit

theorem Rd.keptF {α : Type} {E : Enc α} {w w' : World} {q : Option Addr} {L : List α} {S : Nat → Prop} (h : Rd E w q L) (hm : Mod S w w') (hq : ∀ a, q = some a → ¬ S a.block) : Rd E w' q L := by
  intro j hj
  obtain ⟨bs, off, e, hlt, hc⟩ := h j hj
  exact ⟨bs, off, e, Nat.lt_of_lt_of_le hlt hm.size, fun i u hu => (World.cell?_of_block (hm.block bs hlt (hq _ e))).trans (hc i u hu)⟩
structure SS (W : World) (c1 c2 : Nat) (fd ak : Int) (L1 L2 D : List KV) (q : Option Addr) (w : World) : Prop where
  ex : ∃ F1 F2, CA w c1 1 0 0 L1 F1 ∧ CA w c2 64 fd ak L2 F2 ∧ (∀ i ∈ F1, i ∉ F2) ∧ (∀ i ∈ F1, W.heap.size ≤ i) ∧ (∀ i ∈ F2, W.heap.size ≤ i) ∧ (∀ a, q = some a → a.block ∉ F1 ∧ a.block ∉ F2 ∧ a.block < w.heap.size)
  rd : Rd encK w q D
  m : Below W.heap.size W w
section
variable {W w w' : World} {c1 c2 : Nat} {fd ak : Int} {L1 L2 D : List KV} {q : Option Addr}
theorem SS.old (h : SS W c1 c2 fd ak L1 L2 D q w) (hb : Below w.heap.size w w') : SS W c1 c2 fd ak L1 L2 D q w' := by
  obtain ⟨F1, F2, h1, h2, h3, h4, h5, h6⟩ := h.ex
  exact ⟨⟨F1, F2, h1.old hb, h2.old hb, h3, h4, h5, fun a e => ⟨(h6 a e).1, (h6 a e).2.1, Nat.lt_of_lt_of_le (h6 a e).2.2 hb.size⟩⟩, h.rd.old hb, h.m.trans (hb.mono h.m.size)⟩
theorem SS.put1 (h : SS W c1 c2 fd ak L1 L2 D q w) (hl : L1.length ≤ 1) (k : List UInt8) (hk : k.length ≤ 1000000) (v : Int) :
    Calls Try.prog 14 #[.pointer (some ⟨c1, 0, none⟩), .string ⟨k.toArray⟩, .int .i64 v] w fun e w' => e = .returned (.tuple #[]) ∧ SS W c1 c2 fd ak [(k, v)] L2 D q w' := by
  obtain ⟨F1, F2, h1, h2, h3, h4, h5, h6⟩ := h.ex
  refine (ca_put h1 k hk v (by omega) (by omega) (by omega)).mono ?_
  rintro e w' ⟨rfl, ⟨F', hC, hs⟩, hm⟩
  have e1 : ((k, v) :: dropK k L1).take (1 : Int).toNat = [(k, v)] := rfl
  rw [e1] at hC
  have hs2 : ∀ i ∈ F', i ∈ F1 ∨ w.heap.size ≤ i := hs
  refine ⟨rfl, ⟨F', F2, hC, h2.kept hm (fun i hi h => h3 i h hi), fun i hi h => ?_, fun i hi => ?_, h5, fun a e => ⟨fun hi => ?_, (h6 a e).2.1, Nat.lt_of_lt_of_le (h6 a e).2.2 hm.size⟩⟩, h.rd.keptF hm (fun a e => (h6 a e).1), h.m.trans (hm.to_below h.m.size (fun i hi h => absurd (h4 i h) (by omega)))⟩
  · rcases hs2 i hi with h' | h'
    · exact h3 i h' h
    · have := h2.lt h; omega
  · rcases hs2 i hi with h' | h'
    · exact h4 i h'
    · exact Nat.le_trans h.m.size h'
  · rcases hs2 _ hi with h' | h'
    · exact (h6 a e).1 h'
    · have := (h6 a e).2.2; omega
theorem SS.put2 (h : SS W c1 c2 fd ak L1 L2 D q w) (hl : L2.length ≤ 64) (k : List UInt8) (hk : k.length ≤ 1000000) (v : Int) :
    Calls Try.prog 14 #[.pointer (some ⟨c2, 0, none⟩), .string ⟨k.toArray⟩, .int .i64 v] w fun e w' => e = .returned (.tuple #[]) ∧ SS W c1 c2 fd ak L1 (((k, v) :: dropK k L2).take 64) D q w' := by
  obtain ⟨F1, F2, h1, h2, h3, h4, h5, h6⟩ := h.ex
  refine (ca_put h2 k hk v (by omega) (by omega) (by omega)).mono ?_
  rintro e w' ⟨rfl, ⟨F', hC, hs⟩, hm⟩
  have e1 : ((64 : Int).toNat) = 64 := rfl
  rw [e1] at hC
  have hs2 : ∀ i ∈ F', i ∈ F2 ∨ w.heap.size ≤ i := hs
  refine ⟨rfl, ⟨F1, F', h1.kept hm (fun i hi h => h3 i hi h), hC, fun i hi h => ?_, h4, fun i hi => ?_, fun a e => ⟨(h6 a e).1, fun hi => ?_, Nat.lt_of_lt_of_le (h6 a e).2.2 hm.size⟩⟩, h.rd.keptF hm (fun a e => (h6 a e).2.1), h.m.trans (hm.to_below h.m.size (fun i hi h => absurd (h5 i h) (by omega)))⟩
  · rcases hs2 i h with h' | h'
    · exact h3 i hi h'
    · have := h1.lt hi; omega
  · rcases hs2 i hi with h' | h'
    · exact h5 i h'
    · exact Nat.le_trans h.m.size h'
  · rcases hs2 _ hi with h' | h'
    · exact (h6 a e).2.1 h'
    · have := (h6 a e).2.2; omega
theorem SS.use (h : SS W c1 c2 fd ak L1 L2 D q w) (hl : D.length ≤ 100000) (c : Nat) (k : List UInt8) (v : Int) :
    Calls Try.prog 10 #[.slice q D.length c, .int .i64 64, .agg #[.string ⟨k.toArray⟩, .int .i64 v]] w fun e w' => ∃ q' c', e = .returned (.slice q' (((k, v) :: dropK k D).take 64).length c') ∧ SS W c1 c2 fd ak L1 L2 (((k, v) :: dropK k D).take 64) q' w' := by
  obtain ⟨F1, F2, h1, h2, h3, h4, h5, h6⟩ := h.ex
  refine (use_any q c D 64 k v w h.rd hl (by omega) (by omega)).mono ?_
  rintro e w' ⟨q', c', rfl, hr, hn, hb⟩
  exact ⟨q', c', rfl, ⟨F1, F2, h1.old hb, h2.old hb, h3, h4, h5, fun a e => ⟨fun hi => by have := h1.lt hi; have := (hn a e).1; omega, fun hi => by have := h2.lt hi; have := (hn a e).1; omega, (hn a e).2⟩⟩, hr, h.m.trans (hb.mono h.m.size)⟩
theorem SS.keys (h : SS W c1 c2 fd ak L1 L2 D q w) (hl : L1.length ≤ 1) (hk : ∀ x ∈ L1, x.1.length ≤ 1000000) :
    Calls Try.prog 15 #[.pointer (some ⟨c1, 0, none⟩)] w fun e w' => ∃ p cp, e = .returned (.slice p L1.length cp) ∧ Rd encS w' p (L1.map Prod.fst) ∧ SS W c1 c2 fd ak L1 L2 D q w' := by
  obtain ⟨F1, F2, h1, r⟩ := h.ex
  refine (ca_keys h1 (by omega) hk).mono ?_
  rintro e w' ⟨p, cp, rfl, hr, _, hb⟩
  exact ⟨p, cp, rfl, hr.rd, h.old hb⟩
theorem SS.get2 {w1 : World} (h : SS W c1 c2 fd ak L1 L2 D q w1) (hb : Below w1.heap.size w1 w) (k : List UInt8) (hk : k.length ≤ maxLen) (h0 : 0 ≤ ak) (h1' : ak ≤ 100000000) (g0 : 0 ≤ fd) (g1 : fd ≤ 100000000) (hh : hasV k L2 = true) :
    Calls Try.prog 11 #[.pointer (some ⟨c2, 0, none⟩), .string ⟨k.toArray⟩] w fun e w' => e = .returned (.tuple #[.int .i64 (getV k L2), .bool true]) ∧ SS W c1 c2 (fd + 1) (ak + 1) L1 ((k, getV k L2) :: dropK k L2) D q w' ∧ (∀ x, w1.heap.size ≤ x → x < w.heap.size → w'.heap[x]? = w.heap[x]?) := by
  have ho := h.old hb
  obtain ⟨F1, F2, h1, h2, h3, h4, h5, h6⟩ := h.ex
  have hg := ca_get (h2.old hb) k hk h0 h1' g0 g1
  rw [hh] at hg
  simp only [if_true] at hg
  refine hg.mono ?_
  rintro e w' ⟨rfl, ⟨F', hC, hs⟩, hm⟩
  refine ⟨rfl, ⟨⟨F1, F', (h1.old hb).kept hm (fun i hi h => h3 i hi h), hC, fun i hi h => h3 i hi (hs i h), h4, fun i hi => h5 i (hs i hi), fun a e => ⟨(h6 a e).1, fun hi => (h6 a e).2.1 (hs _ hi), Nat.lt_of_lt_of_le (h6 a e).2.2 (Nat.le_trans hb.size hm.size)⟩⟩, ho.rd.keptF hm (fun a e => (h6 a e).2.1), ho.m.trans (hm.to_below ho.m.size (fun i hi h => absurd (h5 i h) (by omega)))⟩, fun x hx hl => hm.block x hl (fun hi => by have := h2.lt hi; omega)⟩
theorem SS.apart (h : SS W c1 c2 fd ak L1 L2 D q w) : L2.Pairwise fun x y => x.1 ≠ y.1 := by
  obtain ⟨F1, F2, h1, h2, r⟩ := h.ex
  exact h2.apart
theorem SS.len2 (h : SS W c1 c2 fd ak L1 L2 D q w) : Calls Try.prog 17 #[.pointer (some ⟨c2, 0, none⟩)] w fun e w' => e = .returned (.int .i64 (L2.length : Nat)) ∧ w' = w := by
  obtain ⟨F1, F2, h1, h2, r⟩ := h.ex
  exact ca_len h2
end
/-- What a list of uses leaves. -/
def accD (A : List (List UInt8)) : Nat → List KV
  | 0 => []
  | i + 1 => (((A.getD i []).take 4, (i : Int)) :: dropK ((A.getD i []).take 4) (accD A i)).take 64
theorem accD_len (A : List (List UInt8)) : ∀ i, (accD A i).length ≤ i
  | 0 => Nat.le_refl _
  | i + 1 => by
    have h := accD_len A i
    have h2 : (dropK ((A.getD i []).take 4) (accD A i)).length ≤ (accD A i).length := List.length_filter_le _ _
    simp only [accD, List.length_take, List.length_cons]; omega
theorem accD_key (A : List (List UInt8)) : ∀ i, ∀ x ∈ accD A i, x.1.length ≤ 4
  | 0, x, h => by cases h
  | i + 1, x, h => by
    rcases List.mem_cons.1 (List.mem_of_mem_take h) with rfl | h
    · simp only [List.length_take]; omega
    · exact accD_key A i x (List.mem_filter.1 h).1
theorem perm_get {k : List UInt8} {v : Int} : ∀ {L : List KV}, L.Pairwise (fun x y => x.1 ≠ y.1) → (k, v) ∈ L → hasV k L = true ∧ getV k L = v ∧ ((k, v) :: dropK k L).Perm L
  | [], _, h => by cases h
  | x :: L, hp, h => by
    obtain ⟨h1, h2⟩ := List.pairwise_cons.1 hp
    by_cases e : x.1 = k
    · have hx : x = (k, v) := by
        rcases List.mem_cons.1 h with h | h
        · exact h.symm
        · exact absurd e (h1 _ h)
      subst hx
      refine ⟨by simp [hasV], by simp [getV], ?_⟩
      have : dropK k ((k, v) :: L) = L := by
        unfold dropK
        rw [List.filter_cons_of_neg (by simp)]
        exact List.filter_eq_self.2 fun y hy => by have := h1 y hy; simpa using fun e => this e.symm
      rw [this]
    · have hm : (k, v) ∈ L := by
        rcases List.mem_cons.1 h with h | h
        · rw [← h] at e; exact absurd rfl e
        · exact h
      obtain ⟨i1, i2, i3⟩ := perm_get h2 hm
      have eb : (x.1 == k) = false := by simpa using e
      refine ⟨by unfold hasV at i1 ⊢; rw [List.any_cons, i1, Bool.or_true], by unfold getV at i2 ⊢; rw [List.find?_cons_of_neg (by simp [eb])]; exact i2, ?_⟩
      have : dropK k (x :: L) = x :: dropK k L := by unfold dropK; rw [List.filter_cons_of_pos (by simp [e])]
      rw [this]
      exact (List.Perm.swap x (k, v) _).trans (i3.cons x)
end Go.Proofs.Ytdiiechkhlbkcab

namespace Go.Proofs.Ytdiiechkhlbkcab
open Go.ChangeShapes Go.WideShapes Go.ChangeAt Go.RowKit Go.Deep

theorem cell_block {w : World} {a : Addr} {v : Value} (h : w.cell? a = some v) : a.block < w.heap.size := by
  unfold World.cell? at h
  apply Nat.lt_of_not_le; intro hle
  rw [Array.getElem?_eq_none hle] at h
  simp at h

set_option maxRecDepth 20000 in
theorem open_texts {H : Type} {enc : TypeId × Value → H} {W : World} {base : Nat} {v : Value} {d : DataW H} {ps : List MemPlace} (hval : Value.okWide Try.prog W .any base 39 v) (h : DataW.Trod enc Try.prog W 0 (fun _ => true) true 39 v d ps) :
    ∃ ao cap L, v = .slice ao L.length cap ∧ Rd encS W ao L ∧ (∀ s ∈ L, (s.length : Int) ≤ 9223372036854775807) ∧ L.length ≤ 9223372036854775807 ∧ L.length ≤ cap := by
  obtain ⟨a, len, cap, rfl⟩ := okWide_slice Try.underlying39 hval
  obtain ⟨fuel, hf⟩ := h
  rcases open_strings Try.underlying39 Try.underlying9 (by kernel_rfl) hf with ⟨hc, _⟩ | ⟨a', len', cap', ss, hc, _, hl, hm, hss, _, hcell, hsz⟩
  · have hc2 : [Value.slice a len cap] = [Value.slice none 0 0] := hc
    simp only [List.cons.injEq, Value.slice.injEq, and_true] at hc2
    obtain ⟨rfl, rfl, rfl⟩ := hc2
    exact ⟨none, 0, [], rfl, Rd.nil _ _, fun s hs => by simp at hs, Nat.zero_le _, Nat.le_refl _⟩
  · have hc2 : [Value.slice a len cap] = [Value.slice (some a') len' cap'] := hc
    simp only [List.cons.injEq, Value.slice.injEq, and_true] at hc2
    obtain ⟨rfl, rfl, rfl⟩ := hc2
    simp only [if_true] at hss
    have hlen : (ss.take len).length = len := by rw [List.length_take]; omega
    refine ⟨some a', cap, (ss.take len).map (fun (b : ByteArray) => b.data.toList), by rw [List.length_map, hlen], ?_, ?_, ?_, ?_⟩
    · intro j hj
      have hjl : j < len := by rw [List.length_map, hlen] at hj; exact hj
      have hc0 := hcell 0 (by omega)
      obtain ⟨bs, off, spot⟩ := a'
      have hspot : spot = none := by simpa [Addr.add] using World.cell?_spot hc0
      subst hspot
      have hcj := hcell j (by omega)
      refine ⟨bs, off, rfl, cell_block (by simpa [Addr.add_lit] using hcj), fun i u hu => ?_⟩
      have hi0 : i = 0 := by
        have := (List.getElem?_eq_some_iff.1 hu).1
        simp [encS] at this; exact this
      subst hi0
      simp only [encS, List.getElem?_cons_zero, Option.some.injEq] at hu
      subst hu
      have e : (ss.getD j ByteArray.empty) = ⟨(((ss.take len).map (fun (b : ByteArray) => b.data.toList))[j]'hj).toArray⟩ := by
        rw [List.getElem_map, List.getElem_take]
        simp [List.getD, List.getElem?_eq_getElem (show j < ss.length by omega)]
      rw [← e]
      simpa [Addr.add_lit, encS] using hcj
    · intro s hs
      obtain ⟨b, hb, rfl⟩ := List.mem_map.1 hs
      have := hsz b (List.mem_of_mem_take hb)
      unfold maxLen at this
      have e : b.data.toList.length = b.size := rfl
      omega
    · unfold maxLen at hm; rw [List.length_map, hlen]; omega
    · rw [List.length_map, hlen]; exact hl

theorem extract_head (s : List UInt8) (k : Nat) : (ByteArray.mk s.toArray).extract 0 k = ⟨(s.take k).toArray⟩ := by
  rw [ByteArray.extract_mk]; simp
set_option maxHeartbeats 400000 in
theorem cut_any (s : List UInt8) (n : Nat) (w : World) (_hl : s.length ≤ maxLen) (_hn : n ≤ 1000000) :
    Calls Try.prog 8 #[.string ⟨s.toArray⟩, .int .i64 n] w fun r w' => r = .returned (.string ⟨(s.take n).toArray⟩) ∧ w' = w := by
  have h0 : (0 : Int) ≤ n := by omega
  by_cases h : n < s.length
  · go_enter Try.func8, Try.ntmps8
    go_wp2_with fail
    rw [extract_head]
    go_ret
    exact ⟨rfl, rfl⟩
  · have e : s.take n = s := List.take_of_length_le (by omega)
    rw [e]
    clear e
    go_enter Try.func8, Try.ntmps8
    go_wp2_with fail
    go_ret
    exact ⟨rfl, rfl⟩
end Go.Proofs.Ytdiiechkhlbkcab

namespace Go.Proofs.Ytdiiechkhlbkcab
open Go.ChangeShapes Go.WideShapes Go.ChangeAt Go.RowKit Go.Deep

def i64ok (x : Int) : Prop := -9223372036854775808 ≤ x ∧ x ≤ 9223372036854775807
abbrev BC := Int × Int × List UInt8
def encB : Enc BC := ⟨fun x => [.int .i64 x.1, .int .i64 x.2.1, .string ⟨x.2.2.toArray⟩], 3, fun _ => rfl, fun _ v hv => by simp at hv; rcases hv with rfl | rfl | rfl <;> rfl, by decide⟩
def okB (x : BC) : Prop := i64ok x.1 ∧ i64ok x.2.1 ∧ x.2.2.length ≤ maxLen
theorem Rd.bc {w : World} {ao : Option Addr} {L : List BC} (h : Rd encB w ao L) (j : Nat) (hj : j < L.length) : ∃ bs off, ao = some ⟨bs, off, none⟩ ∧ bs < w.heap.size ∧
    w.cell? ⟨bs, off + j * 3, none⟩ = some (.int .i64 (L[j]).1) ∧ w.cell? ⟨bs, off + j * 3 + 1, none⟩ = some (.int .i64 (L[j]).2.1) ∧ w.cell? ⟨bs, off + j * 3 + 2, none⟩ = some (.string ⟨(L[j]).2.2.toArray⟩) := by
  obtain ⟨bs, off, e, hlt, hc⟩ := h j hj
  exact ⟨bs, off, e, hlt, hc 0 _ rfl, hc 1 _ rfl, hc 2 _ rfl⟩
set_option maxRecDepth 20000 in
theorem open_acts1 {H : Type} {enc : TypeId × Value → H} {W : World} {v : Value} {fuel : Nat} {x : DataW H × List MemPlace} (hf : DataW.trod enc Try.prog W 0 (fun _ => true) true fuel 22 [v] = some x) :
    ∃ ao cap L, v = .slice ao L.length cap ∧ Rd encB W ao L ∧ (∀ s ∈ L, okB s) ∧ L.length ≤ 9223372036854775807 ∧ L.length ≤ cap := by
  have k4 : Try.prog.cellsOf 28 = 3 := by kernel_rfl
  have ki : Try.prog.cellsOf 3 = 1 := by kernel_rfl
  have ks : Try.prog.cellsOf 9 = 1 := by kernel_rfl
  rcases open_slice Try.underlying22 hf with ⟨hc, _⟩ | ⟨a', len', cap', m, n, D, Pl, hc, _, hl, hm, hmm, _, hall⟩
  · have hc2 : [v] = [Value.slice none 0 0] := hc
    simp only [List.cons.injEq, and_true] at hc2
    subst hc2
    exact ⟨none, 0, [], rfl, Rd.nil _ _, fun s hs => by simp at hs, Nat.zero_le _, Nat.le_refl _⟩
  · have hc2 : [v] = [Value.slice (some a') len' cap'] := hc
    simp only [List.cons.injEq, and_true] at hc2
    subst hc2
    simp only [if_true] at hmm
    subst hmm
    have hj : ∀ i, i < len' → ∃ s : BC, okB s ∧ W.cell? (a'.add (i * 3)) = some (.int .i64 s.1) ∧ W.cell? ((a'.add (i * 3)).add 1) = some (.int .i64 s.2.1) ∧ W.cell? ((a'.add (i * 3)).add 2) = some (.string ⟨s.2.2.toArray⟩) := by
      intro i hi
      obtain ⟨cs', h1, h2⟩ := hall i (by omega)
      rw [k4] at h1
      obtain ⟨_, hlen, hcell⟩ := World.cells?_some h1
      obtain ⟨xs, k, _, _, _, hxl, hg⟩ := DataW.trod_struct Try.underlying28 h2
      match xs, hxl, cs', hlen with
      | [y0, y1, y2], _, [v0, v1, v2], _ =>
        have g0 := hg 0 _ rfl
        have g1 := hg 1 _ rfl
        have g2 := hg 2 _ rfl
        simp [ki, ks] at g0 g1 g2
        obtain ⟨n0, e0, _, w0⟩ := DataW.trod_int Try.underlying3 g0
        obtain ⟨n1, e1, _, w1⟩ := DataW.trod_int Try.underlying3 g1
        obtain ⟨s2, e2, _, w2⟩ := DataW.trod_string Try.underlying9 g2
        simp only [List.cons.injEq, and_true] at e0 e1 e2
        subst e0 e1 e2
        have q0 := hcell 0 (by omega)
        rw [show ∀ z : Addr, z.add 0 = z from fun z => by unfold Addr.add; simp] at q0
        have q1 := hcell 1 (by omega)
        have q2 := hcell 2 (by omega)
        exact ⟨(n0, n1, s2.data.toList), ⟨bounds_i64 w0, bounds_i64 w1, w2⟩, by simpa using q0, by simpa using q1, by simpa using q2⟩
    obtain ⟨f, hf2⟩ := choose_lt hj
    refine ⟨some a', m, (List.range len').map f, by simp, ?_, ?_, by simp; unfold maxLen at hm; omega, by simpa using hl⟩
    · intro j hjl
      have hjn : j < len' := by simpa using hjl
      obtain ⟨bs, off, spot⟩ := a'
      obtain ⟨ho, c0, c1, c2⟩ := hf2 j hjn
      have hspot : spot = none := by simpa [Addr.add] using World.cell?_spot (hf2 0 (by omega)).2.1
      subst hspot
      refine ⟨bs, off, rfl, by have := cell_block c0; simpa [Addr.add_lit] using this, fun i u hu => ?_⟩
      rw [List.getElem_map, List.getElem_range] at hu
      have hi : i < 3 := by have := (List.getElem?_eq_some_iff.1 hu).1; simpa [encB] using this
      match i, hi with
      | 0, _ => simp [encB] at hu; subst hu; simpa [Addr.add_lit, encB] using c0
      | 1, _ => simp [encB] at hu; subst hu; simpa [Addr.add_lit, encB] using c1
      | 2, _ => simp [encB] at hu; subst hu; simpa [Addr.add_lit, encB] using c2
    · intro s hs
      obtain ⟨i, hi, rfl⟩ := List.mem_map.1 hs
      exact (hf2 i (List.mem_range.1 hi)).1
theorem open_acts {H : Type} {enc : TypeId × Value → H} {W : World} {base : Nat} {v : Value} {d : DataW H} {ps : List MemPlace} (_hval : Value.okWide Try.prog W .any base 22 v) (h : DataW.Trod enc Try.prog W 0 (fun _ => true) true 22 v d ps) :
    ∃ ao cap L, v = .slice ao L.length cap ∧ Rd encB W ao L ∧ (∀ s ∈ L, okB s) ∧ L.length ≤ 9223372036854775807 ∧ L.length ≤ cap := by
  obtain ⟨a, len, cap, rfl⟩ := okWide_slice Try.underlying22 _hval
  obtain ⟨fuel, hf⟩ := h
  exact open_acts1 (by simpa [Value.cells] using hf)

theorem hasV_take (k : List UInt8) (L : List KV) (i : Nat) (h : i < L.length) (h0 : hasV k (L.take i) = false) : hasV k (L.take (i + 1)) = (L[i].1 == k) := by
  unfold hasV at *
  rw [List.take_succ_eq_append_getElem h, List.any_append, h0]; simp
theorem getV_none (k : List UInt8) (L : List KV) (h : hasV k L = false) : getV k L = 0 := by
  unfold getV
  unfold hasV at h
  rw [List.find?_eq_none.2]
  intro x hx
  have := List.any_eq_false.1 h x hx
  simpa using this
theorem hasV_of (k : List UInt8) (L : List KV) (i : Nat) (h : i < L.length) (h0 : hasV k (L.take i) = false) (h1 : L[i].1 = k) : hasV k L = true ∧ getV k L = L[i].2 := by
  have e : L = L.take i ++ L[i] :: L.drop (i + 1) := by rw [← List.drop_eq_getElem_cons h, List.take_append_drop]
  constructor
  · unfold hasV; rw [List.any_eq_true]; exact ⟨L[i], List.getElem_mem h, by simp [h1]⟩
  · have hf : (L.take i).find? (fun x => x.1 == k) = none := List.find?_eq_none.2 fun x hx => by
      have := List.any_eq_false.1 h0 x hx
      simpa using this
    have : L.find? (fun x => x.1 == k) = some L[i] := by
      obtain ⟨y, hy⟩ : ∃ y, y = L[i] := ⟨_, rfl⟩
      rw [← hy] at e h1 ⊢
      rw [e, List.find?_append, hf, List.find?_cons_of_pos (by simp [h1])]
      simp
    unfold getV
    rw [this]

set_option maxRecDepth 20000 in
set_option maxHeartbeats 1000000 in
theorem ckget_any (ao : Option Addr) (c : Nat) (L : List KV) (k : List UInt8) (w : World) (hL : Rd encK w ao L) (hn : L.length ≤ 100000) :
    Calls Try.prog 9 #[.slice ao L.length c, .string ⟨k.toArray⟩] w fun r w' => r = .returned (.tuple #[.int .i64 (getV k L), .bool (hasV k L)]) ∧ Below w.heap.size w w' := by
  obtain ⟨n, hnL⟩ : ∃ n, n = L.length := ⟨_, rfl⟩
  rw [← hnL] at hn ⊢
  have HN := Lib.hid hnL
  have HL := Lib.hid hL
  have HS : Hid (∀ i (h : i < L.length), hasV k (L.take i) = false → hasV k (L.take (i + 1)) = (L[i].1 == k)) := Lib.hid (hasV_take k L)
  have HO : Hid (∀ i (h : i < L.length), hasV k (L.take i) = false → L[i].1 = k → hasV k L = true ∧ getV k L = L[i].2) := Lib.hid (hasV_of k L)
  have HE : Hid (hasV k (L.take n) = false → hasV k L = false ∧ getV k L = 0) := Lib.hid (by rw [hnL, List.take_length]; exact fun h => ⟨h, getV_none k L h⟩)
  have HZ : Hid (hasV k (L.take 0) = false) := Lib.hid rfl
  have n0 : (0 : Int) ≤ n := by omega
  clear hnL hL
  go_enter Try.func9, Try.ntmps9
  go_wp2_with fail
  go_loopw [7, 10] (fun _ s9 wr => ∃ (i : Nat), i ≤ n ∧ s9 = .int .i64 (i : Int) ∧ Hid (hasV k (L.take i) = false) ∧ Hid (Below w.heap.size w wr)) (fun _ i _ => n - (intOf i).toNat)
  case atStart => exact ⟨0, Nat.zero_le _, rfl, HZ, Lib.hid (Below.refl _ _)⟩
  case round =>
    obtain ⟨i, hi, rfl, hz, HB⟩ := hrel
    by_cases hin : i < n
    · have hil : i < L.length := by rw [← HN.out]; exact hin
      obtain ⟨bs, off, rfl, hbs, c1, c2⟩ := ((HL.out.old HB.out).kv) i hil
      have hnx := HS.out i hil hz.out
      have hof := HO.out i hil hz.out
      obtain ⟨y, hy⟩ : ∃ y, y = L[i] := ⟨_, rfl⟩
      rw [← hy] at c1 c2 hnx hof
      obtain ⟨yk, yv⟩ := y
      simp only at c1 c2 hnx hof
      have i1 : (i : Int) < n := by omega
      have i0 : (0 : Int) ≤ i := by omega
      have HB2 : Hid (Below w.heap.size w (wr.alloc (.cells #[.string ⟨yk.toArray⟩, .int .i64 yv] 34))) := Lib.hid (HB.out.alloc HB.out.size _)
      by_cases hk : yk = k
      · have HH := Lib.hid (hof hk)
        subst hk
        clear hnx hy hof
        go_wp2_with fail
        go_ret2
        rw [HH.out.1, HH.out.2]; exact ⟨rfl, HB2.out⟩
      · have hke : (yk == k) = false := by simpa using hk
        rw [hke] at hnx
        have HNX := Lib.hid hnx
        clear hnx hof hy
        go_wp2_with fail
        go_roundw
        case rel => exact ⟨i + 1, by omega, by go_num, HNX, HB2⟩
        case measure => simp [intOf]; omega
    · obtain rfl : i = n := by omega
      have HF := Lib.hid (HE.out hz.out)
      clear hz
      go_wp2_with fail
      go_ret2
      rw [HF.out.1, HF.out.2]; exact ⟨rfl, HB.out⟩
end Go.Proofs.Ytdiiechkhlbkcab

namespace Go.Proofs.Ytdiiechkhlbkcab
open Go.RowKit

/-- The function that makes: it counts, and answers the act's thing. -/
theorem playC_any (k : List UInt8) (pk pm pa : Nat) (kd v n : Int) (kk : List UInt8) (w : World) (h1 : w.cell? ⟨pk, 0, none⟩ = some (.string ⟨k.toArray⟩)) (h2 : w.heap[pm]? = some (.cells #[.int .i64 n] 3 (0, 0))) (h3 : w.heap[pa]? = some (.cells #[.int .i64 kd, .int .i64 v, .string ⟨kk.toArray⟩] 28 (0, 0))) (hpa : pa ≠ pm) (hn : 0 ≤ n ∧ n ≤ 1000) :
    Calls Try.prog 13 #[.string ⟨k.toArray⟩, .pointer (some ⟨pk, 0, none⟩), .pointer (some ⟨pm, 0, none⟩), .pointer (some ⟨pa, 0, none⟩)] w fun e w' => e = .returned (.int .i64 v) ∧ w' = w.setCell ⟨pm, 0, none⟩ (.int .i64 (n + 1)) := by
  have c2 : w.cell? ⟨pm, 0, none⟩ = some (.int .i64 n) := by unfold World.cell?; rw [h2]; rfl
  have f2 := frozen_of_row w pm 0 _ 3 h2
  have hw : IntKind.i64.wrap (n + 1) = n + 1 := wrap_small (n + 1) (by omega) (by omega)
  obtain ⟨w2, hw2⟩ : ∃ w2, w2 = w.setCell ⟨pm, 0, none⟩ (.int .i64 (n + 1)) := ⟨_, rfl⟩
  have c3 : w2.cell? ⟨pa, 1, none⟩ = some (.int .i64 v) := by
    have h4 : w2.heap[pa]? = some (.cells #[.int .i64 kd, .int .i64 v, .string ⟨kk.toArray⟩] 28 (0, 0)) := by rw [hw2]; exact (Below.heap_setCell _ _ _ _ hpa).trans h3
    unfold World.cell?; rw [h4]; rfl
  have HW := Lib.hid hw2
  clear h2 h3 hn hw2
  go_enter Try.func13, Try.ntmps13
  go_upto_region 3 with fail
  rw [← HW.out]
  clear h1 c2 f2
  go_wp2_with fail
  go_ret
  exact ⟨rfl, HW.out⟩

/-- Cache c keeps L; the list D lies at q; the blocks X lie beside them. -/
structure PS (W : World) (c : Nat) (M fd ak : Int) (L D : List KV) (q : Option Addr) (X : List Nat) (w : World) : Prop where
  ex : ∃ F, CA w c M fd ak L F ∧ (∀ i ∈ F, W.heap.size ≤ i) ∧ (∀ a, q = some a → a.block ∉ F ∧ a.block < w.heap.size) ∧ (∀ x ∈ X, x ∉ F ∧ x < w.heap.size)
  rd : Rd encK w q D
  m : Below W.heap.size W w
section
variable {W w w' : World} {c : Nat} {M fd ak : Int} {L D : List KV} {q : Option Addr} {X : List Nat}
theorem PS.old (h : PS W c M fd ak L D q X w) (hb : Below w.heap.size w w') : PS W c M fd ak L D q X w' := by
  obtain ⟨F, h1, h2, h3, h4⟩ := h.ex
  exact ⟨⟨F, h1.old hb, h2, fun a e => ⟨(h3 a e).1, Nat.lt_of_lt_of_le (h3 a e).2 hb.size⟩, fun x hx => ⟨(h4 x hx).1, Nat.lt_of_lt_of_le (h4 x hx).2 hb.size⟩⟩, h.rd.old hb, h.m.trans (hb.mono h.m.size)⟩
/-- A new block beside them. -/
theorem PS.beside (h : PS W c M fd ak L D q X w) (hb : Below w.heap.size w w') {x : Nat} (h1 : w.heap.size ≤ x) (h2 : x < w'.heap.size) : PS W c M fd ak L D q (x :: X) w' := by
  have ho := h.old hb
  obtain ⟨F, a1, a2, a3, a4⟩ := h.ex
  refine ⟨⟨F, a1.old hb, a2, fun a e => ⟨(a3 a e).1, Nat.lt_of_lt_of_le (a3 a e).2 hb.size⟩, fun y hy => ?_⟩, ho.rd, ho.m⟩
  rcases List.mem_cons.1 hy with rfl | hy
  · exact ⟨fun hi => by have := a1.lt hi; omega, h2⟩
  · exact ⟨(a4 y hy).1, Nat.lt_of_lt_of_le (a4 y hy).2 hb.size⟩
theorem PS.fewer (h : PS W c M fd ak L D q X w) {Y : List Nat} (hy : ∀ y ∈ Y, y ∈ X) : PS W c M fd ak L D q Y w := by
  obtain ⟨F, a1, a2, a3, a4⟩ := h.ex
  exact ⟨⟨F, a1, a2, a3, fun y h => a4 y (hy y h)⟩, h.rd, h.m⟩
/-- Where the cache has turned. -/
theorem PS.turn (h : PS W c M fd ak L D q X w) {F F' : List Nat} {fd' ak' : Int} {L' : List KV} (_h1 : CA w c M fd ak L F) (h2 : ∀ i ∈ F, W.heap.size ≤ i) (h3 : ∀ a, q = some a → a.block ∉ F ∧ a.block < w.heap.size) (h4 : ∀ x ∈ X, x ∉ F ∧ x < w.heap.size)
    (hC : CA w' c M fd' ak' L' F') (hs : ∀ i ∈ F', i ∈ F ∨ w.heap.size ≤ i) (hm : Mod (fun i => i ∈ F) w w') : PS W c M fd' ak' L' D q X w' ∧ (∀ x ∈ X, w'.heap[x]? = w.heap[x]?) := by
  have hn : ∀ i, i ∉ F → i < w.heap.size → i ∉ F' := fun i h1 h2 hi => by
    rcases hs i hi with h | h
    · exact h1 h
    · omega
  refine ⟨⟨⟨F', hC, fun i hi => ?_, fun a e => ⟨hn _ (h3 a e).1 (h3 a e).2, Nat.lt_of_lt_of_le (h3 a e).2 hm.size⟩, fun x hx => ⟨hn _ (h4 x hx).1 (h4 x hx).2, Nat.lt_of_lt_of_le (h4 x hx).2 hm.size⟩⟩, h.rd.keptF hm (fun a e => (h3 a e).1), h.m.trans (hm.to_below h.m.size (fun i hi h => absurd (h2 i h) (by omega)))⟩, fun x hx => hm.block x (h4 x hx).2 (h4 x hx).1⟩
  rcases hs i hi with h' | h'
  · exact h2 i h'
  · exact Nat.le_trans h.m.size h'
theorem PS.put (h : PS W c M fd ak L D q X w) (hM : 1 ≤ M) (hM2 : M ≤ 2000) (hl : (L.length : Int) ≤ M) (k : List UInt8) (hk : k.length ≤ 1000000) (v : Int) :
    Calls Try.prog 14 #[.pointer (some ⟨c, 0, none⟩), .string ⟨k.toArray⟩, .int .i64 v] w fun e w' => e = .returned (.tuple #[]) ∧ PS W c M fd ak (((k, v) :: dropK k L).take M.toNat) D q X w' ∧ (∀ x ∈ X, w'.heap[x]? = w.heap[x]?) := by
  obtain ⟨F, h1, h2, h3, h4⟩ := h.ex
  refine (ca_put h1 k hk v hM hM2 hl).mono ?_
  rintro e w' ⟨rfl, ⟨F', hC, hs⟩, hm⟩
  exact ⟨rfl, h.turn h1 h2 h3 h4 hC hs hm⟩
theorem PS.get (h : PS W c M fd ak L D q X w) (k : List UInt8) (hk : k.length ≤ maxLen) (h0 : 0 ≤ ak) (h1' : ak ≤ 100000000) (g0 : 0 ≤ fd) (g1 : fd ≤ 100000000) :
    Calls Try.prog 11 #[.pointer (some ⟨c, 0, none⟩), .string ⟨k.toArray⟩] w fun e w' => e = .returned (.tuple #[.int .i64 (getV k L), .bool (hasV k L)]) ∧ PS W c M (if hasV k L then fd + 1 else fd) (ak + 1) (if hasV k L then (k, getV k L) :: dropK k L else L) D q X w' ∧ (∀ x ∈ X, w'.heap[x]? = w.heap[x]?) := by
  obtain ⟨F, h1, h2, h3, h4⟩ := h.ex
  refine (ca_get h1 k hk h0 h1' g0 g1).mono ?_
  rintro e w' ⟨rfl, ⟨F', hC, hs⟩, hm⟩
  exact ⟨rfl, h.turn h1 h2 h3 h4 hC (fun i hi => Or.inl (hs i hi)) hm⟩
theorem PS.use (h : PS W c M fd ak L D q X w) (hl : D.length ≤ 100000) (cq : Nat) (most : Nat) (h1 : 1 ≤ most) (h2 : most ≤ 100000) (k : List UInt8) (v : Int) :
    Calls Try.prog 10 #[.slice q D.length cq, .int .i64 most, .agg #[.string ⟨k.toArray⟩, .int .i64 v]] w fun e w' => ∃ q' c', e = .returned (.slice q' (((k, v) :: dropK k D).take most).length c') ∧ PS W c M fd ak L (((k, v) :: dropK k D).take most) q' X w' ∧ Below w.heap.size w w' := by
  obtain ⟨F, a1, a2, a3, a4⟩ := h.ex
  refine (use_any q cq D most k v w h.rd hl h1 h2).mono ?_
  rintro e w' ⟨q', c', rfl, hr, hn, hb⟩
  exact ⟨q', c', rfl, ⟨⟨F, a1.old hb, a2, fun a e => ⟨fun hi => by have := a1.lt hi; have := (hn a e).1; omega, (hn a e).2⟩, fun x hx => ⟨(a4 x hx).1, Nat.lt_of_lt_of_le (a4 x hx).2 hb.size⟩⟩, hr, h.m.trans (hb.mono h.m.size)⟩, hb⟩
theorem PS.keys (h : PS W c M fd ak L D q X w) (hl : L.length ≤ 100000) (hk : ∀ x ∈ L, x.1.length ≤ 1000000) :
    Calls Try.prog 15 #[.pointer (some ⟨c, 0, none⟩)] w fun e w' => ∃ p cp, e = .returned (.slice p L.length cp) ∧ Rd encS w' p (L.map Prod.fst) ∧ Below w.heap.size w w' := by
  obtain ⟨F, h1, r⟩ := h.ex
  refine (ca_keys h1 hl hk).mono ?_
  rintro e w' ⟨p, cp, rfl, hr, _, hb⟩
  exact ⟨p, cp, rfl, hr.rd, hb⟩
theorem PS.hits (h : PS W c M fd ak L D q X w) : Calls Try.prog 16 #[.pointer (some ⟨c, 0, none⟩)] w fun e w' => e = .returned (.tuple #[.int .i64 fd, .int .i64 ak]) ∧ Below w.heap.size w w' := by
  obtain ⟨F, h1, r⟩ := h.ex
  obtain ⟨b, r', bs, kf, vf, nw, od, hC, e1, e2⟩ := h1
  exact hits_any c b r' M fd ak bs kf vf nw od w hC
theorem PS.len (h : PS W c M fd ak L D q X w) : Calls Try.prog 17 #[.pointer (some ⟨c, 0, none⟩)] w fun e w' => e = .returned (.int .i64 (L.length : Nat)) ∧ w' = w := by
  obtain ⟨F, h1, r⟩ := h.ex
  exact ca_len h1
end
end Go.Proofs.Ytdiiechkhlbkcab

namespace Go.Proofs.Ytdiiechkhlbkcab
open Go.RowKit

theorem of1_any (w : World) : CallsD Try.prog 21 #[] .returning w fun e u' w' => e = .returned (.tuple #[]) ∧ u' = .returning ∧ w' = w := by
  refine callsD_of_wpS Try.func21 rfl fun c₀ cs hu => ?_
  apply wpS_region
  cases c₀
  simp_all [wpOpsS, go_sem, recoverD, Try.ntmps21, bodyPostS, results, Try.results21]

theorem ca_of_hit {w : World} {c : Nat} {M fd ak : Int} {L : List KV} {F : List Nat} (h : CA w c M fd ak L F) (k : List UInt8) (hk : k.length ≤ maxLen) (h0 : 0 ≤ ak) (h1 : ak ≤ 100000000) (g0 : 0 ≤ fd) (g1 : fd ≤ 100000000) (f : Value) (hh : hasV k L = true) :
    Calls Try.prog 12 #[.pointer (some ⟨c, 0, none⟩), .string ⟨k.toArray⟩, f] w fun e w' => e = .returned (.int .i64 (getV k L)) ∧
      (∃ F', CA w' c M (fd + 1) (ak + 1) ((k, getV k L) :: dropK k L) F' ∧ (∀ i ∈ F', i ∈ F)) ∧ Mod (fun i => i ∈ F) w w' := by
  have hg := ca_get h k hk h0 h1 g0 g1
  rw [hh] at hg
  simp only [if_true] at hg
  have HG := Lib.hid hg
  obtain ⟨v, hv⟩ : ∃ v, v = getV k L := ⟨_, rfl⟩
  rw [← hv] at HG ⊢
  clear h hk h0 h1 g0 g1 hh hg hv
  go_enter_defers Try.func12, Try.ntmps12
  go_wp2_with fail
  refine HG.out.mono ?_
  rintro e w1 ⟨rfl, hC, hm⟩
  have HC := Lib.hid hC
  have HM := Lib.hid hm
  clear hC hm HG
  go_wp2_with fail
  refine ⟨_, results_tmp rfl _ _ _, rfl, ?_⟩
  exact ⟨HC.out, HM.out⟩

/-- Of, where nothing is kept by the key: what make answers, which is kept. -/
theorem ca_of_missA {w : World} {c : Nat} {M fd ak : Int} {L : List KV} {F : List Nat} (h : CA w c M fd ak L F) (k : List UInt8) (hk : k.length ≤ 1000000) (h0 : 0 ≤ ak) (h1 : ak ≤ 100000000) (g0 : 0 ≤ fd) (g1 : fd ≤ 100000000) (hM : 1 ≤ M) (hM2 : M ≤ 2000) (hh : hasV k L = false) (pc po : Nat)
    (R : Int → Int → Int → List KV → List Nat → World → World → Prop)
    (hmk : ∀ (w1 : World) (F1 : List Nat), CA w1 c M fd (ak + 1) L F1 → (∀ i ∈ F1, i ∈ F) → Mod (fun i => i ∈ F) w w1 → Calls Try.prog 18 #[.string ⟨k.toArray⟩, .pointer (some ⟨pc, 0, none⟩), .pointer (some ⟨po, 0, none⟩)] w1 fun e w2 => ∃ v fd2 ak2 L2 F2, e = .returned (.int .i64 v) ∧ CA w2 c M fd2 ak2 L2 F2 ∧ (L2.length : Int) ≤ M ∧ R v fd2 ak2 L2 F2 w1 w2) :
    Calls Try.prog 12 #[.pointer (some ⟨c, 0, none⟩), .string ⟨k.toArray⟩, .func (.func 18) #[] #[.pointer (some ⟨pc, 0, none⟩), .pointer (some ⟨po, 0, none⟩)]] w fun e w' => ∃ v fd2 ak2 L2 F2 w1 w2, e = .returned (.int .i64 v) ∧ Mod (fun i => i ∈ F) w w1 ∧ R v fd2 ak2 L2 F2 w1 w2 ∧
      (∃ F', CA w' c M fd2 ak2 (((k, v) :: dropK k L2).take M.toNat) F' ∧ (∀ i ∈ F', i ∈ F2 ∨ w2.heap.size ≤ i)) ∧ Mod (fun i => i ∈ F2) w2 w' := by
  have hg := ca_get h k (by simp [maxLen]; omega) h0 h1 g0 g1
  rw [hh] at hg
  simp only [Bool.false_eq_true, if_false] at hg
  have HG := Lib.hid hg
  have HK := Lib.hid hk
  have HMM := Lib.hid (And.intro hM hM2)
  obtain ⟨v0, hv⟩ : ∃ v0, v0 = getV k L := ⟨_, rfl⟩
  rw [← hv] at HG
  have HMK := Lib.hid hmk
  clear h hk h0 h1 g0 g1 hh hg hv hM hM2 hmk
  go_enter_defers Try.func12, Try.ntmps12
  go_wp2_with fail
  refine HG.out.mono ?_
  rintro e w1 ⟨rfl, ⟨F1, hC, hs⟩, hm⟩
  have HX := Lib.hid (HMK.out w1 F1 hC hs hm)
  have HM1 := Lib.hid hm
  clear hC hs hm HG HMK
  go_wp2_with fail
  refine HX.out.mono ?_
  rintro e w2 ⟨v, fd2, ak2, L2, F2, rfl, hC2, hl2, hR⟩
  have HP := Lib.hid (ca_put hC2 k HK.out v HMM.out.1 HMM.out.2 hl2)
  have HR := Lib.hid hR
  clear hC2 hl2 hR HX
  go_wp2_with fail
  refine HP.out.mono ?_
  rintro e w3 ⟨rfl, hC3, hm3⟩
  have HC3 := Lib.hid hC3
  have HM3 := Lib.hid hm3
  clear hC3 hm3 HP
  go_wp2_with fail
  refine leaves_cons (f := 21) (args := #[]) (by simp) (by simp [go_sem]) ?_
  refine (of1_any w3).mono ?_
  rintro e u' w'' ⟨rfl, rfl, rfl⟩
  exact ⟨_, results_tmp rfl _ _ _, _, _, _, _, _, _, _, rfl, HM1.out, HR.out, HC3.out, HM3.out⟩
/-- Of, where nothing is kept by the key: what make answers, which is kept. -/
theorem ca_of_missP {w : World} {c : Nat} {M fd ak : Int} {L : List KV} {F : List Nat} (h : CA w c M fd ak L F) (k : List UInt8) (hk : k.length ≤ 1000000) (h0 : 0 ≤ ak) (h1 : ak ≤ 100000000) (g0 : 0 ≤ fd) (g1 : fd ≤ 100000000) (hM : 1 ≤ M) (hM2 : M ≤ 2000) (hh : hasV k L = false) (pk pm pa : Nat)
    (R : Int → Int → Int → List KV → List Nat → World → World → Prop)
    (hmk : ∀ (w1 : World) (F1 : List Nat), CA w1 c M fd (ak + 1) L F1 → (∀ i ∈ F1, i ∈ F) → Mod (fun i => i ∈ F) w w1 → Calls Try.prog 13 #[.string ⟨k.toArray⟩, .pointer (some ⟨pk, 0, none⟩), .pointer (some ⟨pm, 0, none⟩), .pointer (some ⟨pa, 0, none⟩)] w1 fun e w2 => ∃ v fd2 ak2 L2 F2, e = .returned (.int .i64 v) ∧ CA w2 c M fd2 ak2 L2 F2 ∧ (L2.length : Int) ≤ M ∧ R v fd2 ak2 L2 F2 w1 w2) :
    Calls Try.prog 12 #[.pointer (some ⟨c, 0, none⟩), .string ⟨k.toArray⟩, .func (.func 13) #[] #[.pointer (some ⟨pk, 0, none⟩), .pointer (some ⟨pm, 0, none⟩), .pointer (some ⟨pa, 0, none⟩)]] w fun e w' => ∃ v fd2 ak2 L2 F2 w1 w2, e = .returned (.int .i64 v) ∧ Mod (fun i => i ∈ F) w w1 ∧ R v fd2 ak2 L2 F2 w1 w2 ∧
      (∃ F', CA w' c M fd2 ak2 (((k, v) :: dropK k L2).take M.toNat) F' ∧ (∀ i ∈ F', i ∈ F2 ∨ w2.heap.size ≤ i)) ∧ Mod (fun i => i ∈ F2) w2 w' := by
  have hg := ca_get h k (by simp [maxLen]; omega) h0 h1 g0 g1
  rw [hh] at hg
  simp only [Bool.false_eq_true, if_false] at hg
  have HG := Lib.hid hg
  have HK := Lib.hid hk
  have HMM := Lib.hid (And.intro hM hM2)
  obtain ⟨v0, hv⟩ : ∃ v0, v0 = getV k L := ⟨_, rfl⟩
  rw [← hv] at HG
  have HMK := Lib.hid hmk
  clear h hk h0 h1 g0 g1 hh hg hv hM hM2 hmk
  go_enter_defers Try.func12, Try.ntmps12
  go_wp2_with fail
  refine HG.out.mono ?_
  rintro e w1 ⟨rfl, ⟨F1, hC, hs⟩, hm⟩
  have HX := Lib.hid (HMK.out w1 F1 hC hs hm)
  have HM1 := Lib.hid hm
  clear hC hs hm HG HMK
  go_wp2_with fail
  refine HX.out.mono ?_
  rintro e w2 ⟨v, fd2, ak2, L2, F2, rfl, hC2, hl2, hR⟩
  have HP := Lib.hid (ca_put hC2 k HK.out v HMM.out.1 HMM.out.2 hl2)
  have HR := Lib.hid hR
  clear hC2 hl2 hR HX
  go_wp2_with fail
  refine HP.out.mono ?_
  rintro e w3 ⟨rfl, hC3, hm3⟩
  have HC3 := Lib.hid hC3
  have HM3 := Lib.hid hm3
  clear hC3 hm3 HP
  go_wp2_with fail
  refine leaves_cons (f := 21) (args := #[]) (by simp) (by simp [go_sem]) ?_
  refine (of1_any w3).mono ?_
  rintro e u' w'' ⟨rfl, rfl, rfl⟩
  exact ⟨_, results_tmp rfl _ _ _, _, _, _, _, _, _, _, rfl, HM1.out, HR.out, HC3.out, HM3.out⟩
end Go.Proofs.Ytdiiechkhlbkcab

namespace Go.Proofs.Ytdiiechkhlbkcab
open Go.RowKit

section
variable {W w : World} {c : Nat} {M fd ak : Int} {L D : List KV} {q : Option Addr} {X : List Nat}
theorem PS.ofHit (h : PS W c M fd ak L D q X w) (k : List UInt8) (hk : k.length ≤ maxLen) (h0 : 0 ≤ ak) (h1' : ak ≤ 100000000) (g0 : 0 ≤ fd) (g1 : fd ≤ 100000000) (f : Value) (hh : hasV k L = true) :
    Calls Try.prog 12 #[.pointer (some ⟨c, 0, none⟩), .string ⟨k.toArray⟩, f] w fun e w' => e = .returned (.int .i64 (getV k L)) ∧ PS W c M (fd + 1) (ak + 1) ((k, getV k L) :: dropK k L) D q X w' ∧ (∀ x ∈ X, w'.heap[x]? = w.heap[x]?) := by
  obtain ⟨F, h1, h2, h3, h4⟩ := h.ex
  refine (ca_of_hit h1 k hk h0 h1' g0 g1 f hh).mono ?_
  rintro e w' ⟨rfl, ⟨F', hC, hs⟩, hm⟩
  exact ⟨rfl, h.turn h1 h2 h3 h4 hC (fun i hi => Or.inl (hs i hi)) hm⟩
theorem PS.ofMiss (h : PS W c M fd ak L D q X w) (k : List UInt8) (hk : k.length ≤ 1000000) (h0 : 0 ≤ ak) (h1' : ak ≤ 100000000) (g0 : 0 ≤ fd) (g1 : fd ≤ 100000000) (hM : 1 ≤ M) (hM2 : M ≤ 2000) (hl : (L.length : Int) ≤ M) (hh : hasV k L = false) (pk pm pa : Nat) (kd v : Int) (kk : List UInt8)
    (x1 : pk ∈ X) (x2 : pm ∈ X) (x3 : pa ∈ X) (r1 : w.heap[pk]? = some (.cells #[.string ⟨k.toArray⟩] 9 (0, 0))) (r2 : w.heap[pm]? = some (.cells #[.int .i64 0] 3 (0, 0))) (r3 : w.heap[pa]? = some (.cells #[.int .i64 kd, .int .i64 v, .string ⟨kk.toArray⟩] 28 (0, 0)))
    (hpa : pa ≠ pm) (hW : W.heap.size ≤ pm) (hq : ∀ a, q = some a → a.block ≠ pm) :
    Calls Try.prog 12 #[.pointer (some ⟨c, 0, none⟩), .string ⟨k.toArray⟩, .func (.func 13) #[] #[.pointer (some ⟨pk, 0, none⟩), .pointer (some ⟨pm, 0, none⟩), .pointer (some ⟨pa, 0, none⟩)]] w fun e w' => e = .returned (.int .i64 v) ∧ PS W c M fd (ak + 1) (((k, v) :: dropK k L).take M.toNat) D q X w' ∧
      w'.heap[pm]? = some (.cells #[.int .i64 1] 3 (0, 0)) ∧ (∀ x ∈ X, x ≠ pm → w'.heap[x]? = w.heap[x]?) := by
  obtain ⟨F, h1, h2, h3, h4⟩ := h.ex
  refine (ca_of_missP h1 k hk h0 h1' g0 g1 hM hM2 hh pk pm pa (fun v' fd2 ak2 L2 F2 _ w2 => v' = v ∧ fd2 = fd ∧ ak2 = ak + 1 ∧ L2 = L ∧ (∀ i ∈ F2, i ∈ F) ∧ w2.heap[pm]? = some (.cells #[.int .i64 1] 3 (0, 0)) ∧ Mod (fun i => i ∈ F ∨ i = pm) w w2) ?_).mono ?_
  · intro w1 F1 hC1 hs1 hm1
    have e1 : w1.heap[pk]? = some (.cells #[.string ⟨k.toArray⟩] 9 (0, 0)) := (hm1.block pk (h4 pk x1).2 (h4 pk x1).1).trans r1
    have e2 : w1.heap[pm]? = some (.cells #[.int .i64 0] 3 (0, 0)) := (hm1.block pm (h4 pm x2).2 (h4 pm x2).1).trans r2
    have e3 : w1.heap[pa]? = some (.cells #[.int .i64 kd, .int .i64 v, .string ⟨kk.toArray⟩] 28 (0, 0)) := (hm1.block pa (h4 pa x3).2 (h4 pa x3).1).trans r3
    have c1 : w1.cell? ⟨pk, 0, none⟩ = some (.string ⟨k.toArray⟩) := by unfold World.cell?; rw [e1]; rfl
    refine (playC_any k pk pm pa kd v 0 kk w1 c1 e2 e3 hpa (by omega)).mono ?_
    rintro e w2 ⟨rfl, rfl⟩
    have hmc : Mod (fun i => i = pm) w1 (w1.setCell ⟨pm, 0, none⟩ (.int .i64 (0 + 1))) := (Mod.refl (fun i => i = pm) w1).setCell (fun _ => rfl) _
    refine ⟨v, fd, ak + 1, L, F1, rfl, hC1.kept hmc (fun i hi e => (h4 pm x2).1 (hs1 _ (e ▸ hi))), hl, rfl, rfl, rfl, rfl, hs1, ?_, (hm1.mono (fun _ _ h => Or.inl h)).trans hmc (fun _ _ h => Or.inr h)⟩
    rw [heap_setCell_same w1 pm 0 _ 3 (.int .i64 (0 + 1)) e2]; rfl
  · rintro e w' ⟨v', fd2, ak2, L2, F2, w1, w2, rfl, hm1, ⟨rfl, rfl, rfl, rfl, hs2, r4, hm2⟩, ⟨F', hC3, hs3⟩, hm3⟩
    have hmm : Mod (fun i => i ∈ F ∨ i = pm) w w' := hm2.trans hm3 (fun i _ hi => Or.inl (hs2 i hi))
    have hpl : pm < w2.heap.size := (Array.getElem?_eq_some_iff.1 r4).1
    have hn : ∀ i, i ∉ F → i < w.heap.size → i ∉ F' := fun i g1 g2 hi => by
      rcases hs3 i hi with h | h
      · exact g1 (hs2 i h)
      · have := hm2.size; omega
    refine ⟨rfl, ⟨⟨F', hC3, fun i hi => ?_, fun a e => ⟨hn _ (h3 a e).1 (h3 a e).2, Nat.lt_of_lt_of_le (h3 a e).2 hmm.size⟩, fun x hx => ⟨hn _ (h4 x hx).1 (h4 x hx).2, Nat.lt_of_lt_of_le (h4 x hx).2 hmm.size⟩⟩, h.rd.keptF hmm (fun a e hi => ?_), h.m.trans (hmm.to_below h.m.size (fun i hi hh => ?_))⟩, ?_, fun x hx hne => hmm.block x (h4 x hx).2 (fun hi => ?_)⟩
    · rcases hs3 i hi with h' | h'
      · exact h2 i (hs2 i h')
      · exact Nat.le_trans h.m.size (Nat.le_trans hm2.size h')
    · rcases hi with hi | hi
      · exact (h3 a e).1 hi
      · exact hq a e hi
    · rcases hh with hh | hh
      · have := h2 i hh; omega
      · omega
    · exact (hm3.block pm hpl (fun hi => (h4 pm x2).1 (hs2 _ hi))).trans r4
    · rcases hi with hi | hi
      · exact (h4 x hx).1 hi
      · exact hne hi
end
end Go.Proofs.Ytdiiechkhlbkcab

namespace Go.Proofs.Ytdiiechkhlbkcab
open Go.RowKit

def want : List UInt8 → Int
  | [] => 1
  | x :: l => (x.toNat : Int) + 3 * want l
theorem want_le : ∀ l : List UInt8, 1 ≤ want l + 0 ∧ want l ≤ 129 * 3 ^ l.length - 128
  | [] => by simp [want]
  | x :: l => by
    obtain ⟨h1, h2⟩ := want_le l
    have hx : x.toNat < 256 := x.toNat_lt
    simp only [want, List.length_cons, Int.pow_succ]
    omega
theorem want_12 (l : List UInt8) (h : l.length ≤ 12) : 1 ≤ want l ∧ want l ≤ 70000000 := by
  obtain ⟨h1, h2⟩ := want_le l
  have h3 : (3 : Nat) ^ l.length ≤ 3 ^ 12 := Nat.pow_le_pow_right (by omega) h
  have h4 : (3 : Nat) ^ 12 = 531441 := by rfl
  have h5 : ((3 ^ l.length : Nat) : Int) = (3 : Int) ^ l.length := by simp
  omega
theorem hasV_len : ∀ (k : List UInt8) (L : List KV), hasV k L = true → (dropK k L).length + 1 ≤ L.length
  | k, [], h => by simp [hasV] at h
  | k, x :: L, h => by
    unfold dropK
    by_cases e : x.1 = k
    · rw [List.filter_cons_of_neg (by simp [e])]
      have := List.length_filter_le (fun y : KV => y.1 != k) L
      simp only [List.length_cons]; omega
    · rw [List.filter_cons_of_pos (by simpa using e)]
      have h' : hasV k L = true := by
        unfold hasV at h ⊢
        rw [List.any_cons] at h
        have : (x.1 == k) = false := by simpa using e
        rw [this, Bool.false_or] at h; exact h
      have := hasV_len k L h'
      unfold dropK at this
      simp only [List.length_cons]; omega
def Good (L : List KV) : Prop := ∀ x ∈ L, x.2 = want x.1
theorem Good.drop {L : List KV} (h : Good L) (k : List UInt8) : Good (dropK k L) := fun x hx => h x (List.mem_filter.1 hx).1
theorem Good.cons {L : List KV} (h : Good L) (k : List UInt8) : Good ((k, want k) :: dropK k L) := by
  intro x hx
  rcases List.mem_cons.1 hx with rfl | hx
  · rfl
  · exact h.drop k x hx
theorem Good.take {L : List KV} (h : Good L) (n : Nat) : Good (L.take n) := fun x hx => h x (List.mem_of_mem_take hx)
theorem Good.get {L : List KV} (h : Good L) {k : List UInt8} (hk : hasV k L = true) : getV k L = want k := by
  unfold getV
  cases hf : L.find? fun x => x.1 == k with
  | none =>
    unfold hasV at hk
    obtain ⟨x, hx, e⟩ := List.any_eq_true.1 hk
    exact absurd e (by simpa using List.find?_eq_none.1 hf x hx)
  | some x =>
    have h1 := h x (List.mem_of_find?_eq_some hf)
    have h2 := List.find?_some hf
    have : x.1 = k := by simpa using h2
    rw [← this]; exact h1
abbrev fvA (pc po : Nat) : Value := .func (.func 18) #[] #[.pointer (some ⟨pc, 0, none⟩), .pointer (some ⟨po, 0, none⟩)]
/-- The cache, and the two variables that the function asks. -/
structure AS (w : World) (c pc po : Nat) (M B : Int) (F : List Nat) : Prop where
  ca : ∃ fd ak L, CA w c M fd ak L F ∧ Good L ∧ (L.length : Int) ≤ M ∧ 0 ≤ fd ∧ fd ≤ B ∧ 0 ≤ ak ∧ ak ≤ B
  c1 : w.cell? ⟨pc, 0, none⟩ = some (.pointer (some ⟨c, 0, none⟩))
  c2 : w.cell? ⟨po, 0, none⟩ = some (fvA pc po)
  n1 : pc ∉ F
  n2 : po ∉ F
theorem cell_lt {w : World} {i j : Nat} {v : Value} (h : w.cell? ⟨i, j, none⟩ = some v) : i < w.heap.size := by
  unfold World.cell? at h
  apply Nat.lt_of_not_le; intro hle
  rw [Array.getElem?_eq_none hle] at h
  simp at h
theorem AS.old {w w' : World} {c pc po : Nat} {M B : Int} {F : List Nat} (h : AS w c pc po M B F) (hb : Below w.heap.size w w') : AS w' c pc po M B F := by
  obtain ⟨fd, ak, L, hC, r⟩ := h.ca
  exact ⟨⟨fd, ak, L, hC.old hb, r⟩, (World.cell?_of_block (hb.block _ (cell_lt h.c1))).trans h.c1, (World.cell?_of_block (hb.block _ (cell_lt h.c2))).trans h.c2, h.n1, h.n2⟩
theorem AS.mono {w : World} {c pc po : Nat} {M B B' : Int} {F : List Nat} (h : AS w c pc po M B F) (hb : B ≤ B') : AS w c pc po M B' F := by
  obtain ⟨fd, ak, L, hC, hG, hl, h1, h2, h3, h4⟩ := h.ca
  exact ⟨⟨fd, ak, L, hC, hG, hl, h1, Int.le_trans h2 hb, h3, Int.le_trans h4 hb⟩, h.c1, h.c2, h.n1, h.n2⟩
/-- What a call leaves. -/
def AP (w w' : World) (c pc po : Nat) (M B : Int) (F : List Nat) : Prop := ∃ F', AS w' c pc po M B F' ∧ (∀ i ∈ F', i ∈ F ∨ w.heap.size ≤ i) ∧ Mod (fun i => i ∈ F) w w'
theorem AP.of {w w' : World} {c pc po : Nat} {M B B' : Int} {F F' : List Nat} {fd ak : Int} {L : List KV} (h : AS w c pc po M B F) (hC : CA w' c M fd ak L F') (hG : Good L) (hl : (L.length : Int) ≤ M) (h1 : 0 ≤ fd) (h2 : fd ≤ B') (h3 : 0 ≤ ak) (h4 : ak ≤ B') (hF : ∀ i ∈ F', i ∈ F ∨ w.heap.size ≤ i) (hm : Mod (fun i => i ∈ F) w w') : AP w w' c pc po M B' F := by
  have l1 := cell_lt h.c1
  have l2 := cell_lt h.c2
  refine ⟨F', ⟨⟨fd, ak, L, hC, hG, hl, h1, h2, h3, h4⟩, (World.cell?_of_block (hm.block _ l1 h.n1)).trans h.c1, (World.cell?_of_block (hm.block _ l2 h.n2)).trans h.c2, fun hi => ?_, fun hi => ?_⟩, hF, hm⟩
  · rcases hF _ hi with h' | h'
    · exact h.n1 h'
    · omega
  · rcases hF _ hi with h' | h'
    · exact h.n2 h'
    · omega
/-- Of, by a key that is asked for. -/
theorem of_as {w : World} {c pc po : Nat} {M B : Int} {F : List Nat} (h : AS w c pc po M B F) (hM : 1 ≤ M) (hM2 : M ≤ 2000) (hB : B ≤ 10000000) (k : List UInt8) (hk : k.length ≤ 12)
    (hcl : ∀ (w : World) (F : List Nat), AS w c pc po M (B + 1) F → Calls Try.prog 18 #[.string ⟨k.toArray⟩, .pointer (some ⟨pc, 0, none⟩), .pointer (some ⟨po, 0, none⟩)] w fun e w' => e = .returned (.int .i64 (want k)) ∧ AP w w' c pc po M (B + 1 + 20 * k.length) F) :
    Calls Try.prog 12 #[.pointer (some ⟨c, 0, none⟩), .string ⟨k.toArray⟩, fvA pc po] w fun e w' => e = .returned (.int .i64 (want k)) ∧ AP w w' c pc po M (B + 20 * k.length + 1) F := by
  obtain ⟨fd, ak, L, hC, hG, hl, h1, h2, h3, h4⟩ := h.ca
  cases hh : hasV k L with
  | true =>
    refine (ca_of_hit hC k (by simp [maxLen]; omega) h3 (by omega) h1 (by omega) _ hh).mono ?_
    rintro e w' ⟨rfl, ⟨F', hC', hs⟩, hm⟩
    rw [hG.get hh] at hC' ⊢
    have := hasV_len k L hh
    exact ⟨rfl, AP.of h hC' (hG.cons k) (by simp only [List.length_cons]; omega) (by omega) (by omega) (by omega) (by omega) (fun i hi => Or.inl (hs i hi)) hm⟩
  | false =>
    refine (ca_of_missA hC k (by omega) h3 (by omega) h1 (by omega) hM hM2 hh pc po (fun v fd2 ak2 L2 F2 _ w2 => v = want k ∧ Good L2 ∧ 0 ≤ fd2 ∧ fd2 ≤ B + 20 * k.length + 1 ∧ 0 ≤ ak2 ∧ ak2 ≤ B + 20 * k.length + 1 ∧ (∀ i ∈ F2, i ∈ F ∨ w.heap.size ≤ i) ∧ Mod (fun i => i ∈ F) w w2) ?_).mono ?_
    · intro w1 F1 hC1 hs1 hm1
      have hA1 : AS w1 c pc po M (B + 1) F1 := ⟨⟨fd, ak + 1, L, hC1, hG, hl, h1, by omega, by omega, by omega⟩, (World.cell?_of_block (hm1.block _ (cell_lt h.c1) h.n1)).trans h.c1, (World.cell?_of_block (hm1.block _ (cell_lt h.c2) h.n2)).trans h.c2, fun hi => h.n1 (hs1 _ hi), fun hi => h.n2 (hs1 _ hi)⟩
      refine (hcl w1 F1 hA1).mono ?_
      rintro e w2 ⟨rfl, F2, hA2, hs2, hm2⟩
      obtain ⟨fd2, ak2, L2, hC2, hG2, hl2, k1, k2, k3, k4⟩ := hA2.ca
      refine ⟨_, fd2, ak2, L2, F2, rfl, hC2, hl2, rfl, hG2, k1, by omega, k3, by omega, fun i hi => ?_, hm1.trans hm2 (fun i _ hi => hs1 i hi)⟩
      rcases hs2 i hi with h' | h'
      · exact Or.inl (hs1 i h')
      · exact Or.inr (Nat.le_trans hm1.size h')
    · rintro e w' ⟨v, fd2, ak2, L2, F2, w1, w2, rfl, hm1, ⟨rfl, hG2, k1, k2, k3, k4, hs2, hm2⟩, ⟨F', hC3, hs3⟩, hm3⟩
      refine ⟨rfl, AP.of h hC3 ((hG2.cons k).take _) (by rw [List.length_take]; omega) k1 k2 k3 k4 (fun i hi => ?_) (hm2.trans hm3 (fun i hi hi2 => ?_))⟩
      · rcases hs3 i hi with h' | h'
        · exact hs2 i h'
        · exact Or.inr (Nat.le_trans hm2.size h')
      · rcases hs2 i hi2 with h' | h'
        · exact h'
        · omega
end Go.Proofs.Ytdiiechkhlbkcab

namespace Go.Proofs.Ytdiiechkhlbkcab
open Go.RowKit

set_option maxRecDepth 20000 in
theorem awake12_any (w : World) : Calls Try.prog 6 #[] w fun e w' => e = .returned (.bool true) ∧ Below w.heap.size w w' := by
  go_enter Try.func6, Try.ntmps6
  go_wp2_with fail
  refine (ca_new 2 w).mono ?_
  rintro e w1 ⟨c, F1, rfl, hC, hf, hb⟩
  have hP := ca_put hC [97] (by simp) 1 (by decide) (by decide) (by decide)
  have HP := Lib.hid hP
  have HB1 := Lib.hid hb
  have HF1 := Lib.hid hf
  clear hC hP hb hf
  go_wp2_with fail
  refine HP.out.mono ?_
  rintro e w2 ⟨rfl, ⟨F2, hC, hf⟩, hm⟩
  have hP := ca_put hC [98] (by simp) 2 (by decide) (by decide) (by decide)
  have HP2 := Lib.hid hP
  have HM2 := Lib.hid hm
  have HF2 := Lib.hid hf
  clear hC hP hm hf HP
  go_wp2_with fail
  refine HP2.out.mono ?_
  rintro e w3 ⟨rfl, ⟨F3, hC, hf⟩, hm⟩
  have hP := ca_get hC [97] (by decide) (by decide) (by decide) (by decide) (by decide)
  have HP3 : Hid (Calls Try.prog 11 #[.pointer (some ⟨c, 0, none⟩), .string ⟨#[97]⟩] w3 fun e w' => e = .returned (.tuple #[.int .i64 1, .bool true]) ∧ (∃ F', CA w' c 2 1 1 [([97], 1), ([98], 2)] F' ∧ (∀ i ∈ F', i ∈ F3)) ∧ Mod (fun i => i ∈ F3) w3 w') := Lib.hid hP
  have HM3 := Lib.hid hm
  have HF3 := Lib.hid hf
  clear hC hP hm hf HP2
  go_wp2_with fail
  refine HP3.out.mono ?_
  rintro e w4 ⟨rfl, ⟨F4, hC, hf⟩, hm⟩
  have hP := ca_put hC [99] (by simp) 3 (by decide) (by decide) (by decide)
  have HP4 := Lib.hid hP
  have HM4 := Lib.hid hm
  have HF4 := Lib.hid hf
  clear hC hP hm hf HP3
  go_wp2_with fail
  refine HP4.out.mono ?_
  rintro e w5 ⟨rfl, ⟨F5, hC, hf⟩, hm⟩
  have hP := ca_get hC [98] (by decide) (by decide) (by decide) (by decide) (by decide)
  have HP5 : Hid (Calls Try.prog 11 #[.pointer (some ⟨c, 0, none⟩), .string ⟨#[98]⟩] w5 fun e w' => e = .returned (.tuple #[.int .i64 0, .bool false]) ∧ (∃ F', CA w' c 2 1 2 [([99], 3), ([97], 1)] F' ∧ (∀ i ∈ F', i ∈ F5)) ∧ Mod (fun i => i ∈ F5) w5 w') := Lib.hid hP
  have HM5 := Lib.hid hm
  have HF5 := Lib.hid hf
  clear hC hP hm hf HP4
  go_wp2_with fail
  refine HP5.out.mono ?_
  rintro e w6 ⟨rfl, ⟨F6, hC, hf⟩, hm⟩
  have hP := ca_len hC
  have HP6 : Hid (Calls Try.prog 17 #[.pointer (some ⟨c, 0, none⟩)] w6 fun e w' => e = .returned (.int .i64 2) ∧ w' = w6) := Lib.hid hP
  have HM6 := Lib.hid hm
  clear hC hP hm hf HP5
  go_wp2_with fail
  refine HP6.out.mono ?_
  rintro e w7 ⟨rfl, hw⟩
  have HW := Lib.hid hw
  clear hw HP6
  go_wp2_with fail
  go_ret
  have g2 : ∀ i ∈ F2, w.heap.size ≤ i := fun i hi => (HF2.out i hi).elim (fun h => HF1.out i h) (fun h => Nat.le_trans HB1.out.size h)
  have g3 : ∀ i ∈ F3, w.heap.size ≤ i := fun i hi => (HF3.out i hi).elim (fun h => g2 i h) (fun h => Nat.le_trans HB1.out.size (Nat.le_trans HM2.out.size h))
  have g4 : ∀ i ∈ F4, w.heap.size ≤ i := fun i hi => g3 i (HF4.out i hi)
  have g5 : ∀ i ∈ F5, w.heap.size ≤ i := fun i hi => (HF5.out i hi).elim (fun h => g4 i h) (fun h => Nat.le_trans HB1.out.size (Nat.le_trans HM2.out.size (Nat.le_trans HM3.out.size (Nat.le_trans HM4.out.size h))))
  have bb : ∀ {a b : World} {F : List Nat}, (∀ i ∈ F, w.heap.size ≤ i) → w.heap.size ≤ a.heap.size → Mod (fun i => i ∈ F) a b → Below w.heap.size a b := fun hF hs hm => hm.to_below hs (fun i hi h => absurd (hF i h) (by omega))
  have s1 := HB1.out.size
  have b2 := HB1.out.trans (bb HF1.out s1 HM2.out)
  have b3 := b2.trans (bb g2 b2.size HM3.out)
  have b4 := b3.trans (bb g3 b3.size HM4.out)
  have b5 := b4.trans (bb g4 b4.size HM5.out)
  have b6 := b5.trans (bb g5 b5.size HM6.out)
  rw [HW.out]
  exact ⟨rfl, b6⟩
end Go.Proofs.Ytdiiechkhlbkcab

namespace Go.Proofs.Ytdiiechkhlbkcab
open Go.RowKit

def Inv (W : World) (c : Nat) (M : Int) (fd ak m : Nat) (q : Option Addr) (i : Nat) (w : World) : Prop :=
  ∃ L, PS W c M (fd : Int) (ak : Int) L L q [] w ∧ m = L.length ∧ (L.length : Int) ≤ M ∧ (∀ x ∈ L, x.1.length ≤ 4) ∧ fd ≤ i ∧ ak ≤ i

set_option maxRecDepth 20000 in
set_option maxHeartbeats 8000000 in
theorem plays_walk (most : Int) (ao : Option Addr) (cap : Nat) (A : List BC) (W : World) (hr : Rd encB W ao A) (hs : ∀ s ∈ A, okB s) (hn : A.length ≤ 9223372036854775807) :
    Calls Try.prog 3 #[.int .i64 most, .slice ao A.length cap] W fun e w' => e = .returned (.bool true) ∧ Below W.heap.size W w' := by
  obtain ⟨m1, e1⟩ : ∃ m, min most 12 = m := ⟨_, rfl⟩
  obtain ⟨m2, e2⟩ : ∃ m, max (-1) m1 = m := ⟨_, rfl⟩
  obtain ⟨M, e3⟩ : ∃ M : Nat, max 1 m2 = (M : Int) := ⟨(max 1 m2).toNat, by omega⟩
  have e4 : min (max m2 1) 1024 = (M : Int) := by omega
  have EM : Hid (1 ≤ M ∧ M ≤ 12) := Lib.hid (by omega)
  have HNW : Hid (∀ w, Calls Try.prog 7 #[.int .i64 m2] w fun e w' => ∃ c F, e = .returned (.pointer (some ⟨c, 0, none⟩)) ∧ CA w' c (M : Int) 0 0 [] F ∧ (∀ i ∈ F, w.heap.size ≤ i) ∧ Below w.heap.size w w') := Lib.hid (fun w => by rw [← e4]; exact ca_new m2 w)
  clear e4
  have HAW := Lib.hid (awake12_any W)
  obtain ⟨n, hnn⟩ : ∃ n, n = A.length := ⟨_, rfl⟩
  rw [← hnn]
  have h63 : (n : Int) ≤ 9223372036854775807 := by omega
  have HN := Lib.hid hnn
  have HR := Lib.hid hr
  have HS := Lib.hid hs
  have hmf : ∀ (fn : Fn) (first cap : Array Value) (w : World), (Instr.makeFunc fn first cap).run Try.prog w = .ok (.func fn first cap) w := fun _ _ _ _ => rfl
  clear hr hs hn hnn
  go_enter Try.func3, Try.ntmps3
  go_wp2_with fail
  refine HAW.out.mono ?_
  rintro e w1 ⟨rfl, hb1⟩
  have HB1 := Lib.hid hb1
  clear hb1 HAW
  go_wp2_with fail
  refine (HNW.out w1).mono ?_
  rintro e w2 ⟨c, F, rfl, hC, hf, hb2⟩
  have H0 : Hid (Inv W c M 0 0 0 none 0 w2) := Lib.hid ⟨[], ⟨⟨F, hC, fun i hi => Nat.le_trans HB1.out.size (hf i hi), (fun a e => by cases e), (fun x hx => by cases hx)⟩, Rd.nil _ _, HB1.out.trans (hb2.mono HB1.out.size)⟩, rfl, by have := EM.out; simp, (fun x hx => by cases hx), Nat.le_refl _, Nat.le_refl _⟩
  clear hC hf hb2 HNW HB1
  go_upto_region 11 with fail
  go_loopw [6, 7, 8, 9] (fun s6 s7 s8 s9 wr => ∃ (i m fd ak : Nat) (q : Option Addr) (cl : Nat), i ≤ n ∧ i ≤ 100 ∧ s9 = .int .i64 (i : Int) ∧ s6 = .slice q m cl ∧ s7 = .int .i64 (fd : Int) ∧ s8 = .int .i64 (ak : Int) ∧ Hid (Inv W c M fd ak m q i wr)) (fun _ _ _ i _ => n - (intOf i).toNat)
  case atStart => exact ⟨0, 0, 0, 0, none, 0, Nat.zero_le _, Nat.zero_le _, rfl, rfl, rfl, rfl, H0⟩
  case round =>
    obtain ⟨i, m, fd, ak, q, cl, hi, hi100, rfl, rfl, rfl, rfl, HI⟩ := hrel
    clear H0
    by_cases hin : i < n ∧ i < 100
    · obtain ⟨hin, hi2⟩ := hin
      have i1 : (i : Int) < n := by omega
      have i2 : (i : Int) < 100 := by omega
      have i0 : (0 : Int) ≤ i := by omega
      obtain ⟨L, hP, hm, hlM, hk4, hfd, hak⟩ := HI.out
      have hil : i < A.length := by rw [← HN.out]; exact hin
      obtain ⟨bs, off, rfl, hbs, c0, c1, c2⟩ := (HR.out.old hP.m).bc i hil
      have hok := HS.out _ (List.getElem_mem hil)
      obtain ⟨y, hy⟩ : ∃ y, y = A[i] := ⟨_, rfl⟩
      rw [← hy] at c0 c1 c2 hok
      obtain ⟨kd, av, kk⟩ := y
      simp only at c0 c1 c2
      have HCUT : Hid (∀ w1, Calls Try.prog 8 #[.string ⟨kk.toArray⟩, .int .i64 4] w1 fun r w' => r = .returned (.string ⟨(kk.take 4).toArray⟩) ∧ w' = w1) := Lib.hid (fun w1 => cut_any kk 4 w1 hok.2.2 (by decide))
      obtain ⟨K, hK⟩ : ∃ K, K = kk.take 4 := ⟨_, rfl⟩
      have hK4 : K.length ≤ 4 := by rw [hK, List.length_take]; omega
      rw [← hK] at HCUT
      have ksz : (Try.prog.info? 28).map (·.size) = some 3 := by kernel_rfl
      clear hil hok hy hK hin hi2 HI
      go_wp2_with fail
      refine (HCUT.out _).mono ?_
      rintro e wc ⟨rfl, rfl⟩
      by_cases hd1 : kd = 1
      · subst hd1
        by_cases hh : hasV K L = true
        · obtain ⟨v, hv⟩ : ∃ v, v = getV K L := ⟨_, rfl⟩
          have HH := Lib.hid hh
          have HV := Lib.hid hv
          clear hh hv
          obtain ⟨pa, hpa⟩ : ∃ pa, pa = wr.heap.size := ⟨_, rfl⟩
          obtain ⟨pk, hpk⟩ : ∃ pk, pk = wr.heap.size + 1 := ⟨_, rfl⟩
          obtain ⟨wA, hwA⟩ : ∃ wA, wA = wr.alloc (.cells #[.int .i64 1, .int .i64 av, .string ⟨kk.toArray⟩] 28) := ⟨_, rfl⟩
          obtain ⟨wB, hwB⟩ : ∃ wB, wB = wA.alloc (.cells #[.string ⟨K.toArray⟩] 9) := ⟨_, rfl⟩
          have hsA : wA.heap.size = wr.heap.size + 1 := by rw [hwA]; simp
          have hsB : wB.heap.size = wr.heap.size + 2 := by rw [hwB]; simp; omega
          have hbA : Below wr.heap.size wr wA := by rw [hwA]; exact (Below.refl _ _).alloc (Nat.le_refl _) _
          have hbB : Below wA.heap.size wA wB := by rw [hwB]; exact (Below.refl _ _).alloc (Nat.le_refl _) _
          have hPB : PS W c (M : Int) (fd : Int) (ak : Int) L L q [pk, pa] wB := (hP.beside hbA (x := pa) (by omega) (by omega)).beside hbB (x := pk) (by omega) (by omega)
          have rA3 : wA.heap[pa]? = some (.cells #[.int .i64 1, .int .i64 av, .string ⟨kk.toArray⟩] 28 (0, 0)) := by rw [hwA, hpa]; exact heap_alloc_new _ _
          have r3 : wB.heap[pa]? = some (.cells #[.int .i64 1, .int .i64 av, .string ⟨kk.toArray⟩] 28 (0, 0)) := (hbB.block pa (by omega)).trans rA3
          have r1 : wB.heap[pk]? = some (.cells #[.string ⟨K.toArray⟩] 9 (0, 0)) := by rw [hwB, hpk, ← hsA]; exact heap_alloc_new _ _
          have HX := Lib.hid (And.intro hwA hwB)
          have HY := Lib.hid (And.intro hpa hpk)
          have hRG := ckget_any q cl L K wB hPB.rd (by have := EM.out; omega)
          rw [← hm] at hRG
          rw [HH.out, ← HV.out] at hRG
          have HRG := Lib.hid hRG
          have HPB := Lib.hid hPB
          have HR1 := Lib.hid r1
          have HR3 := Lib.hid r3
          have HSB : Hid (pk < wB.heap.size ∧ pa < wB.heap.size ∧ W.heap.size ≤ pa) := Lib.hid (by have := hP.m.size; omega)
          have HLM0 : Hid ((L.length : Int) ≤ M ∧ m = L.length) := Lib.hid ⟨hlM, hm⟩
          have HKL0 := Lib.hid hk4
          have HFA0 := Lib.hid (And.intro hfd hak)
          have HK4 := Lib.hid hK4
          have k0B : wB.cell? ⟨pk, 0, none⟩ = some (.string ⟨K.toArray⟩) := by unfold World.cell?; rw [r1]; rfl
          clear hpa hpk hwA hwB hsA hsB hbA hbB hPB rA3 r3 r1 hRG hP hm hlM hk4 hK4
          go_upto_region 15 with fail
          rw [← HX.out.1, ← HX.out.2, ← HY.out.2, ← HY.out.1]
          clear c0 c1 c2
          go_wp2_with fail
          refine HRG.out.mono ?_
          rintro e w3 ⟨rfl, hb3⟩
          have HP3 := Lib.hid (HPB.out.old hb3)
          have s1 := (hb3.block pk HSB.out.1).trans HR1.out
          have s3 := (hb3.block pa HSB.out.2.1).trans HR3.out
          have k0 : w3.cell? ⟨pk, 0, none⟩ = some (.string ⟨K.toArray⟩) := by unfold World.cell?; rw [s1]; rfl
          have d0 : w3.cell? ⟨pa, 0, none⟩ = some (.int .i64 1) := by unfold World.cell?; rw [s3]; rfl
          have d1 : w3.cell? ⟨pa, 1, none⟩ = some (.int .i64 av) := by unfold World.cell?; rw [s3]; rfl
          have HS1 := Lib.hid s1
          have HS3 := Lib.hid s3
          have HSZ : Hid (pk < w3.heap.size ∧ pa < w3.heap.size) := Lib.hid (by have := hb3.size; have := HSB.out; omega)
          clear s1 s3 hb3 HRG HPB HR1 HR3 k0B
          obtain ⟨ak1, hak1⟩ : ∃ ak1 : Nat, ak1 = ak + 1 := ⟨_, rfl⟩
          have eak : (ak : Int) + 1 = (ak1 : Int) := by omega
          have wak : IntKind.i64.wrap ((ak : Int) + 1) = (ak1 : Int) := by rw [IntKind.wrap_i64]; have := HFA0.out; omega
          obtain ⟨fd1, hfd1⟩ : ∃ fd1 : Nat, fd1 = fd + 1 := ⟨_, rfl⟩
          have efd : (fd : Int) + 1 = (fd1 : Int) := by omega
          have wfd : IntKind.i64.wrap ((fd : Int) + 1) = (fd1 : Int) := by rw [IntKind.wrap_i64]; have := HFA0.out; omega
          obtain ⟨L', hL'⟩ : ∃ L', L' = ((K, v) :: dropK K L).take M := ⟨_, rfl⟩
          have HKL : Hid (∀ x ∈ L', x.1.length ≤ 4) := Lib.hid (by
            rw [hL']
            intro x hx
            rcases List.mem_cons.1 (List.mem_of_mem_take hx) with rfl | hx
            · exact HK4.out
            · exact HKL0.out x (List.mem_filter.1 hx).1)
          have HLM : Hid ((L'.length : Int) ≤ M) := Lib.hid (by rw [hL', List.length_take]; omega)
          have hLe : (K, v) :: dropK K L = L' := by
            rw [hL', List.take_of_length_le]
            have h5 := hasV_len K L HH.out
            have h6 := HLM0.out.1
            simp only [List.length_cons]; omega
          have HFA : Hid (fd1 ≤ i + 1 ∧ ak1 ≤ i + 1) := Lib.hid (by have := HFA0.out; omega)
          have hU := HP3.out.use (by have := HLM0.out; have := EM.out; omega) cl M (by have := EM.out; omega) (by have := EM.out; omega) K v
          rw [← hL', ← HLM0.out.2] at hU
          have HU := Lib.hid hU
          have HLE := Lib.hid hLe
          have HEK := Lib.hid (And.intro eak efd)
          clear hU hL' hLe eak efd hak1 hfd1
          go_wp2_with fail
          refine HU.out.mono ?_
          rintro e w4 ⟨q', c', rfl, hP4, hb4⟩
          have s1 := (hb4.block pk HSZ.out.1).trans HS1.out
          have s3 := (hb4.block pa HSZ.out.2).trans HS3.out
          have k0' : w4.cell? ⟨pk, 0, none⟩ = some (.string ⟨K.toArray⟩) := by unfold World.cell?; rw [s1]; rfl
          have d0' : w4.cell? ⟨pa, 0, none⟩ = some (.int .i64 1) := by unfold World.cell?; rw [s3]; rfl
          have d1' : w4.cell? ⟨pa, 1, none⟩ = some (.int .i64 av) := by unfold World.cell?; rw [s3]; rfl
          have hG := hP4.get K (by have := HK4.out; simp [maxLen]; omega) (by omega) (by have := HFA0.out; omega) (by omega) (by have := HFA0.out; omega)
          rw [HH.out] at hG
          simp only [if_true] at hG
          rw [← HV.out, HLE.out, HEK.out.1, HEK.out.2] at hG
          have HG := Lib.hid hG
          clear hG hP4 hb4 s1 s3 k0 d0 d1 HU HP3 HS1 HS3
          go_wp2_with fail
          refine HG.out.mono ?_
          rintro e w6 ⟨rfl, hP6, _⟩
          have HP6 := Lib.hid hP6
          clear hP6 HG k0' d0' d1'
          obtain ⟨m', hm'⟩ : ∃ m', m' = L'.length := ⟨_, rfl⟩
          have HM' := Lib.hid hm'
          have hm9 : m' ≤ 12 := by have := HLM.out; have := EM.out; omega
          have HKY := HP6.out.keys (by have := HLM.out; have := EM.out; omega) (fun x hx => by have := HKL.out x hx; omega)
          rw [← hm'] at HKY
          have HKY := Lib.hid HKY
          try rw [← hm']
          clear hm'
          go_wp2_with fail
          refine HKY.out.mono ?_
          rintro e w7 ⟨p7, cp7, rfl, hr7, hb7⟩
          have HR7 := Lib.hid hr7
          have HP7 := Lib.hid (HP6.out.old hb7)
          clear hr7 hb7 HKY
          go_wp2_with fail
          refine HP7.out.hits.mono ?_
          rintro e w8 ⟨rfl, hb8⟩
          have HP8 := Lib.hid (HP7.out.old hb8)
          have HR8 := Lib.hid (HR7.out.old hb8)
          have hL8 := (HP7.out.old hb8).len
          rw [← HM'.out] at hL8
          have HL8 := Lib.hid hL8
          clear hb8 hL8 HP7 HR7
          go_wp2_with fail
          refine HL8.out.mono ?_
          rintro e w9 ⟨rfl, hw9⟩
          obtain rfl : w9 = w8 := hw9
          clear HL8
          go_upto_region 40 with fail
          go_loopw [176] (fun s176 wx => ∃ j : Nat, j ≤ m' ∧ s176 = .int .i64 (j : Int) ∧ Hid (Below w9.heap.size w9 wx)) (fun j _ => m' - (intOf j).toNat)
          case atStart => exact ⟨0, Nat.zero_le _, rfl, Lib.hid (Below.refl _ _)⟩
          case round =>
            obtain ⟨j, hj, rfl, HJ⟩ := hrel
            by_cases hjm : j < m'
            · have j1 : (j : Int) < m' := by omega
              have j0 : (0 : Int) ≤ j := by omega
              have hjl : j < L'.length := by rw [← HM'.out]; exact hjm
              obtain ⟨b7, o7, rfl, hb7, x0⟩ := (HR8.out.old HJ.out).str j (by rw [List.length_map]; exact hjl)
              obtain ⟨b8, o8, rfl, hb8, y0, y1⟩ := (HP8.out.rd.old HJ.out).kv j hjl
              rw [List.getElem_map] at x0
              obtain ⟨z, hz⟩ : ∃ z, z = L'[j] := ⟨_, rfl⟩
              rw [← hz] at x0 y0 y1
              obtain ⟨zk, zv⟩ := z
              simp only at x0 y0 y1
              have hba := (Below.refl wr.heap.size wr).alloc (Nat.le_refl _) (.cells #[.string ⟨zk.toArray⟩, .int .i64 zv] 34)
              have HJ2 := Lib.hid (HJ.out.trans (hba.mono HJ.out.size))
              have x1 := (World.cell?_of_block (hba.block b7 hb7)).trans x0
              have ksz2 : (Try.prog.info? 34).map (·.size) = some 2 := by kernel_rfl
              have wdef : ∃ W5, W5 = wr.alloc (.cells #[.string ⟨zk.toArray⟩, .int .i64 zv] 34) := ⟨_, rfl⟩
              clear hjl hz hba hjm hb7 hb8
              go_upto_region 42 with fail
              go_quiet (fail)
              go_wp2_with fail
              go_roundw
              case rel => exact ⟨j + 1, by omega, by go_num, Lib.hid ((HJ2.out.trans (show Below w9.heap.size _ _ from ⟨rfl, rfl, rfl, Nat.le_refl _, fun _ _ => rfl⟩)))⟩
              case measure => simp [intOf]; omega
            · obtain rfl : j = m' := by omega
              have j1 : ¬ (j : Int) < j := by omega
              go_wp2_with fail
              go_roundw
              case rel => exact ⟨i + 1, j, fd1, ak1, q', c', by omega, by omega, by go_num, rfl, by go_num, by go_num, Lib.hid ⟨L', (HP8.out.old HJ.out).fewer (fun y hy => by cases hy), HM'.out, HLM.out, HKL.out, HFA.out.1, HFA.out.2⟩⟩
              case measure => simp [intOf]; omega
        · have HV := Lib.hid (getV_none K L (by simpa using hh))
          have HH : Hid (hasV K L = false) := Lib.hid (by simpa using hh)
          clear hh
          obtain ⟨pa, hpa⟩ : ∃ pa, pa = wr.heap.size := ⟨_, rfl⟩
          obtain ⟨pk, hpk⟩ : ∃ pk, pk = wr.heap.size + 1 := ⟨_, rfl⟩
          obtain ⟨wA, hwA⟩ : ∃ wA, wA = wr.alloc (.cells #[.int .i64 1, .int .i64 av, .string ⟨kk.toArray⟩] 28) := ⟨_, rfl⟩
          obtain ⟨wB, hwB⟩ : ∃ wB, wB = wA.alloc (.cells #[.string ⟨K.toArray⟩] 9) := ⟨_, rfl⟩
          have hsA : wA.heap.size = wr.heap.size + 1 := by rw [hwA]; simp
          have hsB : wB.heap.size = wr.heap.size + 2 := by rw [hwB]; simp; omega
          have hbA : Below wr.heap.size wr wA := by rw [hwA]; exact (Below.refl _ _).alloc (Nat.le_refl _) _
          have hbB : Below wA.heap.size wA wB := by rw [hwB]; exact (Below.refl _ _).alloc (Nat.le_refl _) _
          have hPB : PS W c (M : Int) (fd : Int) (ak : Int) L L q [pk, pa] wB := (hP.beside hbA (x := pa) (by omega) (by omega)).beside hbB (x := pk) (by omega) (by omega)
          have rA3 : wA.heap[pa]? = some (.cells #[.int .i64 1, .int .i64 av, .string ⟨kk.toArray⟩] 28 (0, 0)) := by rw [hwA, hpa]; exact heap_alloc_new _ _
          have r3 : wB.heap[pa]? = some (.cells #[.int .i64 1, .int .i64 av, .string ⟨kk.toArray⟩] 28 (0, 0)) := (hbB.block pa (by omega)).trans rA3
          have r1 : wB.heap[pk]? = some (.cells #[.string ⟨K.toArray⟩] 9 (0, 0)) := by rw [hwB, hpk, ← hsA]; exact heap_alloc_new _ _
          have HX := Lib.hid (And.intro hwA hwB)
          have HY := Lib.hid (And.intro hpa hpk)
          have hRG := ckget_any q cl L K wB hPB.rd (by have := EM.out; omega)
          rw [← hm] at hRG
          rw [HH.out, HV.out] at hRG
          have HRG := Lib.hid hRG
          have HPB := Lib.hid hPB
          have HR1 := Lib.hid r1
          have HR3 := Lib.hid r3
          have HSB : Hid (pk < wB.heap.size ∧ pa < wB.heap.size ∧ W.heap.size ≤ pa) := Lib.hid (by have := hP.m.size; omega)
          have HLM0 : Hid ((L.length : Int) ≤ M ∧ m = L.length) := Lib.hid ⟨hlM, hm⟩
          have HKL0 := Lib.hid hk4
          have HFA0 := Lib.hid (And.intro hfd hak)
          have HK4 := Lib.hid hK4
          have k0B : wB.cell? ⟨pk, 0, none⟩ = some (.string ⟨K.toArray⟩) := by unfold World.cell?; rw [r1]; rfl
          clear hpa hpk hwA hwB hsA hsB hbA hbB hPB rA3 r3 r1 hRG hP hm hlM hk4 hK4
          go_upto_region 15 with fail
          rw [← HX.out.1, ← HX.out.2, ← HY.out.2, ← HY.out.1]
          clear c0 c1 c2
          go_wp2_with fail
          refine HRG.out.mono ?_
          rintro e w3 ⟨rfl, hb3⟩
          have HP3 := Lib.hid (HPB.out.old hb3)
          have s1 := (hb3.block pk HSB.out.1).trans HR1.out
          have s3 := (hb3.block pa HSB.out.2.1).trans HR3.out
          have k0 : w3.cell? ⟨pk, 0, none⟩ = some (.string ⟨K.toArray⟩) := by unfold World.cell?; rw [s1]; rfl
          have d0 : w3.cell? ⟨pa, 0, none⟩ = some (.int .i64 1) := by unfold World.cell?; rw [s3]; rfl
          have d1 : w3.cell? ⟨pa, 1, none⟩ = some (.int .i64 av) := by unfold World.cell?; rw [s3]; rfl
          have HS1 := Lib.hid s1
          have HS3 := Lib.hid s3
          have HSZ : Hid (pk < w3.heap.size ∧ pa < w3.heap.size) := Lib.hid (by have := hb3.size; have := HSB.out; omega)
          clear s1 s3 hb3 HRG HPB HR1 HR3 k0B
          obtain ⟨ak1, hak1⟩ : ∃ ak1 : Nat, ak1 = ak + 1 := ⟨_, rfl⟩
          have eak : (ak : Int) + 1 = (ak1 : Int) := by omega
          have wak : IntKind.i64.wrap ((ak : Int) + 1) = (ak1 : Int) := by rw [IntKind.wrap_i64]; have := HFA0.out; omega
          have HFA : Hid (fd ≤ i + 1 ∧ ak1 ≤ i + 1) := Lib.hid (by have := HFA0.out; omega)
          have hG := HP3.out.get K (by have := HK4.out; simp [maxLen]; omega) (by omega) (by have := HFA0.out; omega) (by omega) (by have := HFA0.out; omega)
          rw [HH.out, HV.out] at hG
          simp only [Bool.false_eq_true, if_false] at hG
          rw [eak] at hG
          have HG := Lib.hid hG
          clear hG eak hak1
          go_wp2_with fail
          refine HG.out.mono ?_
          rintro e w6 ⟨rfl, hP6, _⟩
          have HP6 := Lib.hid hP6
          clear hP6 HG k0 d0 d1 HP3 HS1 HS3
          have HLM : Hid ((L.length : Int) ≤ M) := Lib.hid HLM0.out.1
          have HKL := HKL0
          obtain ⟨m', hm'⟩ : ∃ m', m' = L.length := ⟨_, rfl⟩
          have HM' := Lib.hid hm'
          have hm9 : m' ≤ 12 := by have := HLM.out; have := EM.out; omega
          have HKY := HP6.out.keys (by have := HLM.out; have := EM.out; omega) (fun x hx => by have := HKL.out x hx; omega)
          rw [← hm'] at HKY
          have HKY := Lib.hid HKY
          obtain rfl : m' = m := by rw [hm']; exact HLM0.out.2.symm
          clear hm'
          go_wp2_with fail
          refine HKY.out.mono ?_
          rintro e w7 ⟨p7, cp7, rfl, hr7, hb7⟩
          have HR7 := Lib.hid hr7
          have HP7 := Lib.hid (HP6.out.old hb7)
          clear hr7 hb7 HKY
          go_wp2_with fail
          refine HP7.out.hits.mono ?_
          rintro e w8 ⟨rfl, hb8⟩
          have HP8 := Lib.hid (HP7.out.old hb8)
          have HR8 := Lib.hid (HR7.out.old hb8)
          have hL8 := (HP7.out.old hb8).len
          rw [← HM'.out] at hL8
          have HL8 := Lib.hid hL8
          clear hb8 hL8 HP7 HR7
          go_wp2_with fail
          refine HL8.out.mono ?_
          rintro e w9 ⟨rfl, hw9⟩
          obtain rfl : w9 = w8 := hw9
          clear HL8
          go_upto_region 40 with fail
          go_loopw [176] (fun s176 wx => ∃ j : Nat, j ≤ m' ∧ s176 = .int .i64 (j : Int) ∧ Hid (Below w9.heap.size w9 wx)) (fun j _ => m' - (intOf j).toNat)
          case atStart => exact ⟨0, Nat.zero_le _, rfl, Lib.hid (Below.refl _ _)⟩
          case round =>
            obtain ⟨j, hj, rfl, HJ⟩ := hrel
            by_cases hjm : j < m'
            · have j1 : (j : Int) < m' := by omega
              have j0 : (0 : Int) ≤ j := by omega
              have hjl : j < L.length := by rw [← HM'.out]; exact hjm
              obtain ⟨b7, o7, rfl, hb7, x0⟩ := (HR8.out.old HJ.out).str j (by rw [List.length_map]; exact hjl)
              obtain ⟨b8, o8, rfl, hb8, y0, y1⟩ := (HP8.out.rd.old HJ.out).kv j hjl
              rw [List.getElem_map] at x0
              obtain ⟨z, hz⟩ : ∃ z, z = L[j] := ⟨_, rfl⟩
              rw [← hz] at x0 y0 y1
              obtain ⟨zk, zv⟩ := z
              simp only at x0 y0 y1
              have hba := (Below.refl wr.heap.size wr).alloc (Nat.le_refl _) (.cells #[.string ⟨zk.toArray⟩, .int .i64 zv] 34)
              have HJ2 := Lib.hid (HJ.out.trans (hba.mono HJ.out.size))
              have x1 := (World.cell?_of_block (hba.block b7 hb7)).trans x0
              have ksz2 : (Try.prog.info? 34).map (·.size) = some 2 := by kernel_rfl
              have wdef : ∃ W5, W5 = wr.alloc (.cells #[.string ⟨zk.toArray⟩, .int .i64 zv] 34) := ⟨_, rfl⟩
              clear hjl hz hba hjm hb7 hb8
              go_upto_region 42 with fail
              go_quiet (fail)
              go_wp2_with fail
              go_roundw
              case rel => exact ⟨j + 1, by omega, by go_num, Lib.hid ((HJ2.out.trans (show Below w9.heap.size _ _ from ⟨rfl, rfl, rfl, Nat.le_refl _, fun _ _ => rfl⟩)))⟩
              case measure => simp [intOf]; omega
            · obtain rfl : j = m' := by omega
              have j1 : ¬ (j : Int) < j := by omega
              go_wp2_with fail
              go_roundw
              case rel => exact ⟨i + 1, j, fd, ak1, q, cl, by omega, by omega, by go_num, rfl, by go_num, by go_num, Lib.hid ⟨L, (HP8.out.old HJ.out).fewer (fun y hy => by cases hy), HM'.out, HLM.out, HKL.out, HFA.out.1, HFA.out.2⟩⟩
              case measure => simp [intOf]; omega
      by_cases hd2 : kd = 2
      · subst hd2
        by_cases hh : hasV K L = true
        · obtain ⟨v, hv⟩ : ∃ v, v = getV K L := ⟨_, rfl⟩
          have HH := Lib.hid hh
          have HV := Lib.hid hv
          clear hh hv
          obtain ⟨pa, hpa⟩ : ∃ pa, pa = wr.heap.size := ⟨_, rfl⟩
          obtain ⟨pk, hpk⟩ : ∃ pk, pk = wr.heap.size + 1 := ⟨_, rfl⟩
          obtain ⟨wA, hwA⟩ : ∃ wA, wA = wr.alloc (.cells #[.int .i64 2, .int .i64 av, .string ⟨kk.toArray⟩] 28) := ⟨_, rfl⟩
          obtain ⟨wB, hwB⟩ : ∃ wB, wB = wA.alloc (.cells #[.string ⟨K.toArray⟩] 9) := ⟨_, rfl⟩
          have hsA : wA.heap.size = wr.heap.size + 1 := by rw [hwA]; simp
          have hsB : wB.heap.size = wr.heap.size + 2 := by rw [hwB]; simp; omega
          have hbA : Below wr.heap.size wr wA := by rw [hwA]; exact (Below.refl _ _).alloc (Nat.le_refl _) _
          have hbB : Below wA.heap.size wA wB := by rw [hwB]; exact (Below.refl _ _).alloc (Nat.le_refl _) _
          have hPB : PS W c (M : Int) (fd : Int) (ak : Int) L L q [pk, pa] wB := (hP.beside hbA (x := pa) (by omega) (by omega)).beside hbB (x := pk) (by omega) (by omega)
          have rA3 : wA.heap[pa]? = some (.cells #[.int .i64 2, .int .i64 av, .string ⟨kk.toArray⟩] 28 (0, 0)) := by rw [hwA, hpa]; exact heap_alloc_new _ _
          have r3 : wB.heap[pa]? = some (.cells #[.int .i64 2, .int .i64 av, .string ⟨kk.toArray⟩] 28 (0, 0)) := (hbB.block pa (by omega)).trans rA3
          have r1 : wB.heap[pk]? = some (.cells #[.string ⟨K.toArray⟩] 9 (0, 0)) := by rw [hwB, hpk, ← hsA]; exact heap_alloc_new _ _
          have HX := Lib.hid (And.intro hwA hwB)
          have HY := Lib.hid (And.intro hpa hpk)
          have hRG := ckget_any q cl L K wB hPB.rd (by have := EM.out; omega)
          rw [← hm] at hRG
          rw [HH.out, ← HV.out] at hRG
          have HRG := Lib.hid hRG
          have HPB := Lib.hid hPB
          have HR1 := Lib.hid r1
          have HR3 := Lib.hid r3
          have HSB : Hid (pk < wB.heap.size ∧ pa < wB.heap.size ∧ W.heap.size ≤ pa) := Lib.hid (by have := hP.m.size; omega)
          have HLM0 : Hid ((L.length : Int) ≤ M ∧ m = L.length) := Lib.hid ⟨hlM, hm⟩
          have HKL0 := Lib.hid hk4
          have HFA0 := Lib.hid (And.intro hfd hak)
          have HK4 := Lib.hid hK4
          have k0B : wB.cell? ⟨pk, 0, none⟩ = some (.string ⟨K.toArray⟩) := by unfold World.cell?; rw [r1]; rfl
          clear hpa hpk hwA hwB hsA hsB hbA hbB hPB rA3 r3 r1 hRG hP hm hlM hk4 hK4
          go_upto_region 15 with fail
          rw [← HX.out.1, ← HX.out.2, ← HY.out.2, ← HY.out.1]
          clear c0 c1 c2
          go_wp2_with fail
          refine HRG.out.mono ?_
          rintro e w3 ⟨rfl, hb3⟩
          have HP3 := Lib.hid (HPB.out.old hb3)
          have s1 := (hb3.block pk HSB.out.1).trans HR1.out
          have s3 := (hb3.block pa HSB.out.2.1).trans HR3.out
          have k0 : w3.cell? ⟨pk, 0, none⟩ = some (.string ⟨K.toArray⟩) := by unfold World.cell?; rw [s1]; rfl
          have d0 : w3.cell? ⟨pa, 0, none⟩ = some (.int .i64 2) := by unfold World.cell?; rw [s3]; rfl
          have d1 : w3.cell? ⟨pa, 1, none⟩ = some (.int .i64 av) := by unfold World.cell?; rw [s3]; rfl
          have HS1 := Lib.hid s1
          have HS3 := Lib.hid s3
          have HSZ : Hid (pk < w3.heap.size ∧ pa < w3.heap.size) := Lib.hid (by have := hb3.size; have := HSB.out; omega)
          clear s1 s3 hb3 HRG HPB HR1 HR3 k0B
          obtain ⟨ak1, hak1⟩ : ∃ ak1 : Nat, ak1 = ak + 1 := ⟨_, rfl⟩
          have eak : (ak : Int) + 1 = (ak1 : Int) := by omega
          have wak : IntKind.i64.wrap ((ak : Int) + 1) = (ak1 : Int) := by rw [IntKind.wrap_i64]; have := HFA0.out; omega
          obtain ⟨fd1, hfd1⟩ : ∃ fd1 : Nat, fd1 = fd + 1 := ⟨_, rfl⟩
          have efd : (fd : Int) + 1 = (fd1 : Int) := by omega
          have wfd : IntKind.i64.wrap ((fd : Int) + 1) = (fd1 : Int) := by rw [IntKind.wrap_i64]; have := HFA0.out; omega
          obtain ⟨L', hL'⟩ : ∃ L', L' = ((K, v) :: dropK K L).take M := ⟨_, rfl⟩
          have HKL : Hid (∀ x ∈ L', x.1.length ≤ 4) := Lib.hid (by
            rw [hL']
            intro x hx
            rcases List.mem_cons.1 (List.mem_of_mem_take hx) with rfl | hx
            · exact HK4.out
            · exact HKL0.out x (List.mem_filter.1 hx).1)
          have HLM : Hid ((L'.length : Int) ≤ M) := Lib.hid (by rw [hL', List.length_take]; omega)
          have hLe : (K, v) :: dropK K L = L' := by
            rw [hL', List.take_of_length_le]
            have h5 := hasV_len K L HH.out
            have h6 := HLM0.out.1
            simp only [List.length_cons]; omega
          have HFA : Hid (fd1 ≤ i + 1 ∧ ak1 ≤ i + 1) := Lib.hid (by have := HFA0.out; omega)
          have hU := HP3.out.use (by have := HLM0.out; have := EM.out; omega) cl M (by have := EM.out; omega) (by have := EM.out; omega) K v
          rw [← hL', ← HLM0.out.2] at hU
          have HU := Lib.hid hU
          have HLE := Lib.hid hLe
          have HEK := Lib.hid (And.intro eak efd)
          clear hU hL' hLe eak efd hak1 hfd1
          go_wp2_with fail
          refine HU.out.mono ?_
          rintro e w4 ⟨q', c', rfl, hP4, hb4⟩
          have s1 := (hb4.block pk HSZ.out.1).trans HS1.out
          have s3 := (hb4.block pa HSZ.out.2).trans HS3.out
          have k0' : w4.cell? ⟨pk, 0, none⟩ = some (.string ⟨K.toArray⟩) := by unfold World.cell?; rw [s1]; rfl
          have d0' : w4.cell? ⟨pa, 0, none⟩ = some (.int .i64 2) := by unfold World.cell?; rw [s3]; rfl
          have d1' : w4.cell? ⟨pa, 1, none⟩ = some (.int .i64 av) := by unfold World.cell?; rw [s3]; rfl
          obtain ⟨pm, hpm⟩ : ∃ pm, pm = w4.heap.size := ⟨_, rfl⟩
          obtain ⟨wM, hwM⟩ : ∃ wM, wM = w4.alloc (.cells #[.int .i64 0] 3) := ⟨_, rfl⟩
          have hbM : Below w4.heap.size w4 wM := by rw [hwM]; exact (Below.refl _ _).alloc (Nat.le_refl _) _
          have hsM : wM.heap.size = w4.heap.size + 1 := by rw [hwM]; simp
          have r2 : wM.heap[pm]? = some (.cells #[.int .i64 0] 3 (0, 0)) := by rw [hwM, hpm]; exact heap_alloc_new _ _
          have t1 := (hbM.block pk (Nat.lt_of_lt_of_le HSZ.out.1 hb4.size)).trans s1
          have t3 := (hbM.block pa (Nat.lt_of_lt_of_le HSZ.out.2 hb4.size)).trans s3
          have hPM := (hP4).beside hbM (x := pm) (by omega) (by omega)
          have hG := hPM.ofHit K (by have := HK4.out; simp [maxLen]; omega) (by omega) (by have := HFA0.out; omega) (by omega) (by have := HFA0.out; omega) (.func (.func 13) #[] #[.pointer (some ⟨pk, 0, none⟩), .pointer (some ⟨pm, 0, none⟩), .pointer (some ⟨pa, 0, none⟩)]) HH.out
          rw [← HV.out, HLE.out, HEK.out.1, HEK.out.2] at hG
          have HG := Lib.hid hG
          have HR2 := Lib.hid r2
          have k0M : wM.cell? ⟨pk, 0, none⟩ = some (.string ⟨K.toArray⟩) := by unfold World.cell?; rw [t1]; rfl
          have HWM := Lib.hid (And.intro hpm hwM)
          clear hG hP4 hb4 s1 s3 k0 d0 d1 HU HP3 HS1 HS3 hpm hwM hbM hsM r2 t1 t3 hPM
          go_upto_region 30 with fail
          rw [← HWM.out.2, ← HWM.out.1]
          clear k0' d0' d1'
          go_wp2_with fail
          refine HG.out.mono ?_
          rintro e w6 ⟨rfl, hP6, hx6⟩
          have r26 := (hx6 pm (by simp)).trans HR2.out
          have m0 : w6.cell? ⟨pm, 0, none⟩ = some (.int .i64 0) := by unfold World.cell?; rw [r26]; rfl
          have HP6 := Lib.hid hP6
          clear hP6 hx6 r26 HG k0M
          go_upto_region 35 with fail
          clear m0
          obtain ⟨m', hm'⟩ : ∃ m', m' = L'.length := ⟨_, rfl⟩
          have HM' := Lib.hid hm'
          have hm9 : m' ≤ 12 := by have := HLM.out; have := EM.out; omega
          have HKY := HP6.out.keys (by have := HLM.out; have := EM.out; omega) (fun x hx => by have := HKL.out x hx; omega)
          rw [← hm'] at HKY
          have HKY := Lib.hid HKY
          try rw [← hm']
          clear hm'
          go_wp2_with fail
          refine HKY.out.mono ?_
          rintro e w7 ⟨p7, cp7, rfl, hr7, hb7⟩
          have HR7 := Lib.hid hr7
          have HP7 := Lib.hid (HP6.out.old hb7)
          clear hr7 hb7 HKY
          go_wp2_with fail
          refine HP7.out.hits.mono ?_
          rintro e w8 ⟨rfl, hb8⟩
          have HP8 := Lib.hid (HP7.out.old hb8)
          have HR8 := Lib.hid (HR7.out.old hb8)
          have hL8 := (HP7.out.old hb8).len
          rw [← HM'.out] at hL8
          have HL8 := Lib.hid hL8
          clear hb8 hL8 HP7 HR7
          go_wp2_with fail
          refine HL8.out.mono ?_
          rintro e w9 ⟨rfl, hw9⟩
          obtain rfl : w9 = w8 := hw9
          clear HL8
          go_upto_region 40 with fail
          go_loopw [176] (fun s176 wx => ∃ j : Nat, j ≤ m' ∧ s176 = .int .i64 (j : Int) ∧ Hid (Below w9.heap.size w9 wx)) (fun j _ => m' - (intOf j).toNat)
          case atStart => exact ⟨0, Nat.zero_le _, rfl, Lib.hid (Below.refl _ _)⟩
          case round =>
            obtain ⟨j, hj, rfl, HJ⟩ := hrel
            by_cases hjm : j < m'
            · have j1 : (j : Int) < m' := by omega
              have j0 : (0 : Int) ≤ j := by omega
              have hjl : j < L'.length := by rw [← HM'.out]; exact hjm
              obtain ⟨b7, o7, rfl, hb7, x0⟩ := (HR8.out.old HJ.out).str j (by rw [List.length_map]; exact hjl)
              obtain ⟨b8, o8, rfl, hb8, y0, y1⟩ := (HP8.out.rd.old HJ.out).kv j hjl
              rw [List.getElem_map] at x0
              obtain ⟨z, hz⟩ : ∃ z, z = L'[j] := ⟨_, rfl⟩
              rw [← hz] at x0 y0 y1
              obtain ⟨zk, zv⟩ := z
              simp only at x0 y0 y1
              have hba := (Below.refl wr.heap.size wr).alloc (Nat.le_refl _) (.cells #[.string ⟨zk.toArray⟩, .int .i64 zv] 34)
              have HJ2 := Lib.hid (HJ.out.trans (hba.mono HJ.out.size))
              have x1 := (World.cell?_of_block (hba.block b7 hb7)).trans x0
              have ksz2 : (Try.prog.info? 34).map (·.size) = some 2 := by kernel_rfl
              have wdef : ∃ W5, W5 = wr.alloc (.cells #[.string ⟨zk.toArray⟩, .int .i64 zv] 34) := ⟨_, rfl⟩
              clear hjl hz hba hjm hb7 hb8
              go_upto_region 42 with fail
              go_quiet (fail)
              go_wp2_with fail
              go_roundw
              case rel => exact ⟨j + 1, by omega, by go_num, Lib.hid ((HJ2.out.trans (show Below w9.heap.size _ _ from ⟨rfl, rfl, rfl, Nat.le_refl _, fun _ _ => rfl⟩)))⟩
              case measure => simp [intOf]; omega
            · obtain rfl : j = m' := by omega
              have j1 : ¬ (j : Int) < j := by omega
              go_wp2_with fail
              go_roundw
              case rel => exact ⟨i + 1, j, fd1, ak1, q', c', by omega, by omega, by go_num, rfl, by go_num, by go_num, Lib.hid ⟨L', (HP8.out.old HJ.out).fewer (fun y hy => by cases hy), HM'.out, HLM.out, HKL.out, HFA.out.1, HFA.out.2⟩⟩
              case measure => simp [intOf]; omega
        · have HV := Lib.hid (getV_none K L (by simpa using hh))
          have HH : Hid (hasV K L = false) := Lib.hid (by simpa using hh)
          clear hh
          obtain ⟨pa, hpa⟩ : ∃ pa, pa = wr.heap.size := ⟨_, rfl⟩
          obtain ⟨pk, hpk⟩ : ∃ pk, pk = wr.heap.size + 1 := ⟨_, rfl⟩
          obtain ⟨wA, hwA⟩ : ∃ wA, wA = wr.alloc (.cells #[.int .i64 2, .int .i64 av, .string ⟨kk.toArray⟩] 28) := ⟨_, rfl⟩
          obtain ⟨wB, hwB⟩ : ∃ wB, wB = wA.alloc (.cells #[.string ⟨K.toArray⟩] 9) := ⟨_, rfl⟩
          have hsA : wA.heap.size = wr.heap.size + 1 := by rw [hwA]; simp
          have hsB : wB.heap.size = wr.heap.size + 2 := by rw [hwB]; simp; omega
          have hbA : Below wr.heap.size wr wA := by rw [hwA]; exact (Below.refl _ _).alloc (Nat.le_refl _) _
          have hbB : Below wA.heap.size wA wB := by rw [hwB]; exact (Below.refl _ _).alloc (Nat.le_refl _) _
          have hPB : PS W c (M : Int) (fd : Int) (ak : Int) L L q [pk, pa] wB := (hP.beside hbA (x := pa) (by omega) (by omega)).beside hbB (x := pk) (by omega) (by omega)
          have rA3 : wA.heap[pa]? = some (.cells #[.int .i64 2, .int .i64 av, .string ⟨kk.toArray⟩] 28 (0, 0)) := by rw [hwA, hpa]; exact heap_alloc_new _ _
          have r3 : wB.heap[pa]? = some (.cells #[.int .i64 2, .int .i64 av, .string ⟨kk.toArray⟩] 28 (0, 0)) := (hbB.block pa (by omega)).trans rA3
          have r1 : wB.heap[pk]? = some (.cells #[.string ⟨K.toArray⟩] 9 (0, 0)) := by rw [hwB, hpk, ← hsA]; exact heap_alloc_new _ _
          have HX := Lib.hid (And.intro hwA hwB)
          have HY := Lib.hid (And.intro hpa hpk)
          have hRG := ckget_any q cl L K wB hPB.rd (by have := EM.out; omega)
          rw [← hm] at hRG
          rw [HH.out, HV.out] at hRG
          have HRG := Lib.hid hRG
          have HPB := Lib.hid hPB
          have HR1 := Lib.hid r1
          have HR3 := Lib.hid r3
          have HSB : Hid (pk < wB.heap.size ∧ pa < wB.heap.size ∧ W.heap.size ≤ pa) := Lib.hid (by have := hP.m.size; omega)
          have HLM0 : Hid ((L.length : Int) ≤ M ∧ m = L.length) := Lib.hid ⟨hlM, hm⟩
          have HKL0 := Lib.hid hk4
          have HFA0 := Lib.hid (And.intro hfd hak)
          have HK4 := Lib.hid hK4
          have k0B : wB.cell? ⟨pk, 0, none⟩ = some (.string ⟨K.toArray⟩) := by unfold World.cell?; rw [r1]; rfl
          clear hpa hpk hwA hwB hsA hsB hbA hbB hPB rA3 r3 r1 hRG hP hm hlM hk4 hK4
          go_upto_region 15 with fail
          rw [← HX.out.1, ← HX.out.2, ← HY.out.2, ← HY.out.1]
          clear c0 c1 c2
          go_wp2_with fail
          refine HRG.out.mono ?_
          rintro e w3 ⟨rfl, hb3⟩
          have HP3 := Lib.hid (HPB.out.old hb3)
          have s1 := (hb3.block pk HSB.out.1).trans HR1.out
          have s3 := (hb3.block pa HSB.out.2.1).trans HR3.out
          have k0 : w3.cell? ⟨pk, 0, none⟩ = some (.string ⟨K.toArray⟩) := by unfold World.cell?; rw [s1]; rfl
          have d0 : w3.cell? ⟨pa, 0, none⟩ = some (.int .i64 2) := by unfold World.cell?; rw [s3]; rfl
          have d1 : w3.cell? ⟨pa, 1, none⟩ = some (.int .i64 av) := by unfold World.cell?; rw [s3]; rfl
          have HS1 := Lib.hid s1
          have HS3 := Lib.hid s3
          have HSZ : Hid (pk < w3.heap.size ∧ pa < w3.heap.size) := Lib.hid (by have := hb3.size; have := HSB.out; omega)
          clear s1 s3 hb3 HRG HPB HR1 HR3 k0B
          obtain ⟨ak1, hak1⟩ : ∃ ak1 : Nat, ak1 = ak + 1 := ⟨_, rfl⟩
          have eak : (ak : Int) + 1 = (ak1 : Int) := by omega
          have wak : IntKind.i64.wrap ((ak : Int) + 1) = (ak1 : Int) := by rw [IntKind.wrap_i64]; have := HFA0.out; omega
          obtain ⟨L', hL'⟩ : ∃ L', L' = ((K, av) :: dropK K L).take M := ⟨_, rfl⟩
          have HKL : Hid (∀ x ∈ L', x.1.length ≤ 4) := Lib.hid (by
            rw [hL']
            intro x hx
            rcases List.mem_cons.1 (List.mem_of_mem_take hx) with rfl | hx
            · exact HK4.out
            · exact HKL0.out x (List.mem_filter.1 hx).1)
          have HLM : Hid ((L'.length : Int) ≤ M) := Lib.hid (by rw [hL', List.length_take]; omega)
          have HFA : Hid (fd ≤ i + 1 ∧ ak1 ≤ i + 1) := Lib.hid (by have := HFA0.out; omega)
          have hW3 := HP3.out.m.size
          obtain ⟨pm, hpm⟩ : ∃ pm, pm = w3.heap.size := ⟨_, rfl⟩
          obtain ⟨wM, hwM⟩ : ∃ wM, wM = w3.alloc (.cells #[.int .i64 0] 3) := ⟨_, rfl⟩
          have hbM : Below w3.heap.size w3 wM := by rw [hwM]; exact (Below.refl _ _).alloc (Nat.le_refl _) _
          have hsM : wM.heap.size = w3.heap.size + 1 := by rw [hwM]; simp
          have r2 : wM.heap[pm]? = some (.cells #[.int .i64 0] 3 (0, 0)) := by rw [hwM, hpm]; exact heap_alloc_new _ _
          have t1 := (hbM.block pk HSZ.out.1).trans HS1.out
          have t3 := (hbM.block pa HSZ.out.2).trans HS3.out
          have hPM := (HP3.out).beside hbM (x := pm) (by omega) (by omega)
          have hqm : ∀ a, q = some a → a.block ≠ pm := by
            intro a e
            obtain ⟨F0, _, _, h5, _⟩ := HP3.out.ex
            have := (h5 a e).2; omega
          have hG := hPM.ofMiss K (by have := HK4.out; omega) (by omega) (by have := HFA0.out; omega) (by omega) (by have := HFA0.out; omega) (by have := EM.out; omega) (by have := EM.out; omega) HLM0.out.1 HH.out pk pm pa 2 av kk (by simp) (by simp) (by simp) t1 r2 t3 (by have := HSZ.out; omega) (by omega) hqm
          rw [Int.toNat_natCast, ← hL', eak] at hG
          have HG := Lib.hid hG
          have hnk : pk ≠ pm := by have := HSZ.out; omega
          have hna : pa ≠ pm := by have := HSZ.out; omega
          have HT := Lib.hid (And.intro t1 t3)
          have HNN := Lib.hid (And.intro hnk hna)
          have k0M : wM.cell? ⟨pk, 0, none⟩ = some (.string ⟨K.toArray⟩) := by unfold World.cell?; rw [t1]; rfl
          have HWM := Lib.hid (And.intro hpm hwM)
          have HL' := Lib.hid hL'
          clear hG HS1 HS3 HP3 hpm hwM hbM hsM r2 t1 t3 hPM hqm hnk hna eak hak1 hL' hW3
          go_upto_region 30 with fail
          rw [← HWM.out.2, ← HWM.out.1]
          clear k0 d0 d1
          go_wp2_with fail
          refine HG.out.mono ?_
          rintro e w5 ⟨rfl, hP5, r25, hx5⟩
          have m0 : w5.cell? ⟨pm, 0, none⟩ = some (.int .i64 1) := by unfold World.cell?; rw [r25]; rfl
          have s1 := (hx5 pk (by simp) HNN.out.1).trans HT.out.1
          have s3 := (hx5 pa (by simp) HNN.out.2).trans HT.out.2
          have k0' : w5.cell? ⟨pk, 0, none⟩ = some (.string ⟨K.toArray⟩) := by unfold World.cell?; rw [s1]; rfl
          have d0' : w5.cell? ⟨pa, 0, none⟩ = some (.int .i64 2) := by unfold World.cell?; rw [s3]; rfl
          have d1' : w5.cell? ⟨pa, 1, none⟩ = some (.int .i64 av) := by unfold World.cell?; rw [s3]; rfl
          have hU := hP5.use (by have := HLM0.out; have := EM.out; omega) cl M (by have := EM.out; omega) (by have := EM.out; omega) K av
          rw [← HL'.out, ← HLM0.out.2] at hU
          have HU := Lib.hid hU
          clear hP5 r25 hx5 s1 s3 HG k0M hU
          go_wp2_with fail
          refine HU.out.mono ?_
          rintro e w6 ⟨q', c', rfl, hP6, _⟩
          have HP6 := Lib.hid hP6
          clear hP6 HU k0' d0' d1' m0
          obtain ⟨m', hm'⟩ : ∃ m', m' = L'.length := ⟨_, rfl⟩
          have HM' := Lib.hid hm'
          have hm9 : m' ≤ 12 := by have := HLM.out; have := EM.out; omega
          have HKY := HP6.out.keys (by have := HLM.out; have := EM.out; omega) (fun x hx => by have := HKL.out x hx; omega)
          rw [← hm'] at HKY
          have HKY := Lib.hid HKY
          try rw [← hm']
          clear hm'
          go_wp2_with fail
          refine HKY.out.mono ?_
          rintro e w7 ⟨p7, cp7, rfl, hr7, hb7⟩
          have HR7 := Lib.hid hr7
          have HP7 := Lib.hid (HP6.out.old hb7)
          clear hr7 hb7 HKY
          go_wp2_with fail
          refine HP7.out.hits.mono ?_
          rintro e w8 ⟨rfl, hb8⟩
          have HP8 := Lib.hid (HP7.out.old hb8)
          have HR8 := Lib.hid (HR7.out.old hb8)
          have hL8 := (HP7.out.old hb8).len
          rw [← HM'.out] at hL8
          have HL8 := Lib.hid hL8
          clear hb8 hL8 HP7 HR7
          go_wp2_with fail
          refine HL8.out.mono ?_
          rintro e w9 ⟨rfl, hw9⟩
          obtain rfl : w9 = w8 := hw9
          clear HL8
          go_upto_region 40 with fail
          go_loopw [176] (fun s176 wx => ∃ j : Nat, j ≤ m' ∧ s176 = .int .i64 (j : Int) ∧ Hid (Below w9.heap.size w9 wx)) (fun j _ => m' - (intOf j).toNat)
          case atStart => exact ⟨0, Nat.zero_le _, rfl, Lib.hid (Below.refl _ _)⟩
          case round =>
            obtain ⟨j, hj, rfl, HJ⟩ := hrel
            by_cases hjm : j < m'
            · have j1 : (j : Int) < m' := by omega
              have j0 : (0 : Int) ≤ j := by omega
              have hjl : j < L'.length := by rw [← HM'.out]; exact hjm
              obtain ⟨b7, o7, rfl, hb7, x0⟩ := (HR8.out.old HJ.out).str j (by rw [List.length_map]; exact hjl)
              obtain ⟨b8, o8, rfl, hb8, y0, y1⟩ := (HP8.out.rd.old HJ.out).kv j hjl
              rw [List.getElem_map] at x0
              obtain ⟨z, hz⟩ : ∃ z, z = L'[j] := ⟨_, rfl⟩
              rw [← hz] at x0 y0 y1
              obtain ⟨zk, zv⟩ := z
              simp only at x0 y0 y1
              have hba := (Below.refl wr.heap.size wr).alloc (Nat.le_refl _) (.cells #[.string ⟨zk.toArray⟩, .int .i64 zv] 34)
              have HJ2 := Lib.hid (HJ.out.trans (hba.mono HJ.out.size))
              have x1 := (World.cell?_of_block (hba.block b7 hb7)).trans x0
              have ksz2 : (Try.prog.info? 34).map (·.size) = some 2 := by kernel_rfl
              have wdef : ∃ W5, W5 = wr.alloc (.cells #[.string ⟨zk.toArray⟩, .int .i64 zv] 34) := ⟨_, rfl⟩
              clear hjl hz hba hjm hb7 hb8
              go_upto_region 42 with fail
              go_quiet (fail)
              go_wp2_with fail
              go_roundw
              case rel => exact ⟨j + 1, by omega, by go_num, Lib.hid ((HJ2.out.trans (show Below w9.heap.size _ _ from ⟨rfl, rfl, rfl, Nat.le_refl _, fun _ _ => rfl⟩)))⟩
              case measure => simp [intOf]; omega
            · obtain rfl : j = m' := by omega
              have j1 : ¬ (j : Int) < j := by omega
              go_wp2_with fail
              go_roundw
              case rel => exact ⟨i + 1, j, fd, ak1, q', c', by omega, by omega, by go_num, rfl, by go_num, by go_num, Lib.hid ⟨L', (HP8.out.old HJ.out).fewer (fun y hy => by cases hy), HM'.out, HLM.out, HKL.out, HFA.out.1, HFA.out.2⟩⟩
              case measure => simp [intOf]; omega
      have hq1 : (kd == 1) = false := by simpa using hd1
      have hq2 : (kd == 2) = false := by simpa using hd2
      obtain ⟨pa, hpa⟩ : ∃ pa, pa = wr.heap.size := ⟨_, rfl⟩
      obtain ⟨pk, hpk⟩ : ∃ pk, pk = wr.heap.size + 1 := ⟨_, rfl⟩
      obtain ⟨wA, hwA⟩ : ∃ wA, wA = wr.alloc (.cells #[.int .i64 kd, .int .i64 av, .string ⟨kk.toArray⟩] 28) := ⟨_, rfl⟩
      obtain ⟨wB, hwB⟩ : ∃ wB, wB = wA.alloc (.cells #[.string ⟨K.toArray⟩] 9) := ⟨_, rfl⟩
      have hsA : wA.heap.size = wr.heap.size + 1 := by rw [hwA]; simp
      have hsB : wB.heap.size = wr.heap.size + 2 := by rw [hwB]; simp; omega
      have hbA : Below wr.heap.size wr wA := by rw [hwA]; exact (Below.refl _ _).alloc (Nat.le_refl _) _
      have hbB : Below wA.heap.size wA wB := by rw [hwB]; exact (Below.refl _ _).alloc (Nat.le_refl _) _
      have hPB : PS W c (M : Int) (fd : Int) (ak : Int) L L q [pk, pa] wB := (hP.beside hbA (x := pa) (by omega) (by omega)).beside hbB (x := pk) (by omega) (by omega)
      have rA3 : wA.heap[pa]? = some (.cells #[.int .i64 kd, .int .i64 av, .string ⟨kk.toArray⟩] 28 (0, 0)) := by rw [hwA, hpa]; exact heap_alloc_new _ _
      have r3 : wB.heap[pa]? = some (.cells #[.int .i64 kd, .int .i64 av, .string ⟨kk.toArray⟩] 28 (0, 0)) := (hbB.block pa (by omega)).trans rA3
      have r1 : wB.heap[pk]? = some (.cells #[.string ⟨K.toArray⟩] 9 (0, 0)) := by rw [hwB, hpk, ← hsA]; exact heap_alloc_new _ _
      have HX := Lib.hid (And.intro hwA hwB)
      have HY := Lib.hid (And.intro hpa hpk)
      have hRG := ckget_any q cl L K wB hPB.rd (by have := EM.out; omega)
      rw [← hm] at hRG
      have HRG := Lib.hid hRG
      have HPB := Lib.hid hPB
      have HR1 := Lib.hid r1
      have HR3 := Lib.hid r3
      have HSB : Hid (pk < wB.heap.size ∧ pa < wB.heap.size ∧ W.heap.size ≤ pa) := Lib.hid (by have := hP.m.size; omega)
      have HLM0 : Hid ((L.length : Int) ≤ M ∧ m = L.length) := Lib.hid ⟨hlM, hm⟩
      have HKL0 := Lib.hid hk4
      have HFA0 := Lib.hid (And.intro hfd hak)
      have HK4 := Lib.hid hK4
      have k0B : wB.cell? ⟨pk, 0, none⟩ = some (.string ⟨K.toArray⟩) := by unfold World.cell?; rw [r1]; rfl
      clear hpa hpk hwA hwB hsA hsB hbA hbB hPB rA3 r3 r1 hRG hP hm hlM hk4 hK4
      go_upto_region 15 with fail
      rw [← HX.out.1, ← HX.out.2, ← HY.out.2, ← HY.out.1]
      clear c0 c1 c2
      go_wp2_with fail
      refine HRG.out.mono ?_
      rintro e w3 ⟨rfl, hb3⟩
      have HP3 := Lib.hid (HPB.out.old hb3)
      have s1 := (hb3.block pk HSB.out.1).trans HR1.out
      have s3 := (hb3.block pa HSB.out.2.1).trans HR3.out
      have k0 : w3.cell? ⟨pk, 0, none⟩ = some (.string ⟨K.toArray⟩) := by unfold World.cell?; rw [s1]; rfl
      have d0 : w3.cell? ⟨pa, 0, none⟩ = some (.int .i64 kd) := by unfold World.cell?; rw [s3]; rfl
      have d1 : w3.cell? ⟨pa, 1, none⟩ = some (.int .i64 av) := by unfold World.cell?; rw [s3]; rfl
      have HS1 := Lib.hid s1
      have HS3 := Lib.hid s3
      have HSZ : Hid (pk < w3.heap.size ∧ pa < w3.heap.size) := Lib.hid (by have := hb3.size; have := HSB.out; omega)
      clear s1 s3 hb3 HRG HPB HR1 HR3 k0B
      have hPut := HP3.out.put (by have := EM.out; omega) (by have := EM.out; omega) HLM0.out.1 K (by have := HK4.out; omega) av
      rw [Int.toNat_natCast] at hPut
      obtain ⟨L', hL'⟩ : ∃ L', L' = ((K, av) :: dropK K L).take M := ⟨_, rfl⟩
      rw [← hL'] at hPut
      have HPut := Lib.hid hPut
      have HKL : Hid (∀ x ∈ L', x.1.length ≤ 4) := Lib.hid (by
        rw [hL']
        intro x hx
        rcases List.mem_cons.1 (List.mem_of_mem_take hx) with rfl | hx
        · exact HK4.out
        · exact HKL0.out x (List.mem_filter.1 hx).1)
      have HLM : Hid ((L'.length : Int) ≤ M) := Lib.hid (by rw [hL', List.length_take]; omega)
      have HFA : Hid (fd ≤ i + 1 ∧ ak ≤ i + 1) := Lib.hid (by have := HFA0.out; omega)
      have HL' := Lib.hid hL'
      clear hPut hL'
      go_wp2_with fail
      refine HPut.out.mono ?_
      rintro e w4 ⟨rfl, hP4, hx4⟩
      have s1 := (hx4 pk (by simp)).trans HS1.out
      have s3 := (hx4 pa (by simp)).trans HS3.out
      have k0' : w4.cell? ⟨pk, 0, none⟩ = some (.string ⟨K.toArray⟩) := by unfold World.cell?; rw [s1]; rfl
      have d0' : w4.cell? ⟨pa, 0, none⟩ = some (.int .i64 kd) := by unfold World.cell?; rw [s3]; rfl
      have d1' : w4.cell? ⟨pa, 1, none⟩ = some (.int .i64 av) := by unfold World.cell?; rw [s3]; rfl
      have hU := hP4.use (by have := HLM0.out; have := EM.out; omega) cl M (by have := EM.out; omega) (by have := EM.out; omega) K av
      rw [← HL'.out, ← HLM0.out.2] at hU
      have HU := Lib.hid hU
      clear k0 d0 d1 hU hP4 hx4 s1 s3 HPut HP3 HS1 HS3
      go_wp2_with fail
      refine HU.out.mono ?_
      rintro e w6 ⟨q', c', rfl, hP6, _⟩
      have HP6 := Lib.hid hP6
      clear hP6 HU k0' d0' d1'
      obtain ⟨m', hm'⟩ : ∃ m', m' = L'.length := ⟨_, rfl⟩
      have HM' := Lib.hid hm'
      have hm9 : m' ≤ 12 := by have := HLM.out; have := EM.out; omega
      have HKY := HP6.out.keys (by have := HLM.out; have := EM.out; omega) (fun x hx => by have := HKL.out x hx; omega)
      rw [← hm'] at HKY
      have HKY := Lib.hid HKY
      try rw [← hm']
      clear hm'
      go_wp2_with fail
      refine HKY.out.mono ?_
      rintro e w7 ⟨p7, cp7, rfl, hr7, hb7⟩
      have HR7 := Lib.hid hr7
      have HP7 := Lib.hid (HP6.out.old hb7)
      clear hr7 hb7 HKY
      go_wp2_with fail
      refine HP7.out.hits.mono ?_
      rintro e w8 ⟨rfl, hb8⟩
      have HP8 := Lib.hid (HP7.out.old hb8)
      have HR8 := Lib.hid (HR7.out.old hb8)
      have hL8 := (HP7.out.old hb8).len
      rw [← HM'.out] at hL8
      have HL8 := Lib.hid hL8
      clear hb8 hL8 HP7 HR7
      go_wp2_with fail
      refine HL8.out.mono ?_
      rintro e w9 ⟨rfl, hw9⟩
      obtain rfl : w9 = w8 := hw9
      clear HL8
      go_upto_region 40 with fail
      go_loopw [176] (fun s176 wx => ∃ j : Nat, j ≤ m' ∧ s176 = .int .i64 (j : Int) ∧ Hid (Below w9.heap.size w9 wx)) (fun j _ => m' - (intOf j).toNat)
      case atStart => exact ⟨0, Nat.zero_le _, rfl, Lib.hid (Below.refl _ _)⟩
      case round =>
        obtain ⟨j, hj, rfl, HJ⟩ := hrel
        by_cases hjm : j < m'
        · have j1 : (j : Int) < m' := by omega
          have j0 : (0 : Int) ≤ j := by omega
          have hjl : j < L'.length := by rw [← HM'.out]; exact hjm
          obtain ⟨b7, o7, rfl, hb7, x0⟩ := (HR8.out.old HJ.out).str j (by rw [List.length_map]; exact hjl)
          obtain ⟨b8, o8, rfl, hb8, y0, y1⟩ := (HP8.out.rd.old HJ.out).kv j hjl
          rw [List.getElem_map] at x0
          obtain ⟨z, hz⟩ : ∃ z, z = L'[j] := ⟨_, rfl⟩
          rw [← hz] at x0 y0 y1
          obtain ⟨zk, zv⟩ := z
          simp only at x0 y0 y1
          have hba := (Below.refl wr.heap.size wr).alloc (Nat.le_refl _) (.cells #[.string ⟨zk.toArray⟩, .int .i64 zv] 34)
          have HJ2 := Lib.hid (HJ.out.trans (hba.mono HJ.out.size))
          have x1 := (World.cell?_of_block (hba.block b7 hb7)).trans x0
          have ksz2 : (Try.prog.info? 34).map (·.size) = some 2 := by kernel_rfl
          have wdef : ∃ W5, W5 = wr.alloc (.cells #[.string ⟨zk.toArray⟩, .int .i64 zv] 34) := ⟨_, rfl⟩
          clear hjl hz hba hjm hb7 hb8
          go_upto_region 42 with fail
          go_quiet (fail)
          go_wp2_with fail
          go_roundw
          case rel => exact ⟨j + 1, by omega, by go_num, Lib.hid ((HJ2.out.trans (show Below w9.heap.size _ _ from ⟨rfl, rfl, rfl, Nat.le_refl _, fun _ _ => rfl⟩)))⟩
          case measure => simp [intOf]; omega
        · obtain rfl : j = m' := by omega
          have j1 : ¬ (j : Int) < j := by omega
          go_wp2_with fail
          go_roundw
          case rel => exact ⟨i + 1, j, fd, ak, q', c', by omega, by omega, by go_num, rfl, by go_num, by go_num, Lib.hid ⟨L', (HP8.out.old HJ.out).fewer (fun y hy => by cases hy), HM'.out, HLM.out, HKL.out, HFA.out.1, HFA.out.2⟩⟩
          case measure => simp [intOf]; omega
    · obtain ⟨L, hP, _⟩ := HI.out
      have HB := Lib.hid hP.m
      clear hP HI
      by_cases h1 : i < n
      · have i1 : (i : Int) < n := by omega
        have i2 : ¬ (i : Int) < 100 := by omega
        go_wp2_with fail
        go_ret
        exact ⟨rfl, HB.out⟩
      · have i1 : ¬ (i : Int) < n := by omega
        go_wp2_with fail
        go_ret
        exact ⟨rfl, HB.out⟩
end Go.Proofs.Ytdiiechkhlbkcab
