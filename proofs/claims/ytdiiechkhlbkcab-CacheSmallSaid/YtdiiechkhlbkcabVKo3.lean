/- Texts 3: what the laws lean on. -/
import Derived.Test.YtdiiechkhlbkcabVKo2
import Derived.LoopTactic
import Derived.Deep.DeepCutAuto
import Derived.Test.YtdiiechkhlbkcabRows
import Derived.Test.YtdiiechkhlbkcabVKo1
import Derived.WalkKit
import Derived.ProofKit
import Derived.OpenShut
import Derived.SliceStrings
import Derived.Deep.SlicePairs
namespace Go.Proofs.Ytdiiechkhlbkcab
open Go.RowKit Go.Shelf
attribute [local go_sem] Oper.semAt_some

set_option maxRecDepth 100000 in
set_option maxHeartbeats 8000000 in
theorem appseq_any (w : World) (c b r : Nat) (M fd ak : Int) (bs : List Nat) (kf : Nat → List UInt8) (vf : Nat → Int) (nw od : Nat → Nat) (h : CI w c b r M fd ak bs kf vf nw od) (hl : bs.length ≤ 100000) (hkl : ∀ y ∈ bs, (kf y).length ≤ 1000000) :
    Calls Try.prog 27 #[.slice none 0 0, .func (.func 25) #[.pointer (some ⟨c, 0, none⟩)] #[]] w fun e w' => ∃ q cq, e = .returned (.slice q bs.length cq) ∧ Rw encS 9 w' q cq (bs.map kf) ∧ (∀ a, q = some a → w.heap.size ≤ a.block) ∧ Below w.heap.size w w' := by
  have hF : ∀ i ∈ c :: b :: r :: bs, i < w.heap.size := by
    intro i hi
    rcases List.mem_cons.1 hi with rfl | hi
    · exact h.clt
    rcases List.mem_cons.1 hi with rfl | hi
    · exact h.map.lt
    · exact h.ylt hi
  obtain ⟨W0, hW0⟩ : ∃ W0, W0 = w.alloc (.cells #[.slice none 0 0] 39) := ⟨_, rfl⟩
  have hs0 : W0.heap.size = w.heap.size + 1 := by rw [hW0]; simp
  have hB0 : Below w.heap.size w W0 := by rw [hW0]; exact (Below.refl _ _).alloc (Nat.le_refl _) _
  have h0 : ColI w c b r M fd ak bs kf vf nw od 0 W0 := ⟨none, 0, h.old hB0, Nat.zero_le _, by rw [List.take_zero]; exact Rw.empty _ _, (fun a e => by cases e), by rw [hW0]; exact heap_alloc_new _ _, hB0, by omega⟩
  have HF := Lib.hid hF
  have HKL := Lib.hid hkl
  clear hF h hkl hB0
  refine (callsIn_wide (n := 3)).1 ?_
  refine callsIn_of_wp_marks Try.func27 rfl trivial ?_ rfl
  simp only [Try.ntmps27, List.size_toArray, List.length_cons, List.length_nil, Nat.reduceAdd, Nat.reduceSub, Array.replicate_succ, Array.replicate_zero, List.push_toArray, List.append_toArray, List.nil_append, List.cons_append]
  gi_wp2_with fail
  rw [← hW0]
  clear hW0
  have hI : OwnFrom W0.heap.size (ColI w c b r M fd ak bs kf vf nw od) := by rw [hs0]; exact ColI.own HF.out
  refine wpIn_rounds (F := Fence.wide) rfl (by decide) (gf := 25) (fb := #[.pointer (some ⟨c, 0, none⟩)]) (lb := #[]) rfl trivial (enters_of Try.func25 (by kernel_rfl) rfl)
    (each_rounds (3 - 1) c b r M fd ak bs kf vf nw od HKL.out W0) (fun _ => rfl)
    (ColI w c b r M fd ak bs kf vf nw od) (fun _ _ _ => False) ?hR hI (fun _ _ _ _ _ hs _ _ => hs) h0
    (fun k => { tmps := #[.slice none 0 0, .func (.func 25) #[.pointer (some ⟨c, 0, none⟩)] #[], .pointer (some ⟨w.heap.size, 0, none⟩), undef, .slice none 0 0, .string ⟨(kf (nth r bs k)).toArray⟩, .func (.func 25) #[.pointer (some ⟨c, 0, none⟩)] #[], .string ⟨(kf (nth r bs k)).toArray⟩, undef, undef, undef, undef, undef], defers := [] }) ?assign ?body ?done ?stop
  case hR =>
    rintro k W ⟨q, cq, h⟩
    exact h.ci
  case assign =>
    intro l k W K hK
    generalize kf (nth r bs k) = y at hK ⊢
    gi_wp2
    exact hK
  case body =>
    rintro l k W ⟨q, cq, h⟩ hk
    have c1 : W.cell? ⟨w.heap.size, 0, none⟩ = some (.slice q k cq) := by unfold World.cell?; rw [h.bx]; rfl
    obtain ⟨y, hy⟩ : ∃ y, y = kf (nth r bs k) := ⟨_, rfl⟩
    have hb1 : Below W.heap.size W (W.alloc (.cells #[.string ⟨y.toArray⟩] 9)) := (Below.refl _ _).alloc (Nat.le_refl _) _
    have Hend : Hid (∀ q2 cq2 W5, PushR encS 9 (W.alloc (.cells #[.string ⟨y.toArray⟩] 9)) q ((bs.map kf).take k ++ [y]) q2 cq2 W5 → KeepsFrom (w.heap.size + 1) W (W5.setCell ⟨w.heap.size, 0, none⟩ (.slice q2 (k + 1) cq2)) ∧ ColI w c b r M fd ak bs kf vf nw od (k + 1) (W5.setCell ⟨w.heap.size, 0, none⟩ (.slice q2 (k + 1) cq2))) := Lib.hid (by
      intro q2 cq2 W5 hP
      rw [hy] at hP hb1
      exact h.next HF.out hk hb1 hP)
    have HS1 := Lib.hid (h.s.old hb1)
    have HY : Hid (Rd encS (W.alloc (.cells #[.string ⟨y.toArray⟩] 9)) (some ⟨W.heap.size, 0, none⟩) [y]) := Lib.hid (Rd.made encS W 9 [y] (by simp [maxLen]))
    have HL : Hid (((bs.map kf).take k).length = k) := Lib.hid (by rw [List.length_take, List.length_map]; omega)
    have hk9 : k ≤ 100000 := by omega
    have HBX : Hid (∀ q2 cq2 W5, PushR encS 9 (W.alloc (.cells #[.string ⟨y.toArray⟩] 9)) q ((bs.map kf).take k ++ [y]) q2 cq2 W5 → W5.heap[w.heap.size]? = some (.cells #[.slice q k cq] 39 (0, 0))) := Lib.hid (by
      intro q2 cq2 W5 hP
      have h1 := (hb1.block w.heap.size (by have := h.hB; omega)).trans h.bx
      refine (hP.2.1.block w.heap.size (by have := h.hB; have := hb1.size; omega) ?_).trans h1
      rintro ⟨a, e, h2⟩
      have := h.new a e; omega)
    rw [hs0, ← hy]
    clear hb1 h hk hI h0 hy
    gi_wp2_with (gi_at_builtin; (refine wpListIn_pushR encS rfl _ _ 39 9 (.string ⟨#[]⟩) 16 rfl Try.underlying39 (by kernel_rfl) rfl (by decide) q cq k ((bs.map kf).take k) HL.out rfl HS1.out (some ⟨W.heap.size, 0, none⟩) 1 1 [y] rfl (by decide) rfl HY.out (by omega) ?_; intro q2 cq2 W5 hP; have b5 := HBX.out q2 cq2 W5 hP; have c5 : W5.cell? ⟨w.heap.size, 0, none⟩ = some (.slice q k cq) := (by unfold World.cell?; rw [b5]; rfl); have f5 := frozen_of_row W5 w.heap.size 0 _ 39 b5; have HP := Lib.hid hP; clear hP b5))
    exact Hend.out _ _ _ HP.out
  case done =>
    rintro D W hD ⟨q, cq, h⟩ hK
    have c1 : W.cell? ⟨w.heap.size, 0, none⟩ = some (.slice q bs.length cq) := by unfold World.cell?; rw [h.bx]; rfl
    have HH := Lib.hid h
    clear h h0 hI
    gi_wp2
    refine ⟨by simp, .inl ⟨_, _, rfl, run_takeDeferred hK, ?_⟩⟩
    have hmD : Mod (fun i => W0.heap.size ≤ i) W (W.putObj D (.deferred none)) := (Mod.refl _ _).grown (grownBy_putObj' _ D _) (fun k e _ => by cases e; exact hD)
    refine ⟨_, results_tmp rfl _ _ _, q, cq, rfl, ?_, fun a e => ?_, ?_⟩
    · have hs := HH.out.s
      rw [List.take_of_length_le (by rw [List.length_map]; exact Nat.le_refl _)] at hs
      refine hs.kept (S := fun i => i = D) ((Mod.refl _ _).grown (grownBy_putObj' _ D _) (fun k e _ => by cases e; rfl)) (fun a e h2 => ?_)
      rcases HH.out.s.shape with ⟨e', _⟩ | ⟨g', e', _, _, _, cur, hh, _⟩
      · rw [e] at e'; cases e'
      · rw [e] at e'; cases e'
        rw [show (⟨g', 0, none⟩ : Addr).block = g' from rfl] at h2
        subst h2
        rw [hK] at hh; cases hh
    · have := HH.out.new a e; omega
    · exact HH.out.m.trans (hmD.to_below HH.out.m.size (fun i hi h2 => by omega))
  case stop =>
    rintro D c k W _ _ h _
    exact h.elim
end Go.Proofs.Ytdiiechkhlbkcab

namespace Go.Proofs.Ytdiiechkhlbkcab
open Go.RowKit

theorem collect_any (w : World) (c b r : Nat) (M fd ak : Int) (bs : List Nat) (kf : Nat → List UInt8) (vf : Nat → Int) (nw od : Nat → Nat) (h : CI w c b r M fd ak bs kf vf nw od) (hl : bs.length ≤ 100000) (hkl : ∀ y ∈ bs, (kf y).length ≤ 1000000) :
    Calls Try.prog 24 #[.func (.func 25) #[.pointer (some ⟨c, 0, none⟩)] #[]] w fun e w' => ∃ q cq, e = .returned (.slice q bs.length cq) ∧ Rw encS 9 w' q cq (bs.map kf) ∧ (∀ a, q = some a → w.heap.size ≤ a.block) ∧ Below w.heap.size w w' := by
  have H := Lib.hid (appseq_any w c b r M fd ak bs kf vf nw od h hl hkl)
  clear h hl hkl
  go_enter Try.func24, Try.ntmps24
  go_wp2_with fail
  refine H.out.mono ?_
  rintro e w1 ⟨q, cq, rfl, hr⟩
  have HR := Lib.hid hr
  clear hr H
  go_wp2_with fail
  go_ret
  exact ⟨q, cq, rfl, HR.out⟩
theorem ca_keys {w : World} {c : Nat} {M fd ak : Int} {L : List KV} {F : List Nat} (h : CA w c M fd ak L F) (hl : L.length ≤ 100000) (hkl : ∀ x ∈ L, x.1.length ≤ 1000000) :
    Calls Try.prog 15 #[.pointer (some ⟨c, 0, none⟩)] w fun e w' => ∃ q cq, e = .returned (.slice q L.length cq) ∧ Rw encS 9 w' q cq (L.map Prod.fst) ∧ (∀ a, q = some a → w.heap.size ≤ a.block) ∧ Below w.heap.size w w' := by
  obtain ⟨b, r, bs, kf, vf, nw, od, h, rfl, rfl⟩ := h
  rw [List.length_map] at hl
  have e1 : (bs.map (kvOf kf vf)).map Prod.fst = bs.map kf := by rw [List.map_map]; rfl
  rw [e1, List.length_map]
  have H := Lib.hid (collect_any w c b r M fd ak bs kf vf nw od h hl (fun y hy => hkl (kvOf kf vf y) (List.mem_map_of_mem hy)))
  have hmf : ∀ (fn : Fn) (first cap : Array Value) (w : World), (Instr.makeFunc fn first cap).run Try.prog w = .ok (.func fn first cap) w := fun _ _ _ _ => rfl
  clear h hl hkl e1
  go_enter Try.func15, Try.ntmps15
  go_wp2_with fail
  refine H.out.mono ?_
  rintro e w1 ⟨q, cq, rfl, hr⟩
  have HR := Lib.hid hr
  clear hr H
  go_wp2_with fail
  go_ret
  exact ⟨q, cq, rfl, HR.out⟩
end Go.Proofs.Ytdiiechkhlbkcab

namespace Go.Proofs.Ytdiiechkhlbkcab
open Go.RowKit

def encK : Enc KV := ⟨fun x => [.string ⟨x.1.toArray⟩, .int .i64 x.2], 2, fun _ => rfl, fun _ v hv => by simp at hv; rcases hv with rfl | rfl <;> rfl, by decide⟩
theorem Rd.kv {w : World} {ao : Option Addr} {L : List KV} (h : Rd encK w ao L) (j : Nat) (hj : j < L.length) : ∃ bs off, ao = some ⟨bs, off, none⟩ ∧ bs < w.heap.size ∧
    w.cell? ⟨bs, off + j * 2, none⟩ = some (.string ⟨(L[j]).1.toArray⟩) ∧ w.cell? ⟨bs, off + j * 2 + 1, none⟩ = some (.int .i64 (L[j]).2) := by
  obtain ⟨bs, off, e, hlt, hc⟩ := h j hj
  exact ⟨bs, off, e, hlt, hc 0 _ rfl, hc 1 _ rfl⟩
theorem info_pair : (Try.prog.info? 34).map (fun i => (i.zero, i.size, i.bytes)) = some (some (.agg #[.string ⟨#[]⟩, .int .i64 0]), 2, 24) := by kernel_rfl
theorem dropK_succ (k : List UInt8) (L : List KV) (i : Nat) (h : i < L.length) : dropK k (L.take (i + 1)) = dropK k (L.take i) ++ (if L[i].1 = k then [] else [L[i]]) := by
  unfold dropK
  rw [List.take_succ_eq_append_getElem h, List.filter_append]
  by_cases e : L[i].1 = k <;> simp [e]
theorem AccR.oneK {w wr : World} {k : Nat} {D : List KV} {q : Option Addr} {c : Nat} (h : AccR encK 34 w k D q c wr) (y : KV) :
    Rw encK 34 (wr.alloc (.cells #[.string ⟨y.1.toArray⟩, .int .i64 y.2] 34)) q c D ∧ Rd encK (wr.alloc (.cells #[.string ⟨y.1.toArray⟩, .int .i64 y.2] 34)) (some ⟨wr.heap.size, 0, none⟩) [y] ∧
    ∀ q' c' w', PushR encK 34 (wr.alloc (.cells #[.string ⟨y.1.toArray⟩, .int .i64 y.2] 34)) q (D ++ [y]) q' c' w' → AccR encK 34 w (k + 1) (D ++ [y]) q' c' w' := by
  have h2 := h.below ((Below.refl wr.heap.size wr).alloc (Nat.le_refl _) (.cells #[.string ⟨y.1.toArray⟩, .int .i64 y.2] 34))
  exact ⟨h2.s, Rd.made encK wr 34 [y] (by simp [maxLen]), fun q' c' w' hP => h2.push hP⟩

set_option maxRecDepth 20000 in
set_option maxHeartbeats 2000000 in
theorem use_any (ao : Option Addr) (c : Nat) (L : List KV) (most : Nat) (xk : List UInt8) (xv : Int) (w : World) (hL : Rd encK w ao L) (hn : L.length ≤ 100000) (h1 : 1 ≤ most) (h2 : most ≤ 100000) :
    Calls Try.prog 10 #[.slice ao L.length c, .int .i64 most, .agg #[.string ⟨xk.toArray⟩, .int .i64 xv]] w fun r w' => ∃ q c', r = .returned (.slice q (((xk, xv) :: dropK xk L).take most).length c') ∧ Rd encK w' q (((xk, xv) :: dropK xk L).take most) ∧ (∀ a, q = some a → w.heap.size ≤ a.block ∧ a.block < w'.heap.size) ∧ Below w.heap.size w w' := by
  obtain ⟨n, hnL⟩ : ∃ n, n = L.length := ⟨_, rfl⟩
  obtain ⟨F, hF⟩ : ∃ F : Ending → World → Prop, F = fun r w' => ∃ q c', r = .returned (.slice q (((xk, xv) :: dropK xk L).take most).length c') ∧ Rd encK w' q (((xk, xv) :: dropK xk L).take most) ∧ (∀ a, q = some a → w.heap.size ≤ a.block ∧ a.block < w'.heap.size) ∧ Below w.heap.size w w' := ⟨_, rfl⟩
  rw [← hF, ← hnL]
  rw [← hnL] at hn
  have HF := Lib.hid hF
  have HN := Lib.hid hnL
  have HL := Lib.hid hL
  have HS : Hid (∀ i (h : i < L.length), dropK xk (L.take (i + 1)) = dropK xk (L.take i) ++ (if L[i].1 = xk then [] else [L[i]])) := Lib.hid (dropK_succ xk L)
  have HE : Hid (dropK xk (L.take n) = dropK xk L) := Lib.hid (by rw [hnL, List.take_length])
  obtain ⟨W0, hW0⟩ : ∃ W0, W0 = w.alloc (.cells #[.string ⟨xk.toArray⟩, .int .i64 xv] 34) := ⟨_, rfl⟩
  have hs0 : W0.heap.size = w.heap.size + 1 := by rw [hW0]; simp
  have hg0 : W0.heap[w.heap.size]? = some (.cells #[.string ⟨xk.toArray⟩, .int .i64 xv] 34 (0, 0)) := by rw [hW0]; exact heap_alloc_new _ _
  have hB0 : Below w.heap.size w W0 := by rw [hW0]; exact (Below.refl _ _).alloc (Nat.le_refl _) _
  have H0 : Hid (AccR encK 34 W0 1 ((xk, xv) :: dropK xk (L.take 0)) (some ⟨W0.heap.size, 0, none⟩) 1 (W0.alloc (.cells #[.string ⟨xk.toArray⟩, .int .i64 xv] 34))) :=
    Lib.hid ⟨Rw.made (E := encK) 34 W0 [(xk, xv)] (by simp [maxLen]), rfl, (fun a e => by cases e; exact Nat.le_refl _), (Below.refl _ _).alloc (Nat.le_refl _) _⟩
  have HG0 := Lib.hid hg0
  have HB0 := Lib.hid hB0
  have HS0 := Lib.hid hs0
  clear hnL hL hF hg0 hB0
  go_enter Try.func10, Try.ntmps10
  go_upto_region 1 with fail
  rw [← hW0]
  clear hW0
  obtain ⟨g5, hg5⟩ : ∃ g5, g5 = w.heap.size := ⟨_, rfl⟩
  rw [← hg5] at hs0 HG0 HS0 ⊢
  have HG5 := Lib.hid hg5
  have k0 : W0.cell? ⟨g5, 0, none⟩ = some (.string ⟨xk.toArray⟩) := by unfold World.cell?; rw [HG0.out]; rfl
  have k1 : W0.cell? ⟨g5, 1, none⟩ = some (.int .i64 xv) := by unfold World.cell?; rw [HG0.out]; rfl
  clear hg5 hs0
  go_upto_region 3 with fail
  clear k0 k1
  go_loopw [7, 9, 14] (fun s7 _ s14 wr => ∃ (i m : Nat) (q : Option Addr) (c' : Nat), i ≤ n ∧ m ≤ i + 1 ∧ s14 = .int .i64 (i : Int) ∧ s7 = .slice q m c' ∧ Hid (AccR encK 34 W0 m ((xk, xv) :: dropK xk (L.take i)) q c' wr)) (fun _ _ i _ => n - (intOf i).toNat)
  case atStart => exact ⟨0, 1, _, _, Nat.zero_le _, Nat.le_refl _, rfl, rfl, H0⟩
  case round =>
    obtain ⟨i, m, q, c', hi, hmi, rfl, rfl, HA⟩ := hrel
    by_cases hin : i < n
    · have hil : i < L.length := by rw [← HN.out]; exact hin
      have hbw : Below w.heap.size w wr := HB0.out.trans (HA.out.m.mono HB0.out.size)
      obtain ⟨bs, off, rfl, hbs, c1, c2⟩ := ((HL.out.old hbw).kv) i hil
      have hnx := HS.out i hil
      obtain ⟨y, hy⟩ : ∃ y, y = L[i] := ⟨_, rfl⟩
      rw [← hy] at c1 c2 hnx
      obtain ⟨yk, yv⟩ := y
      simp only at c1 c2 hnx
      have i1 : (i : Int) < n := by omega
      have i0 : (0 : Int) ≤ i := by omega
      have hba := (Below.refl wr.heap.size wr).alloc (Nat.le_refl _) (.cells #[.string ⟨yk.toArray⟩, .int .i64 yv] 34)
      have HA2 := Lib.hid (HA.out.below hba)
      have HW : Hid ((wr.alloc (.cells #[.string ⟨yk.toArray⟩, .int .i64 yv] 34)).heap.size = wr.heap.size + 1) := Lib.hid (by simp)
      have k5 : (wr.alloc (.cells #[.string ⟨yk.toArray⟩, .int .i64 yv] 34)).cell? ⟨g5, 0, none⟩ = some (.string ⟨xk.toArray⟩) := by
        have hlt : g5 < W0.heap.size := by have := HS0.out; omega
        have e1 := (HA2.out.m.block g5 hlt).trans HG0.out
        unfold World.cell?; rw [e1]; rfl
      have ksz : (Try.prog.info? 34).map (·.size) = some 2 := by kernel_rfl
      clear hba hbw
      by_cases hk : yk = xk
      · subst hk
        rw [if_pos rfl, List.append_nil] at hnx
        have HNX := Lib.hid hnx
        clear hnx hy
        go_wp2_with fail
        go_roundw
        case rel => exact ⟨i + 1, m, q, c', by omega, by omega, by go_num, rfl, by rw [HNX.out]; exact HA2⟩
        case measure => simp [intOf]; omega
      · have hke : (yk == xk) = false := by simpa using hk
        rw [if_neg hk] at hnx
        have HNX := Lib.hid hnx
        obtain ⟨a1, a2, a3⟩ := HA2.out.oneK (yk, yv)
        simp only [World.size_alloc] at a1 a2 a3
        have A1 := Lib.hid a1
        have A2 := Lib.hid a2
        have A3 := Lib.hid a3
        have HLn := Lib.hid HA2.out.len
        have hmb : m + 1 ≤ 100000000000 := by omega
        clear hnx hy hk a1 a2 a3
        go_wp2_with (refine wpList_pushR encK rfl _ _ 26 34 (.agg #[.string ⟨#[]⟩, .int .i64 0]) 24 rfl Try.underlying26 info_pair rfl (by decide) q c' m _ HLn.out rfl A1.out (some ⟨wr.heap.size + 1, 0, none⟩) 1 1 [(yk, yv)] rfl rfl A2.out hmb ?_; intro q9 c9 w9 hP9; have HP9 := Lib.hid (A3.out _ _ _ hP9); clear hP9; go_frame)
        go_roundw
        case rel => exact ⟨i + 1, m + 1, q9, c9, by omega, by omega, by go_num, rfl, by rw [HNX.out]; exact HP9⟩
        case measure => simp [intOf]; omega
    · obtain rfl : i = n := by omega
      have hA9 : AccR encK 34 W0 m ((xk, xv) :: dropK xk L) q c' wr := by rw [← HE.out]; exact HA.out
      obtain ⟨mm, hmm⟩ : ∃ mm : Nat, mm = min m most := ⟨_, rfl⟩
      have e1 : min (m : Int) (most : Int) = (mm : Int) := by omega
      have hcap : m ≤ c' := by have h3 := hA9.s.cap_le; rw [hA9.len] at h3; exact h3
      have m0 : (0 : Int) ≤ mm := by omega
      have m1 : (mm : Int) ≤ c' := by omega
      have hlen := hA9.len
      have hRd := (hA9.s.rd).take most
      have hle : (((xk, xv) :: dropK xk L).take most).length = mm := by rw [List.length_take, hlen, hmm]; exact Nat.min_comm _ _
      have HFF : Hid (F (.returned (.slice q mm c')) wr) := Lib.hid (by rw [HF.out]; exact ⟨q, c', by rw [hle], hRd, fun a e => ⟨Nat.le_trans HB0.out.size (hA9.new a e), (show Rw encK 34 wr (some a) c' ((xk, xv) :: dropK xk L) from e ▸ hA9.s).lt⟩, HB0.out.trans (hA9.m.mono HB0.out.size)⟩)
      clear HA hA9 hlen hRd hle hmm
      go_wp2_with fail
      exact HFF.out
end Go.Proofs.Ytdiiechkhlbkcab

namespace Go.Proofs.Ytdiiechkhlbkcab
open Go.RowKit

theorem Rd.keptF {α : Type} {E : Enc α} {w w' : World} {q : Option Addr} {L : List α} {S : Nat → Prop} (h : Rd E w q L) (hm : Mod S w w') (hq : ∀ a, q = some a → ¬ S a.block) : Rd E w' q L := by
  intro j hj
  obtain ⟨bs, off, e, hlt, hc⟩ := h j hj
  exact ⟨bs, off, e, Nat.lt_of_lt_of_le hlt hm.size, fun i u hu => (World.cell?_of_block (hm.block bs hlt (hq _ e))).trans (hc i u hu)⟩
structure SS (W : World) (c1 c2 : Nat) (fd ak : Int) (L1 L2 D : List KV) (q : Option Addr) (w : World) : Prop where
  ex : ∃ F1 F2, CA w c1 1 0 0 L1 F1 ∧ CA w c2 64 fd ak L2 F2 ∧ (∀ i ∈ F1, i ∉ F2) ∧ (∀ i ∈ F1, W.heap.size ≤ i) ∧ (∀ i ∈ F2, W.heap.size ≤ i) ∧ (∀ a, q = some a → a.block ∉ F1 ∧ a.block ∉ F2 ∧ a.block < w.heap.size)
  rd : Rd encK w q D
  m : Below W.heap.size W w
section
variable {W w w' : World} {c1 c2 : Nat} {fd ak : Int} {L1 L2 D : List KV} {q : Option Addr}
theorem SS.old (h : SS W c1 c2 fd ak L1 L2 D q w) (hb : Below w.heap.size w w') : SS W c1 c2 fd ak L1 L2 D q w' := by
  obtain ⟨F1, F2, h1, h2, h3, h4, h5, h6⟩ := h.ex
  exact ⟨⟨F1, F2, h1.old hb, h2.old hb, h3, h4, h5, fun a e => ⟨(h6 a e).1, (h6 a e).2.1, Nat.lt_of_lt_of_le (h6 a e).2.2 hb.size⟩⟩, h.rd.old hb, h.m.trans (hb.mono h.m.size)⟩
theorem SS.put1 (h : SS W c1 c2 fd ak L1 L2 D q w) (hl : L1.length ≤ 1) (k : List UInt8) (hk : k.length ≤ 1000000) (v : Int) :
    Calls Try.prog 14 #[.pointer (some ⟨c1, 0, none⟩), .string ⟨k.toArray⟩, .int .i64 v] w fun e w' => e = .returned (.tuple #[]) ∧ SS W c1 c2 fd ak [(k, v)] L2 D q w' := by
  obtain ⟨F1, F2, h1, h2, h3, h4, h5, h6⟩ := h.ex
  refine (ca_put h1 k hk v (by omega) (by omega) (by omega)).mono ?_
  rintro e w' ⟨rfl, ⟨F', hC, hs⟩, hm⟩
  have e1 : ((k, v) :: dropK k L1).take (1 : Int).toNat = [(k, v)] := rfl
  rw [e1] at hC
  have hs2 : ∀ i ∈ F', i ∈ F1 ∨ w.heap.size ≤ i := hs
  refine ⟨rfl, ⟨F', F2, hC, h2.kept hm (fun i hi h => h3 i h hi), fun i hi h => ?_, fun i hi => ?_, h5, fun a e => ⟨fun hi => ?_, (h6 a e).2.1, Nat.lt_of_lt_of_le (h6 a e).2.2 hm.size⟩⟩, h.rd.keptF hm (fun a e => (h6 a e).1), h.m.trans (hm.to_below h.m.size (fun i hi h => absurd (h4 i h) (by omega)))⟩
  · rcases hs2 i hi with h' | h'
    · exact h3 i h' h
    · have := h2.lt h; omega
  · rcases hs2 i hi with h' | h'
    · exact h4 i h'
    · exact Nat.le_trans h.m.size h'
  · rcases hs2 _ hi with h' | h'
    · exact (h6 a e).1 h'
    · have := (h6 a e).2.2; omega
theorem SS.put2 (h : SS W c1 c2 fd ak L1 L2 D q w) (hl : L2.length ≤ 64) (k : List UInt8) (hk : k.length ≤ 1000000) (v : Int) :
    Calls Try.prog 14 #[.pointer (some ⟨c2, 0, none⟩), .string ⟨k.toArray⟩, .int .i64 v] w fun e w' => e = .returned (.tuple #[]) ∧ SS W c1 c2 fd ak L1 (((k, v) :: dropK k L2).take 64) D q w' := by
  obtain ⟨F1, F2, h1, h2, h3, h4, h5, h6⟩ := h.ex
  refine (ca_put h2 k hk v (by omega) (by omega) (by omega)).mono ?_
  rintro e w' ⟨rfl, ⟨F', hC, hs⟩, hm⟩
  have e1 : ((64 : Int).toNat) = 64 := rfl
  rw [e1] at hC
  have hs2 : ∀ i ∈ F', i ∈ F2 ∨ w.heap.size ≤ i := hs
  refine ⟨rfl, ⟨F1, F', h1.kept hm (fun i hi h => h3 i hi h), hC, fun i hi h => ?_, h4, fun i hi => ?_, fun a e => ⟨(h6 a e).1, fun hi => ?_, Nat.lt_of_lt_of_le (h6 a e).2.2 hm.size⟩⟩, h.rd.keptF hm (fun a e => (h6 a e).2.1), h.m.trans (hm.to_below h.m.size (fun i hi h => absurd (h5 i h) (by omega)))⟩
  · rcases hs2 i h with h' | h'
    · exact h3 i hi h'
    · have := h1.lt hi; omega
  · rcases hs2 i hi with h' | h'
    · exact h5 i h'
    · exact Nat.le_trans h.m.size h'
  · rcases hs2 _ hi with h' | h'
    · exact (h6 a e).2.1 h'
    · have := (h6 a e).2.2; omega
theorem SS.use (h : SS W c1 c2 fd ak L1 L2 D q w) (hl : D.length ≤ 100000) (c : Nat) (k : List UInt8) (v : Int) :
    Calls Try.prog 10 #[.slice q D.length c, .int .i64 64, .agg #[.string ⟨k.toArray⟩, .int .i64 v]] w fun e w' => ∃ q' c', e = .returned (.slice q' (((k, v) :: dropK k D).take 64).length c') ∧ SS W c1 c2 fd ak L1 L2 (((k, v) :: dropK k D).take 64) q' w' := by
  obtain ⟨F1, F2, h1, h2, h3, h4, h5, h6⟩ := h.ex
  refine (use_any q c D 64 k v w h.rd hl (by omega) (by omega)).mono ?_
  rintro e w' ⟨q', c', rfl, hr, hn, hb⟩
  exact ⟨q', c', rfl, ⟨F1, F2, h1.old hb, h2.old hb, h3, h4, h5, fun a e => ⟨fun hi => by have := h1.lt hi; have := (hn a e).1; omega, fun hi => by have := h2.lt hi; have := (hn a e).1; omega, (hn a e).2⟩⟩, hr, h.m.trans (hb.mono h.m.size)⟩
theorem SS.keys (h : SS W c1 c2 fd ak L1 L2 D q w) (hl : L1.length ≤ 1) (hk : ∀ x ∈ L1, x.1.length ≤ 1000000) :
    Calls Try.prog 15 #[.pointer (some ⟨c1, 0, none⟩)] w fun e w' => ∃ p cp, e = .returned (.slice p L1.length cp) ∧ Rd encS w' p (L1.map Prod.fst) ∧ SS W c1 c2 fd ak L1 L2 D q w' := by
  obtain ⟨F1, F2, h1, r⟩ := h.ex
  refine (ca_keys h1 (by omega) hk).mono ?_
  rintro e w' ⟨p, cp, rfl, hr, _, hb⟩
  exact ⟨p, cp, rfl, hr.rd, h.old hb⟩
theorem SS.get2 {w1 : World} (h : SS W c1 c2 fd ak L1 L2 D q w1) (hb : Below w1.heap.size w1 w) (k : List UInt8) (hk : k.length ≤ maxLen) (h0 : 0 ≤ ak) (h1' : ak ≤ 100000000) (g0 : 0 ≤ fd) (g1 : fd ≤ 100000000) (hh : hasV k L2 = true) :
    Calls Try.prog 11 #[.pointer (some ⟨c2, 0, none⟩), .string ⟨k.toArray⟩] w fun e w' => e = .returned (.tuple #[.int .i64 (getV k L2), .bool true]) ∧ SS W c1 c2 (fd + 1) (ak + 1) L1 ((k, getV k L2) :: dropK k L2) D q w' ∧ (∀ x, w1.heap.size ≤ x → x < w.heap.size → w'.heap[x]? = w.heap[x]?) := by
  have ho := h.old hb
  obtain ⟨F1, F2, h1, h2, h3, h4, h5, h6⟩ := h.ex
  have hg := ca_get (h2.old hb) k hk h0 h1' g0 g1
  rw [hh] at hg
  simp only [if_true] at hg
  refine hg.mono ?_
  rintro e w' ⟨rfl, ⟨F', hC, hs⟩, hm⟩
  refine ⟨rfl, ⟨⟨F1, F', (h1.old hb).kept hm (fun i hi h => h3 i hi h), hC, fun i hi h => h3 i hi (hs i h), h4, fun i hi => h5 i (hs i hi), fun a e => ⟨(h6 a e).1, fun hi => (h6 a e).2.1 (hs _ hi), Nat.lt_of_lt_of_le (h6 a e).2.2 (Nat.le_trans hb.size hm.size)⟩⟩, ho.rd.keptF hm (fun a e => (h6 a e).2.1), ho.m.trans (hm.to_below ho.m.size (fun i hi h => absurd (h5 i h) (by omega)))⟩, fun x hx hl => hm.block x hl (fun hi => by have := h2.lt hi; omega)⟩
theorem SS.apart (h : SS W c1 c2 fd ak L1 L2 D q w) : L2.Pairwise fun x y => x.1 ≠ y.1 := by
  obtain ⟨F1, F2, h1, h2, r⟩ := h.ex
  exact h2.apart
theorem SS.len2 (h : SS W c1 c2 fd ak L1 L2 D q w) : Calls Try.prog 17 #[.pointer (some ⟨c2, 0, none⟩)] w fun e w' => e = .returned (.int .i64 (L2.length : Nat)) ∧ w' = w := by
  obtain ⟨F1, F2, h1, h2, r⟩ := h.ex
  exact ca_len h2
end
/-- What a list of uses leaves. -/
def accD (A : List (List UInt8)) : Nat → List KV
  | 0 => []
  | i + 1 => (((A.getD i []).take 4, (i : Int)) :: dropK ((A.getD i []).take 4) (accD A i)).take 64
theorem accD_len (A : List (List UInt8)) : ∀ i, (accD A i).length ≤ i
  | 0 => Nat.le_refl _
  | i + 1 => by
    have h := accD_len A i
    have h2 : (dropK ((A.getD i []).take 4) (accD A i)).length ≤ (accD A i).length := List.length_filter_le _ _
    simp only [accD, List.length_take, List.length_cons]; omega
theorem accD_key (A : List (List UInt8)) : ∀ i, ∀ x ∈ accD A i, x.1.length ≤ 4
  | 0, x, h => by cases h
  | i + 1, x, h => by
    rcases List.mem_cons.1 (List.mem_of_mem_take h) with rfl | h
    · simp only [List.length_take]; omega
    · exact accD_key A i x (List.mem_filter.1 h).1
theorem perm_get {k : List UInt8} {v : Int} : ∀ {L : List KV}, L.Pairwise (fun x y => x.1 ≠ y.1) → (k, v) ∈ L → hasV k L = true ∧ getV k L = v ∧ ((k, v) :: dropK k L).Perm L
  | [], _, h => by cases h
  | x :: L, hp, h => by
    obtain ⟨h1, h2⟩ := List.pairwise_cons.1 hp
    by_cases e : x.1 = k
    · have hx : x = (k, v) := by
        rcases List.mem_cons.1 h with h | h
        · exact h.symm
        · exact absurd e (h1 _ h)
      subst hx
      refine ⟨by simp [hasV], by simp [getV], ?_⟩
      have : dropK k ((k, v) :: L) = L := by
        unfold dropK
        rw [List.filter_cons_of_neg (by simp)]
        exact List.filter_eq_self.2 fun y hy => by have := h1 y hy; simpa using fun e => this e.symm
      rw [this]
    · have hm : (k, v) ∈ L := by
        rcases List.mem_cons.1 h with h | h
        · rw [← h] at e; exact absurd rfl e
        · exact h
      obtain ⟨i1, i2, i3⟩ := perm_get h2 hm
      have eb : (x.1 == k) = false := by simpa using e
      refine ⟨by unfold hasV at i1 ⊢; rw [List.any_cons, i1, Bool.or_true], by unfold getV at i2 ⊢; rw [List.find?_cons_of_neg (by simp [eb])]; exact i2, ?_⟩
      have : dropK k (x :: L) = x :: dropK k L := by unfold dropK; rw [List.filter_cons_of_pos (by simp [e])]
      rw [this]
      exact (List.Perm.swap x (k, v) _).trans (i3.cons x)
end Go.Proofs.Ytdiiechkhlbkcab

namespace Go.Proofs.Ytdiiechkhlbkcab
open Go.RowKit

set_option maxRecDepth 20000 in
theorem awake12_any (w : World) : Calls Try.prog 6 #[] w fun e w' => e = .returned (.bool true) ∧ Below w.heap.size w w' := by
  go_enter Try.func6, Try.ntmps6
  go_wp2_with fail
  refine (ca_new 2 w).mono ?_
  rintro e w1 ⟨c, F1, rfl, hC, hf, hb⟩
  have hP := ca_put hC [97] (by simp) 1 (by decide) (by decide) (by decide)
  have HP := Lib.hid hP
  have HB1 := Lib.hid hb
  have HF1 := Lib.hid hf
  clear hC hP hb hf
  go_wp2_with fail
  refine HP.out.mono ?_
  rintro e w2 ⟨rfl, ⟨F2, hC, hf⟩, hm⟩
  have hP := ca_put hC [98] (by simp) 2 (by decide) (by decide) (by decide)
  have HP2 := Lib.hid hP
  have HM2 := Lib.hid hm
  have HF2 := Lib.hid hf
  clear hC hP hm hf HP
  go_wp2_with fail
  refine HP2.out.mono ?_
  rintro e w3 ⟨rfl, ⟨F3, hC, hf⟩, hm⟩
  have hP := ca_get hC [97] (by decide) (by decide) (by decide) (by decide) (by decide)
  have HP3 : Hid (Calls Try.prog 11 #[.pointer (some ⟨c, 0, none⟩), .string ⟨#[97]⟩] w3 fun e w' => e = .returned (.tuple #[.int .i64 1, .bool true]) ∧ (∃ F', CA w' c 2 1 1 [([97], 1), ([98], 2)] F' ∧ (∀ i ∈ F', i ∈ F3)) ∧ Mod (fun i => i ∈ F3) w3 w') := Lib.hid hP
  have HM3 := Lib.hid hm
  have HF3 := Lib.hid hf
  clear hC hP hm hf HP2
  go_wp2_with fail
  refine HP3.out.mono ?_
  rintro e w4 ⟨rfl, ⟨F4, hC, hf⟩, hm⟩
  have hP := ca_put hC [99] (by simp) 3 (by decide) (by decide) (by decide)
  have HP4 := Lib.hid hP
  have HM4 := Lib.hid hm
  have HF4 := Lib.hid hf
  clear hC hP hm hf HP3
  go_wp2_with fail
  refine HP4.out.mono ?_
  rintro e w5 ⟨rfl, ⟨F5, hC, hf⟩, hm⟩
  have hP := ca_get hC [98] (by decide) (by decide) (by decide) (by decide) (by decide)
  have HP5 : Hid (Calls Try.prog 11 #[.pointer (some ⟨c, 0, none⟩), .string ⟨#[98]⟩] w5 fun e w' => e = .returned (.tuple #[.int .i64 0, .bool false]) ∧ (∃ F', CA w' c 2 1 2 [([99], 3), ([97], 1)] F' ∧ (∀ i ∈ F', i ∈ F5)) ∧ Mod (fun i => i ∈ F5) w5 w') := Lib.hid hP
  have HM5 := Lib.hid hm
  have HF5 := Lib.hid hf
  clear hC hP hm hf HP4
  go_wp2_with fail
  refine HP5.out.mono ?_
  rintro e w6 ⟨rfl, ⟨F6, hC, hf⟩, hm⟩
  have hP := ca_len hC
  have HP6 : Hid (Calls Try.prog 17 #[.pointer (some ⟨c, 0, none⟩)] w6 fun e w' => e = .returned (.int .i64 2) ∧ w' = w6) := Lib.hid hP
  have HM6 := Lib.hid hm
  clear hC hP hm hf HP5
  go_wp2_with fail
  refine HP6.out.mono ?_
  rintro e w7 ⟨rfl, hw⟩
  have HW := Lib.hid hw
  clear hw HP6
  go_wp2_with fail
  go_ret
  have g2 : ∀ i ∈ F2, w.heap.size ≤ i := fun i hi => (HF2.out i hi).elim (fun h => HF1.out i h) (fun h => Nat.le_trans HB1.out.size h)
  have g3 : ∀ i ∈ F3, w.heap.size ≤ i := fun i hi => (HF3.out i hi).elim (fun h => g2 i h) (fun h => Nat.le_trans HB1.out.size (Nat.le_trans HM2.out.size h))
  have g4 : ∀ i ∈ F4, w.heap.size ≤ i := fun i hi => g3 i (HF4.out i hi)
  have g5 : ∀ i ∈ F5, w.heap.size ≤ i := fun i hi => (HF5.out i hi).elim (fun h => g4 i h) (fun h => Nat.le_trans HB1.out.size (Nat.le_trans HM2.out.size (Nat.le_trans HM3.out.size (Nat.le_trans HM4.out.size h))))
  have bb : ∀ {a b : World} {F : List Nat}, (∀ i ∈ F, w.heap.size ≤ i) → w.heap.size ≤ a.heap.size → Mod (fun i => i ∈ F) a b → Below w.heap.size a b := fun hF hs hm => hm.to_below hs (fun i hi h => absurd (hF i h) (by omega))
  have s1 := HB1.out.size
  have b2 := HB1.out.trans (bb HF1.out s1 HM2.out)
  have b3 := b2.trans (bb g2 b2.size HM3.out)
  have b4 := b3.trans (bb g3 b3.size HM4.out)
  have b5 := b4.trans (bb g4 b4.size HM5.out)
  have b6 := b5.trans (bb g5 b5.size HM6.out)
  rw [HW.out]
  exact ⟨rfl, b6⟩
end Go.Proofs.Ytdiiechkhlbkcab

namespace Go.Proofs.Ytdiiechkhlbkcab
open Go.ChangeShapes Go.WideShapes Go.ChangeAt Go.RowKit Go.Deep

theorem cell_block {w : World} {a : Addr} {v : Value} (h : w.cell? a = some v) : a.block < w.heap.size := by
  unfold World.cell? at h
  apply Nat.lt_of_not_le; intro hle
  rw [Array.getElem?_eq_none hle] at h
  simp at h

set_option maxRecDepth 20000 in
theorem open_texts {H : Type} {enc : TypeId × Value → H} {W : World} {base : Nat} {v : Value} {d : DataW H} {ps : List MemPlace} (hval : Value.okWide Try.prog W .any base 39 v) (h : DataW.Trod enc Try.prog W 0 (fun _ => true) true 39 v d ps) :
    ∃ ao cap L, v = .slice ao L.length cap ∧ Rd encS W ao L ∧ (∀ s ∈ L, (s.length : Int) ≤ 9223372036854775807) ∧ L.length ≤ 9223372036854775807 ∧ L.length ≤ cap := by
  obtain ⟨a, len, cap, rfl⟩ := okWide_slice Try.underlying39 hval
  obtain ⟨fuel, hf⟩ := h
  rcases open_strings Try.underlying39 Try.underlying9 (by kernel_rfl) hf with ⟨hc, _⟩ | ⟨a', len', cap', ss, hc, _, hl, hm, hss, _, hcell, hsz⟩
  · have hc2 : [Value.slice a len cap] = [Value.slice none 0 0] := hc
    simp only [List.cons.injEq, Value.slice.injEq, and_true] at hc2
    obtain ⟨rfl, rfl, rfl⟩ := hc2
    exact ⟨none, 0, [], rfl, Rd.nil _ _, fun s hs => by simp at hs, Nat.zero_le _, Nat.le_refl _⟩
  · have hc2 : [Value.slice a len cap] = [Value.slice (some a') len' cap'] := hc
    simp only [List.cons.injEq, Value.slice.injEq, and_true] at hc2
    obtain ⟨rfl, rfl, rfl⟩ := hc2
    simp only [if_true] at hss
    have hlen : (ss.take len).length = len := by rw [List.length_take]; omega
    refine ⟨some a', cap, (ss.take len).map (fun (b : ByteArray) => b.data.toList), by rw [List.length_map, hlen], ?_, ?_, ?_, ?_⟩
    · intro j hj
      have hjl : j < len := by rw [List.length_map, hlen] at hj; exact hj
      have hc0 := hcell 0 (by omega)
      obtain ⟨bs, off, spot⟩ := a'
      have hspot : spot = none := by simpa [Addr.add] using World.cell?_spot hc0
      subst hspot
      have hcj := hcell j (by omega)
      refine ⟨bs, off, rfl, cell_block (by simpa [Addr.add_lit] using hcj), fun i u hu => ?_⟩
      have hi0 : i = 0 := by
        have := (List.getElem?_eq_some_iff.1 hu).1
        simp [encS] at this; exact this
      subst hi0
      simp only [encS, List.getElem?_cons_zero, Option.some.injEq] at hu
      subst hu
      have e : (ss.getD j ByteArray.empty) = ⟨(((ss.take len).map (fun (b : ByteArray) => b.data.toList))[j]'hj).toArray⟩ := by
        rw [List.getElem_map, List.getElem_take]
        simp [List.getD, List.getElem?_eq_getElem (show j < ss.length by omega)]
      rw [← e]
      simpa [Addr.add_lit, encS] using hcj
    · intro s hs
      obtain ⟨b, hb, rfl⟩ := List.mem_map.1 hs
      have := hsz b (List.mem_of_mem_take hb)
      unfold maxLen at this
      have e : b.data.toList.length = b.size := rfl
      omega
    · unfold maxLen at hm; rw [List.length_map, hlen]; omega
    · rw [List.length_map, hlen]; exact hl

theorem extract_head (s : List UInt8) (k : Nat) : (ByteArray.mk s.toArray).extract 0 k = ⟨(s.take k).toArray⟩ := by
  rw [ByteArray.extract_mk]; simp
set_option maxHeartbeats 400000 in
theorem cut_any (s : List UInt8) (n : Nat) (w : World) (_hl : s.length ≤ maxLen) (_hn : n ≤ 1000000) :
    Calls Try.prog 8 #[.string ⟨s.toArray⟩, .int .i64 n] w fun r w' => r = .returned (.string ⟨(s.take n).toArray⟩) ∧ w' = w := by
  have h0 : (0 : Int) ≤ n := by omega
  by_cases h : n < s.length
  · go_enter Try.func8, Try.ntmps8
    go_wp2_with fail
    rw [extract_head]
    go_ret
    exact ⟨rfl, rfl⟩
  · have e : s.take n = s := List.take_of_length_le (by omega)
    rw [e]
    clear e
    go_enter Try.func8, Try.ntmps8
    go_wp2_with fail
    go_ret
    exact ⟨rfl, rfl⟩
end Go.Proofs.Ytdiiechkhlbkcab

namespace Go.Proofs.Ytdiiechkhlbkcab
open Go.RowKit

set_option maxRecDepth 20000 in
set_option maxHeartbeats 4000000 in
theorem small_walk (ao : Option Addr) (cap : Nat) (A : List (List UInt8)) (W : World) (hr : Rd encS W ao A) (hs : ∀ s ∈ A, s.length ≤ maxLen) (hn : A.length ≤ 9223372036854775807) :
    Calls Try.prog 5 #[.slice ao A.length cap] W fun e w' => e = .returned (.bool true) ∧ Below W.heap.size W w' := by
  have HAW := Lib.hid (awake12_any W)
  obtain ⟨z, hzz⟩ : ∃ z, z = A.length := ⟨_, rfl⟩
  rw [← hzz]
  obtain ⟨n, hnn⟩ : ∃ n : Nat, min (z : Int) 60 = (n : Int) := ⟨(min (z : Int) 60).toNat, by omega⟩
  have hnz : n ≤ z := by omega
  have hn60 : n ≤ 60 := by omega
  have h63 : (z : Int) ≤ 9223372036854775807 := by omega
  have HZ := Lib.hid hzz
  have HR := Lib.hid hr
  have HS := Lib.hid hs
  have HN1 : Hid (∀ w, Calls Try.prog 7 #[.int .i64 1] w fun e w' => ∃ c F, e = .returned (.pointer (some ⟨c, 0, none⟩)) ∧ CA w' c 1 0 0 [] F ∧ (∀ i ∈ F, w.heap.size ≤ i) ∧ Below w.heap.size w w') := Lib.hid (fun w => ca_new 1 w)
  have HN2 : Hid (∀ w, Calls Try.prog 7 #[.int .i64 64] w fun e w' => ∃ c F, e = .returned (.pointer (some ⟨c, 0, none⟩)) ∧ CA w' c 64 0 0 [] F ∧ (∀ i ∈ F, w.heap.size ≤ i) ∧ Below w.heap.size w w') := Lib.hid (fun w => ca_new 64 w)
  clear hr hs hn hzz
  go_enter Try.func5, Try.ntmps5
  go_wp2_with fail
  refine HAW.out.mono ?_
  rintro e w1 ⟨rfl, hb1⟩
  have HB1 := Lib.hid hb1
  clear hb1 HAW
  go_wp2_with fail
  refine (HN1.out w1).mono ?_
  rintro e w2 ⟨c1, F1, rfl, hC1, hF1, hb2⟩
  have HC1 := Lib.hid hC1
  have HF1 := Lib.hid hF1
  have HB2 := Lib.hid hb2
  clear hC1 hF1 hb2 HN1
  go_wp2_with fail
  refine (HN2.out w2).mono ?_
  rintro e w3 ⟨c2, F2, rfl, hC2, hF2, hb3⟩
  have H0 : Hid (∃ L1, L1.length ≤ 1 ∧ SS W c1 c2 0 0 L1 (accD A 0) (accD A 0) none w3) := Lib.hid ⟨[], by simp, ⟨F1, F2, HC1.out.old hb3, hC2, fun i hi h => by have := HC1.out.lt hi; have := hF2 i h; omega, fun i hi => Nat.le_trans HB1.out.size (HF1.out i hi), fun i hi => Nat.le_trans (Nat.le_trans HB1.out.size HB2.out.size) (hF2 i hi), fun a e => by cases e⟩, Rd.nil _ _, (HB1.out.trans (HB2.out.mono HB1.out.size)).trans (hb3.mono (Nat.le_trans HB1.out.size HB2.out.size))⟩
  clear hC2 hF2 hb3 HN2 HC1 HF1 HB1 HB2
  go_upto_region 9 with fail
  go_loopw [6, 7, 8, 9, 28] (fun s6 _ _ _ s28 wr => ∃ (i m : Nat) (q : Option Addr) (cl : Nat), i ≤ n ∧ s28 = .int .i64 (i : Int) ∧ s6 = .slice q m cl ∧ Hid (m = (accD A i).length ∧ ∃ L1, L1.length ≤ 1 ∧ SS W c1 c2 0 0 L1 (accD A i) (accD A i) q wr)) (fun _ _ _ _ i _ => n - (intOf i).toNat)
  case atStart => exact ⟨0, 0, none, 0, Nat.zero_le _, rfl, rfl, Lib.hid ⟨rfl, H0.out⟩⟩
  case round =>
    obtain ⟨i, m, q, cl, hi, rfl, rfl, HI⟩ := hrel
    clear H0
    by_cases hin : i < n
    · have i1 : (i : Int) < n := by omega
      have i2 : (i : Int) < z := by omega
      have i0 : (0 : Int) ≤ i := by omega
      obtain ⟨hm, L1, hl1, hSS⟩ := HI.out
      have hil : i < A.length := by rw [← HZ.out]; omega
      obtain ⟨bs, off, rfl, hbs, c0⟩ := (HR.out.old hSS.m).str i hil
      have hsl := HS.out _ (List.getElem_mem hil)
      have hgd : A.getD i [] = A[i] := by rw [List.getD_eq_getElem?_getD, List.getElem?_eq_getElem hil]; rfl
      obtain ⟨y, hy⟩ : ∃ y, y = A[i] := ⟨_, rfl⟩
      rw [← hy] at c0 hsl hgd
      have HCUT : Hid (∀ w1, Calls Try.prog 8 #[.string ⟨y.toArray⟩, .int .i64 4] w1 fun r w' => r = .returned (.string ⟨(y.take 4).toArray⟩) ∧ w' = w1) := Lib.hid (fun w1 => cut_any y 4 w1 hsl (by decide))
      obtain ⟨K, hK⟩ : ∃ K, K = y.take 4 := ⟨_, rfl⟩
      have hK4 : K.length ≤ 1000000 := by rw [hK, List.length_take]; omega
      have hdl := accD_len A i
      have hD2 : accD A (i + 1) = ((K, (i : Int)) :: dropK K (accD A i)).take 64 := by rw [hK, ← hgd]; rfl
      rw [← hK] at HCUT
      have HD2 := Lib.hid hD2
      obtain ⟨D, hD⟩ : ∃ D, D = accD A i := ⟨_, rfl⟩
      rw [← hD] at hSS hm hdl HD2
      have HP1 := Lib.hid (hSS.put1 hl1 K hK4 (i : Int))
      have HDL : Hid (D.length ≤ 64 ∧ m = D.length) := Lib.hid ⟨by omega, hm⟩
      have HK4 := Lib.hid hK4
      clear hm hl1 hSS hil hsl hgd hy hK hK4 hdl hD2 hD HI hin
      go_wp2_with fail
      refine (HCUT.out wr).mono ?_
      rintro e wc ⟨rfl, hwc⟩
      obtain rfl : wc = wr := hwc
      clear HCUT
      go_wp2_with fail
      refine HP1.out.mono ?_
      rintro e w5 ⟨rfl, hS5⟩
      have HP2 := Lib.hid (hS5.put2 HDL.out.1 K HK4.out (i : Int))
      clear hS5 HP1
      go_wp2_with fail
      refine HP2.out.mono ?_
      rintro e w6 ⟨rfl, hS6⟩
      have hU := hS6.use (by have := HDL.out.1; omega) cl K (i : Int)
      rw [← HDL.out.2, ← HD2.out] at hU
      have HU := Lib.hid hU
      clear hS6 HP2 hU
      go_wp2_with fail
      refine HU.out.mono ?_
      rintro e w7 ⟨q7, c7, rfl, hS7⟩
      obtain ⟨m7, hm7⟩ : ∃ m7, m7 = (accD A (i + 1)).length := ⟨_, rfl⟩
      rw [← hm7]
      have HM7 := Lib.hid hm7
      have HKY := Lib.hid (hS7.keys (by simp) (by simp; exact HK4.out))
      clear hS7 hm7 HU
      go_wp2_with fail
      refine HKY.out.mono ?_
      rintro e w8 ⟨p8, cp8, rfl, hr8, hS8⟩
      obtain ⟨b8, o8, rfl, hb8, d0⟩ := hr8.str 0 (by simp)
      simp only [Nat.add_zero, List.map_cons, List.getElem_cons_zero] at d0
      have HS8 := Lib.hid hS8
      clear hr8 hS8 HKY hb8
      go_wp2_with fail
      go_roundw
      case rel => exact ⟨i + 1, m7, q7, c7, by omega, by go_num, rfl, Lib.hid ⟨HM7.out, _, by simp, HS8.out⟩⟩
      case measure => simp [intOf]; omega
    · obtain rfl : i = n := by omega
      obtain ⟨hm, L1, hl1, hSS⟩ := HI.out
      have hkk := accD_key A i
      have hdl := accD_len A i
      obtain ⟨D, hD⟩ : ∃ D, D = accD A i := ⟨_, rfl⟩
      rw [← hD] at hSS hm hkk hdl
      have hm60 : m ≤ 60 := by omega
      have HKK := Lib.hid hkk
      have HDM := Lib.hid hm
      have H2 : Hid (∃ L2, SS W c1 c2 (0 : Nat) (0 : Nat) L1 L2 D q wr ∧ L2.Perm D) := Lib.hid ⟨D, hSS, List.Perm.refl _⟩
      clear hm hl1 hSS hkk hdl hD HI
      have i1 : ¬ (i : Int) < i := by omega
      go_upto_region 20 with fail
      go_loopw [11, 12, 13, 64] (fun _ _ _ s64 wx => ∃ j : Nat, j ≤ m ∧ s64 = .int .i64 (j : Int) ∧ Hid (∃ L2, SS W c1 c2 (j : Nat) (j : Nat) L1 L2 D q wx ∧ L2.Perm D)) (fun _ _ _ j _ => m - (intOf j).toNat)
      case atStart => exact ⟨0, Nat.zero_le _, rfl, H2⟩
      case round =>
        obtain ⟨j, hj, rfl, HJ⟩ := hrel
        clear H2
        by_cases hjm : j < m
        · have j1 : (j : Int) < m := by omega
          have j0 : (0 : Int) ≤ j := by omega
          obtain ⟨L2, hSS, hpm⟩ := HJ.out
          have hjl : j < D.length := by rw [← HDM.out]; exact hjm
          obtain ⟨bs, off, rfl, hbs, k1, k2⟩ := hSS.rd.kv j hjl
          have hyl := HKK.out _ (List.getElem_mem hjl)
          have hym : D[j] ∈ L2 := hpm.mem_iff.2 (List.getElem_mem hjl)
          obtain ⟨y, hy⟩ : ∃ y, y = D[j] := ⟨_, rfl⟩
          rw [← hy] at k1 k2 hyl hym
          obtain ⟨yk, yv⟩ := y
          simp only at k1 k2 hyl
          obtain ⟨hh, hv, hp⟩ := perm_get hSS.apart hym
          have hba := (Below.refl wr.heap.size wr).alloc (Nat.le_refl _) (.cells #[.string ⟨yk.toArray⟩, .int .i64 yv] 34)
          have hG := hSS.get2 hba yk (by simp [maxLen]; omega) (by omega) (by omega) (by omega) (by omega) hh
          rw [hv] at hG
          have HG := Lib.hid hG
          have HP : Hid (((yk, yv) :: dropK yk L2).Perm D) := Lib.hid (hp.trans hpm)
          have HXR : Hid ((wr.alloc (.cells #[.string ⟨yk.toArray⟩, .int .i64 yv] 34)).heap[wr.heap.size]? = some (.cells #[.string ⟨yk.toArray⟩, .int .i64 yv] 34 (0, 0))) := Lib.hid (heap_alloc_new _ _)
          have HXS : Hid (wr.heap.size < (wr.alloc (.cells #[.string ⟨yk.toArray⟩, .int .i64 yv] 34)).heap.size) := Lib.hid (by simp)
          have ksz : (Try.prog.info? 34).map (·.size) = some 2 := by kernel_rfl
          clear hSS hpm hjl hyl hym hy hh hv hp hba hG HJ hjm
          go_wp2_with fail
          refine HG.out.mono ?_
          rintro e w9 ⟨rfl, hS9, hx9⟩
          have hr9 := (hx9 _ (Nat.le_refl _) HXS.out).trans HXR.out
          have k9 : w9.cell? ⟨wr.heap.size, 1, none⟩ = some (.int .i64 yv) := by unfold World.cell?; rw [hr9]; rfl
          have HS9 := Lib.hid hS9
          clear hS9 hx9 hr9 HG k1 k2
          go_wp2_with fail
          go_roundw
          case rel => exact ⟨j + 1, by omega, by go_num, Lib.hid ⟨_, HS9.out, HP.out⟩⟩
          case measure => simp [intOf]; omega
        · obtain rfl : j = m := by omega
          have j1 : ¬ (j : Int) < j := by omega
          obtain ⟨L2, hSS, hpm⟩ := HJ.out
          have hL := hSS.len2
          rw [hpm.length_eq, ← HDM.out] at hL
          have HLL := Lib.hid hL
          have HB := Lib.hid hSS.m
          clear hSS hpm hL HJ
          go_wp2_with fail
          refine HLL.out.mono ?_
          rintro e w9 ⟨rfl, hw9⟩
          have HW9 := Lib.hid hw9
          clear hw9 HLL
          go_wp2_with fail
          go_ret
          rw [HW9.out]
          exact ⟨rfl, HB.out⟩
end Go.Proofs.Ytdiiechkhlbkcab
