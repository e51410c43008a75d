/- A header out of bytes. -/
import Derived.Test.YtkejidmomnmdbaaDoorH8
import Derived.Laws.ResultCell
namespace Go.Proofs.YtkejidmomnmdbaaDoor
open Go.RowKit

theorem results_row2 {P : Program} {fn : Func} {p u : Tmp} {ty : TypeId} (h : fn.results = #[.cell p ty, .tmp u]) (tmps : Array Value) (w : World) (g : Nat) (t : TypeId) (cs : Array Value) (fr : Nat × Nat) (d : TypeDesc) (v : Value)
    (hp : tmps.getD p undef = .pointer (some ⟨g, 0, none⟩)) (hv : tmps.getD u undef = v) (hg : w.heap[g]? = some (.cells cs t fr))
    (hu : P.underlying ty = some d) (hd : (match d with | .struct _ | .array _ _ => true | _ => false) = true) (hi : (P.info? ty).map (·.size) = some cs.size) :
    (results fn tmps).run P w = .ok (.tuple #[.agg cs, v]) w := by
  rw [results_cell_tmp h, hp, hv]
  simp [asAddr, run_loadVar_row w g t ty cs fr d hg hu hd hi, Result.andThen]

def zhd : Hd Nm := ⟨0, 0, [], 0, 0, [], 0⟩
def zhc : Array Value := #[.int .i64 0, .int .i64 0, .string ⟨#[]⟩, .int .i64 0, .int .u64 0, .slice none 0 0, .int .i64 0]
theorem zhc_cells : hcells zhd none 0 = zhc := rfl
/-- Do a header's parents rise? -/
def hrs (h : Hd Nm) : Bool := rs (h.ps.map (·.1)) (h.ps.length - 1)
/-- 0, or what is wrong with bytes. -/
def hparE (s : List UInt8) : Int :=
  if (takeS s).2.1 = [] then (if (takeS s).2.2 = 0 then chk (takeS s).1 (hrs (takeS s).1) else (takeS s).2.2) else 3
def HPost (h : Hd Nm) (e : Int) (w : World) (r : Ending) (w' : World) : Prop := ∃ q c, r = .returned (.tuple #[.agg (hcells h q c), .int .i64 e]) ∧ Rw encN 25 w' q c h.ps ∧ Below w.heap.size w w' ∧ ∀ a, q = some a → w.heap.size ≤ a.block
theorem hinfo : (Tryd.prog.info? 43).map (·.size) = some 7 := by kernel_rfl
theorem hcells_one (h : Hd Nm) (q : Option Addr) (c : Nat) : ∀ v ∈ (hcells h q c).toList, v.oneCell' = true := by
  unfold hcells; intro v hv
  simp only [List.mem_cons, List.not_mem_nil, or_false] at hv
  rcases hv with rfl | rfl | rfl | rfl | rfl | rfl | rfl <;> rfl

set_option maxRecDepth 20000 in
set_option maxHeartbeats 4000000 in
theorem hparse_any (s : List UInt8) (w : World) (hl : s.length ≤ 1000000000) :
    Calls Tryd.prog 31 #[.string ⟨s.toArray⟩] w (HPost (if hparE s = 0 then (takeS s).1 else zhd) (hparE s) w) := by
  obtain ⟨⟨H, R, e⟩, hT⟩ : ∃ p, p = takeS s := ⟨_, rfl⟩
  obtain ⟨E0, hE0⟩ : ∃ E0 : Int, E0 = if R = [] then e else 3 := ⟨_, rfl⟩
  obtain ⟨E1, hE1⟩ : ∃ E1 : Int, E1 = chk H (hrs H) := ⟨_, rfl⟩
  have hE : hparE s = if E0 = 0 then E1 else E0 := by
    unfold hparE; rw [← hT, hE0, hE1]
    by_cases hR : R = []
    · by_cases he : e = 0 <;> simp [hR, he]
    · simp [hR]
  obtain ⟨EE, hEE⟩ : ∃ EE, EE = hparE s := ⟨_, rfl⟩
  obtain ⟨HH, hHH⟩ : ∃ HH, HH = if EE = 0 then H else zhd := ⟨_, rfl⟩
  rw [show (takeS s).1 = H by rw [← hT], ← hEE, ← hHH]
  rw [hE] at hEE
  have HEE := Lib.hid hEE
  have HHH := Lib.hid hHH
  clear hEE hHH
  have htk : Hid (∀ b w, InAt 175 w b s 0 → Calls Tryd.prog 97 #[.pointer (some ⟨b, 0, none⟩)] w fun r w' => ∃ q c, r = .returned (.agg (hcells H q c)) ∧ Rw encN 25 w' q c H.ps ∧ InAt 175 w' b R e ∧ Mod (· = b) w w' ∧ ∀ a, q = some a → w.heap.size ≤ a.block) :=
    Lib.hid (fun b w h => by have := take_any b s w h hl; rw [← hT] at this; exact this)
  have hend : Hid (∀ b w, InAt 175 w b R e → Calls Tryd.prog 82 #[.pointer (some ⟨b, 0, none⟩)] w fun r w' => r = .returned (.int .i64 E0) ∧ w = w') := Lib.hid (fun b w h => by rw [hE0]; exact end_any b R e w h)
  have hck : Hid (∀ q c w, Rd encN w q H.ps → Calls Tryd.prog 29 #[.agg (hcells H q c)] w fun r w' => r = .returned (.int .i64 E1) ∧ Below w.heap.size w w') := Lib.hid (fun q c w h => by rw [hE1]; exact hcheck_any H q c w h)
  obtain ⟨W0, hW0⟩ : ∃ W0, W0 = w.alloc (.cells #[.int .i64 0, .int .i64 0, .string ⟨#[]⟩, .int .i64 0, .int .u64 0, .slice none 0 0, .int .i64 0] 43) := ⟨_, rfl⟩
  have res0 : W0.heap[w.heap.size]? = some (.cells zhc 43 (0, 0)) := by rw [hW0]; exact heap_alloc_new w _
  have B0 : Below w.heap.size w W0 := by rw [hW0]; exact (Below.refl _ _).alloc (Nat.le_refl _) _
  have s0 : W0.heap.size = w.heap.size + 1 := by rw [hW0]; simp
  have HW0 := Lib.hid hW0
  have Hs0 := Lib.hid s0
  have Hres := Lib.hid res0
  have HB0 := Lib.hid B0
  clear hT hE hE0 hE1 hW0 s0 res0 B0
  go_enter Tryd.func31, Tryd.ntmps31
  go_wp2_with fail
  rw [← HW0.out]
  refine (of_any s W0 (by omega)).mono ?_
  rintro r w1 ⟨b, rfl, hb, hI, hB1⟩
  go_wp2_with fail
  refine (htk.out b w1 hI).mono ?_
  rintro r w2 ⟨q, c, rfl, hR, hI2, hM, hfr⟩
  have hY1 := Lib.hid (hcells_one H q c)
  have hbz := Hs0.out
  have hB1s := hB1.size
  have res2 : Hid (w2.heap[w.heap.size]? = some (.cells zhc 43 (0, 0))) := Lib.hid ((hM.block _ (by omega) (by omega)).trans ((hB1.block _ (by omega)).trans Hres.out))
  have B2 : Hid (Below w.heap.size w w2) := Lib.hid (HB0.out.trans ((hB1.mono HB0.out.size).trans (hM.to_below (by omega) (by intro k hk e; omega))))
  have hck1 : Hid (∀ w, Rd encN w q H.ps → Calls Tryd.prog 29 #[.agg (hcells H q c)] w fun r w' => r = .returned (.int .i64 E1) ∧ Below w.heap.size w w') := Lib.hid (fun w => hck.out q c w)
  obtain ⟨Y, hY⟩ : ∃ Y, Y = hcells H q c := ⟨_, rfl⟩
  rw [← hY] at hY1 hck1 ⊢
  have hYs : Y.size = 7 := by rw [hY]; rfl
  obtain ⟨W3, hW3⟩ : ∃ W3, W3 = (w2.alloc (.cells #[.int .i64 0, .int .i64 0, .string ⟨#[]⟩, .int .i64 0, .int .u64 0, .slice none 0 0, .int .i64 0] 43)).setRow w2.heap.size Y := ⟨_, rfl⟩
  have hb3 : Below w2.heap.size w2 W3 := by rw [hW3]; exact stored_below
  have box3 : Hid (W3.heap[w2.heap.size]? = some (.cells Y 43 (0, 0))) := Lib.hid (by rw [hW3]; exact setRow_heap _ _ _ _ _ _ (heap_alloc_new w2 _))
  have I3 : InAt 175 W3 b R e := (hb3.block b hI2.lt).trans hI2
  have res3 : Hid (W3.heap[w.heap.size]? = some (.cells zhc 43 (0, 0))) := Lib.hid ((hb3.block _ (Array.getElem?_eq_some_iff.1 res2.out).1).trans res2.out)
  have B3 : Hid (Below w.heap.size w W3) := Lib.hid (B2.out.trans (hb3.mono B2.out.size))
  have R3 : Hid (Rw encN 25 W3 q c H.ps) := Lib.hid (hR.old hb3)
  have F3 : Hid (∀ a, q = some a → w.heap.size < a.block) := Lib.hid (fun a e => by have := hfr a e; omega)
  have g3 : w.heap.size < w2.heap.size := (Array.getElem?_eq_some_iff.1 res2.out).1
  have HW3 := Lib.hid hW3
  have HY := Lib.hid hY
  have Hlt := Lib.hid g3
  have hg5 := heap_alloc_new w2 (.cells #[.int .i64 0, .int .i64 0, .string ⟨#[]⟩, .int .i64 0, .int .u64 0, .slice none 0 0, .int .i64 0] 43)
  have qs : (#[.int .i64 0, .int .i64 0, .string ⟨#[]⟩, .int .i64 0, .int .u64 0, .slice none 0 0, .int .i64 0] : Array Value).size = Y.size := by rw [hYs]; rfl
  have q3 : (Tryd.prog.info? 43).map (·.size) = some Y.size := by rw [hYs]; exact hinfo
  have q4 := hY1.out
  have Hq := Lib.hid hYs
  clear hb hI hB1 hR hI2 hM hfr hB1s hbz hW3 hY hb3 g3 hYs res2 B2 HW0 hck htk hl
  go_wp2_with (refine wpList_store_row rfl rfl 43 (.tmp 5) (.tmp 10) rfl w2.heap.size rfl 43 _ Y rfl hg5 qs q3 q4 ?_)
  rw [← HW3.out]
  refine (hend.out b W3 I3).mono ?_
  rintro r w4 ⟨rfl, rfl⟩
  clear I3 hg5 qs q4
  have z7 : zhc.size = 7 := rfl
  by_cases hz : E0 = 0
  · have zE0 := Lib.hid hz
    have t14 : (E0 == 0) = true := by simp [hz]
    subst hz
    clear t14
    have lbox := box3.out
    go_wp2_with (first | (refine wpList_load_row rfl 43 (.tmp 5) rfl w2.heap.size rfl 43 Y (0, 0) _ lbox Tryd.underlying43 rfl q3 ?_) | fail)
    refine (hck1.out W3 R3.out.rd).mono ?_
    rintro r w5 ⟨rfl, hb5⟩
    have res5 := (hb5.block _ (Array.getElem?_eq_some_iff.1 res3.out).1).trans res3.out
    have box5 := (hb5.block _ (Array.getElem?_eq_some_iff.1 box3.out).1).trans box3.out
    have B5 := Lib.hid (B3.out.trans (hb5.mono B3.out.size))
    have R5 := Lib.hid (R3.out.old hb5)
    have q4 := hY1.out
    have q2 : zhc.size = Y.size := by rw [Hq.out]; rfl
    clear hb5 lbox
    by_cases hz1 : E1 = 0
    · have zz := Lib.hid hz1
      subst hz1
      have L0 := Lib.hid (setRow_heap w5 w.heap.size zhc Y 43 (0, 0) res5)
      have LB := Lib.hid (B5.out.trans (((Mod.refl (fun _ => False) w5).setRow (g := w.heap.size) Y).to_below (B5.out.size) (by rintro k hk (h | h) <;> first | exact h | omega)))
      have LR := Lib.hid (R5.out.kept ((Mod.refl (fun _ => False) w5).setRow (g := w.heap.size) Y) (fun a e h => by
        have := F3.out a e
        rcases h with h | h
        · exact h
        · omega))
      go_wp2_with (first | (refine wpList_load_row rfl 43 (.tmp 5) rfl w2.heap.size rfl 43 Y (0, 0) _ box5 Tryd.underlying43 rfl q3 ?_) | (refine wpList_store_row rfl rfl 43 (.tmp 2) (.tmp 21) rfl w.heap.size rfl 43 zhc Y rfl res5 q2 q3 q4 ?_))
      have e1 : EE = 0 := by rw [HEE.out]; simp
      have e2 : HH = H := by rw [HHH.out, if_pos e1]
      exact bodyPost_ret (v := .tuple #[.agg Y, .int .i64 0]) (results_row2 Tryd.results31 _ _ w.heap.size 43 Y (0, 0) _ _ rfl rfl L0.out Tryd.underlying43 rfl q3) rfl ⟨q, c, by rw [e2, e1, HY.out], by rw [e2]; exact LR.out, LB.out, fun a e => Nat.le_of_lt (F3.out a e)⟩
    · have t18 : (E1 == 0) = false := by simp [hz1]
      have t19 : (E1 != 0) = true := by simp [hz1]
      have L0 := Lib.hid (setRow_heap w5 w.heap.size zhc #[.int .i64 0, .int .i64 0, .string ⟨#[]⟩, .int .i64 0, .int .u64 0, .slice none 0 0, .int .i64 0] 43 (0, 0) res5)
      have LB := Lib.hid (B5.out.trans (((Mod.refl (fun _ => False) w5).setRow (g := w.heap.size) #[.int .i64 0, .int .i64 0, .string ⟨#[]⟩, .int .i64 0, .int .u64 0, .slice none 0 0, .int .i64 0]).to_below (B5.out.size) (by rintro k hk (h | h) <;> first | exact h | omega)))
      have Hz := Lib.hid hz1
      clear hz1 q4
      go_wp2_with (first | (refine wpList_store_row rfl rfl 43 (.tmp 2) (.tmp 19) rfl w.heap.size rfl 43 zhc #[.int .i64 0, .int .i64 0, .string ⟨#[]⟩, .int .i64 0, .int .u64 0, .slice none 0 0, .int .i64 0] rfl res5 rfl hinfo (hcells_one zhd none 0) ?_) | fail)
      have e1 : EE = E1 := by rw [HEE.out]; simp
      have e2 : HH = zhd := by rw [HHH.out, if_neg (by rw [e1]; exact Hz.out)]
      exact bodyPost_ret (v := .tuple #[.agg zhc, .int .i64 E1]) (results_row2 Tryd.results31 _ _ w.heap.size 43 _ (0, 0) _ _ rfl rfl L0.out Tryd.underlying43 rfl hinfo) rfl ⟨none, 0, by rw [e2, e1, zhc_cells], by rw [e2]; exact Rw.empty _ _, LB.out, fun a e => by cases e⟩
  · have t14 : (E0 == 0) = false := by simp [hz]
    have t19 : (E0 != 0) = true := by simp [hz]
    have res5 := res3.out
    have L0 := Lib.hid (setRow_heap W3 w.heap.size zhc #[.int .i64 0, .int .i64 0, .string ⟨#[]⟩, .int .i64 0, .int .u64 0, .slice none 0 0, .int .i64 0] 43 (0, 0) res5)
    have LB := Lib.hid (B3.out.trans (((Mod.refl (fun _ => False) W3).setRow (g := w.heap.size) #[.int .i64 0, .int .i64 0, .string ⟨#[]⟩, .int .i64 0, .int .u64 0, .slice none 0 0, .int .i64 0]).to_below (B3.out.size) (by rintro k hk (h | h) <;> first | exact h | omega)))
    have Hz := Lib.hid hz
    clear hz
    go_wp2_with (first | (refine wpList_store_row rfl rfl 43 (.tmp 2) (.tmp 19) rfl w.heap.size rfl 43 zhc #[.int .i64 0, .int .i64 0, .string ⟨#[]⟩, .int .i64 0, .int .u64 0, .slice none 0 0, .int .i64 0] rfl res5 rfl hinfo (hcells_one zhd none 0) ?_) | fail)
    have e1 : EE = E0 := by rw [HEE.out, if_neg Hz.out]
    have e2 : HH = zhd := by rw [HHH.out, if_neg (by rw [e1]; exact Hz.out)]
    exact bodyPost_ret (v := .tuple #[.agg zhc, .int .i64 E0]) (results_row2 Tryd.results31 _ _ w.heap.size 43 _ (0, 0) _ _ rfl rfl L0.out Tryd.underlying43 rfl hinfo) rfl ⟨none, 0, by rw [e2, e1, zhc_cells], by rw [e2]; exact Rw.empty _ _, LB.out, fun a e => by cases e⟩
end Go.Proofs.YtkejidmomnmdbaaDoor
