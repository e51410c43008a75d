/- Texts 5: what the laws lean on. -/
import Derived.Test.YtpbcglepecojmaaVDmi4
import Derived.Deep.MidRow
namespace Go.Proofs.Ytpbcglepecojmaa
open Go.RowKit

theorem insX_none {x : FX} : ∀ {A : List FX}, (∀ a ∈ A, ¬ x.1 < a.1) → insX x A = A ++ [x]
  | [], _ => rfl
  | a :: A, h => by
    show (if x.1 < a.1 then x :: a :: A else a :: insX x A) = _
    rw [if_neg (h a (List.mem_cons_self ..)), insX_none (fun y hy => h y (List.mem_cons_of_mem _ hy))]; rfl
theorem insX_now {x y : FX} : ∀ {A : List FX}, (∀ a ∈ A, ¬ x.1 < a.1) → x.1 < y.1 → insX x (A ++ [y]) = A ++ [x, y]
  | [], _, hy => by show (if x.1 < y.1 then x :: y :: [] else y :: insX x []) = _; rw [if_pos hy]; rfl
  | a :: A, h, hy => by
    show (if x.1 < a.1 then x :: a :: (A ++ [y]) else a :: insX x (A ++ [y])) = _
    rw [if_neg (h a (List.mem_cons_self ..)), insX_now (fun y hy => h y (List.mem_cons_of_mem _ hy)) hy]; rfl
theorem insX_done {x y : FX} : ∀ {A : List FX}, (∃ a ∈ A, x.1 < a.1) → insX x (A ++ [y]) = insX x A ++ [y]
  | [], h => by obtain ⟨a, ha, _⟩ := h; cases ha
  | a :: A, h => by
    show (if x.1 < a.1 then x :: a :: (A ++ [y]) else a :: insX x (A ++ [y])) = (if x.1 < a.1 then x :: a :: A else a :: insX x A) ++ [y]
    by_cases ha : x.1 < a.1
    · rw [if_pos ha, if_pos ha]; rfl
    · rw [if_neg ha, if_neg ha, insX_done (by
        obtain ⟨z, hz, hlt⟩ := h
        rcases List.mem_cons.1 hz with rfl | hz
        · exact absurd hlt ha
        · exact ⟨z, hz, hlt⟩)]; rfl
/-- What with has gathered. -/
def Ins (x : FX) (Y : List FX) (i : Nat) (dn : Bool) (D : List FX) : Prop :=
  if dn then (∃ a ∈ Y.take i, x.1 < a.1) ∧ D = insX x (Y.take i) else (∀ a ∈ Y.take i, ¬ x.1 < a.1) ∧ D = Y.take i
theorem Ins.step1 {x : FX} {Y : List FX} {i : Nat} {D : List FX} (h : Ins x Y i true D) (hi : i < Y.length) : Ins x Y (i + 1) true (D ++ [Y[i]]) := by
  unfold Ins at h ⊢
  rw [if_pos rfl] at h ⊢
  obtain ⟨⟨a, ha, hl⟩, rfl⟩ := h
  rw [List.take_succ_eq_append_getElem hi, insX_done ⟨a, ha, hl⟩]
  exact ⟨⟨a, List.mem_append_left _ ha, hl⟩, rfl⟩
theorem Ins.step2 {x : FX} {Y : List FX} {i : Nat} {D : List FX} (h : Ins x Y i false D) (hi : i < Y.length) (hl : x.1 < (Y[i]).1) : Ins x Y (i + 1) true (D ++ [x] ++ [Y[i]]) := by
  unfold Ins at h ⊢
  rw [if_neg (by decide)] at h
  rw [if_pos rfl]
  obtain ⟨h1, rfl⟩ := h
  rw [List.take_succ_eq_append_getElem hi, insX_now h1 hl]
  exact ⟨⟨_, List.mem_append_right _ (List.mem_singleton.2 rfl), hl⟩, by simp⟩
theorem Ins.step3 {x : FX} {Y : List FX} {i : Nat} {D : List FX} (h : Ins x Y i false D) (hi : i < Y.length) (hl : ¬ x.1 < (Y[i]).1) : Ins x Y (i + 1) false (D ++ [Y[i]]) := by
  unfold Ins at h ⊢
  rw [if_neg (by decide)] at h ⊢
  obtain ⟨h1, rfl⟩ := h
  rw [List.take_succ_eq_append_getElem hi]
  refine ⟨fun a ha => ?_, rfl⟩
  rcases List.mem_append.1 ha with h | h
  · exact h1 a h
  · rw [List.mem_singleton.1 h]; exact hl
/-- What with holds while it goes. -/
structure WR (w wr : World) (R : Array Value) (qy : Option Addr) (cy : Nat) (Y : List FX) (m : Nat) (D : List FX) (q : Option Addr) (cq : Nat) : Prop where
  acc : AccR encF 64 w m D q cq wr
  yr : Rw encF 64 wr qy cy Y
  box : wr.heap[w.heap.size]? = some (.cells R 64 (0, 0))
  ne : ∀ a, q = some a → a.block ≠ w.heap.size ∧ ∀ a', qy = some a' → a.block ≠ a'.block
section
variable {w wr w' : World} {R : Array Value} {qy : Option Addr} {cy : Nat} {Y : List FX} {m : Nat} {D : List FX} {q : Option Addr} {cq : Nat}
theorem WR.below (h : WR w wr R qy cy Y m D q cq) (hb : Below wr.heap.size wr w') : WR w w' R qy cy Y m D q cq :=
  ⟨h.acc.below hb, h.yr.old hb, (hb.block _ (Array.getElem?_eq_some_iff.1 h.box).1).trans h.box, h.ne⟩
theorem WR.push (h : WR w wr R qy cy Y m D q cq) {y : FX} {q2 : Option Addr} {c2 : Nat} (hP : PushR encF 64 wr q (D ++ [y]) q2 c2 w') : WR w w' R qy cy Y (m + 1) (D ++ [y]) q2 c2 := by
  have hA := h.acc.push hP
  obtain ⟨_, hm, ho⟩ := hP
  refine ⟨hA, h.yr.kept hm (fun a e hn => ?_), (hm.block _ (Array.getElem?_eq_some_iff.1 h.box).1 (fun hn => ?_)).trans h.box, fun a e => ?_⟩
  · obtain ⟨b, e2, e3⟩ := hn
    exact (h.ne b e2).2 a e e3.symm
  · obtain ⟨b, e2, e3⟩ := hn
    exact (h.ne b e2).1 e3.symm
  · rcases ho a e with h1 | h1
    · exact h.ne a h1
    · have hbl := (Array.getElem?_eq_some_iff.1 h.box).1
      refine ⟨by omega, fun a' e' => ?_⟩
      have h2 := h.yr
      rw [e'] at h2
      have := h2.lt
      omega
end
set_option maxRecDepth 20000 in
set_option maxHeartbeats 8000000 in
theorem rkwith_any {w : World} (X : List FX) (ao : Option Addr) (c : Nat) (yk ys : List UInt8) (yn : Nat) (hR : Rd encF w ao X) (hn : X.length ≤ 1000000) :
    Calls Try.prog 37 #[.slice ao X.length c, .agg #[.string ⟨yk.toArray⟩, .string ⟨ys.toArray⟩, .int .i64 (yn : Int)]] w fun e w' => ∃ q c', e = .returned (.slice q (withX (yk, ys, yn) X).length c') ∧ Rw encF 64 w' q c' (withX (yk, ys, yn) X) ∧ (∀ a, q = some a → w.heap.size ≤ a.block) ∧ Below w.heap.size w w' := by
  have HR := Lib.hid hR
  have HN := Lib.hid hn
  have HI := Lib.hid finfo
  have HI2 := HI.out
  obtain ⟨W0, hW0⟩ : ∃ W0, W0 = w.alloc (.cells #[.string ⟨yk.toArray⟩, .string ⟨ys.toArray⟩, .int .i64 (yn : Int)] 64) := ⟨_, rfl⟩
  have hb0 : Below w.heap.size w W0 := by rw [hW0]; exact (Below.refl _ w).alloc (Nat.le_refl _) _
  have HG : Hid (W0.heap[w.heap.size]? = some (.cells #[.string ⟨yk.toArray⟩, .string ⟨ys.toArray⟩, .int .i64 (yn : Int)] 64 (0, 0))) := Lib.hid (by rw [hW0]; exact heap_alloc_new _ _)
  have HZ0 := Lib.hid (Rw.made (E := encF) 64 W0 [] (by simp [maxLen]))
  have HW0 := Lib.hid hW0
  obtain ⟨W1, hW1⟩ : ∃ W1, W1 = W0.alloc (.cells #[] 64) := ⟨_, rfl⟩
  have hb1 : Below W0.heap.size W0 W1 := by rw [hW1]; exact (Below.refl _ W0).alloc (Nat.le_refl _) _
  have HK0 : Hid (AccR encF 64 w 0 [] (some ⟨W0.heap.size, 0, none⟩) 0 W1) := Lib.hid ⟨by rw [hW1]; exact HZ0.out, rfl, (fun a e => by cases e; exact hb0.size), hb0.trans (hb1.mono hb0.size)⟩
  have HW1 := Lib.hid hW1
  have HG1 : Hid (W1.heap[w.heap.size]? = some (.cells #[.string ⟨yk.toArray⟩, .string ⟨ys.toArray⟩, .int .i64 (yn : Int)] 64 (0, 0))) := Lib.hid ((hb1.block _ (Array.getElem?_eq_some_iff.1 HG.out).1).trans HG.out)
  have hg0 : W1.cell? ⟨w.heap.size, 0, none⟩ = some (.string ⟨yk.toArray⟩) := by unfold World.cell?; rw [HG1.out]; rfl
  have hwt := rkwithout_any X ao c yk (hR.old HK0.out.m) hn
  obtain ⟨Y, hY⟩ : ∃ Y, Y = wo yk X := ⟨_, rfl⟩
  rw [← hY] at hwt
  have HWT := Lib.hid hwt
  have HYL : Hid (Y.length ≤ 1000000) := Lib.hid (by rw [hY]; exact Nat.le_trans (wo_len _ _) hn)
  have hwx : withX (yk, ys, yn) X = insX (yk, ys, yn) Y := by rw [hY]; rfl
  rw [hwx]
  obtain ⟨n, hnn⟩ : ∃ n, n = Y.length := ⟨_, rfl⟩
  have HNN := Lib.hid hnn
  rw [← hnn] at HWT
  clear hR hn hb0 hb1 HZ0 hwt hY hwx HR hnn hW1
  go_enter Try.func37, Try.ntmps37
  go_upto_region 1 with fail
  rw [← hW0]
  clear hW0
  go_upto_region 3 with fail
  rw [← HW1.out]
  have CC := hg0
  go_wp2_with fail
  refine HWT.out.mono ?_
  rintro e w2 ⟨qy, cy, rfl, hYr, hYn, hb2⟩
  have HK2 : Hid (WR w w2 #[.string ⟨yk.toArray⟩, .string ⟨ys.toArray⟩, .int .i64 (yn : Int)] qy cy Y 0 [] (some ⟨W0.heap.size, 0, none⟩) 0) := Lib.hid (by
    have h0 : w.heap.size < W0.heap.size := (Array.getElem?_eq_some_iff.1 HG.out).1
    have h1 : W0.heap.size < W1.heap.size := HK0.out.s.lt
    refine ⟨HK0.out.below hb2, hYr, (hb2.block _ (by omega)).trans HG1.out, fun a e => ?_⟩
    cases e
    exact ⟨by simp only; omega, fun a' e' h => by have := hYn a' e'; simp only at h; omega⟩)
  clear hYr hYn hb2 HG1 HG HK0 CC hg0 HWT
  go_wp2_with fail
  go_loopw [5, 6, 8, 15] (fun s5 s6 _ s15 wr => ∃ (i m : Nat) (q : Option Addr) (cq : Nat) (dn : Bool), i ≤ n ∧ m ≤ i + dn.toNat ∧ s15 = .int .i64 (i : Int) ∧ s6 = .bool dn ∧ s5 = .slice q m cq ∧ Hid (∃ D, WR w wr #[.string ⟨yk.toArray⟩, .string ⟨ys.toArray⟩, .int .i64 (yn : Int)] qy cy Y m D q cq ∧ Ins (yk, ys, yn) Y i dn D)) (fun _ _ _ s15 _ => n - (intOf s15).toNat)
  case atStart => exact ⟨0, 0, _, 0, false, Nat.zero_le _, Nat.zero_le _, rfl, rfl, rfl, Lib.hid ⟨[], HK2.out, by unfold Ins; rw [if_neg (by decide)]; exact ⟨fun a ha => by simp at ha, rfl⟩⟩⟩
  case round =>
    obtain ⟨i, m, q, cq, dn, hi, hm, rfl, rfl, rfl, hR⟩ := hrel
    obtain ⟨D, hWR, hIns⟩ := hR.out
    have hnb : n ≤ 1000000 := by have h1 := HYL.out; have h2 := HNN.out; omega
    by_cases hend : i < n
    · obtain ⟨b, o, hae, _, c0, c1, c2⟩ := hWR.yr.rd.fx i (by rw [← HNN.out]; exact hend)
      have st1 := fun (h : Ins (yk, ys, yn) Y i true D) => h.step1 (show i < Y.length by rw [← HNN.out]; exact hend)
      have st2 := fun (h : Ins (yk, ys, yn) Y i false D) hl => h.step2 (show i < Y.length by rw [← HNN.out]; exact hend) hl
      have st3 := fun (h : Ins (yk, ys, yn) Y i false D) hl => h.step3 (show i < Y.length by rw [← HNN.out]; exact hend) hl
      have HWR := Lib.hid hWR
      have HIN := Lib.hid hIns
      clear hWR hIns hR HK2
      subst hae
      generalize Y[i]'(by rw [← HNN.out]; exact hend) = x at *
      obtain ⟨xk, xs, xn⟩ := x
      simp only at *
      have ST1 := Lib.hid st1
      have ST2 := Lib.hid st2
      have ST3 := Lib.hid st3
      clear st1 st2 st3
      have hr1 : (wr.alloc (.cells #[.string ⟨#[]⟩, .string ⟨#[]⟩, .int .i64 0] 64)).heap[wr.heap.size]? = some (.cells #[.string ⟨#[]⟩, .string ⟨#[]⟩, .int .i64 0] 64 (0, 0)) := heap_alloc_new _ _
      have hV : ∀ v ∈ (#[.string ⟨xk.toArray⟩, .string ⟨xs.toArray⟩, .int .i64 (xn : Int)] : Array Value).toList, v.oneCell' = true := by intro v hv; simp at hv; rcases hv with rfl | rfl | rfl <;> rfl
      have HI2 := HI.out
      go_upto_region 6 with (refine wpList_store_row rfl rfl 64 (.tmp 8) (.tmp 18) rfl wr.heap.size rfl 64 _ #[.string ⟨xk.toArray⟩, .string ⟨xs.toArray⟩, .int .i64 (xn : Int)] rfl hr1 rfl HI2 hV ?_)
      obtain ⟨W3, hW3⟩ : ∃ W, W = (wr.alloc (.cells #[.string ⟨#[]⟩, .string ⟨#[]⟩, .int .i64 0] 64)).setRow wr.heap.size #[.string ⟨xk.toArray⟩, .string ⟨xs.toArray⟩, .int .i64 (xn : Int)] := ⟨_, rfl⟩
      have hb3 : Below wr.heap.size wr W3 := by rw [hW3]; exact (((Mod.refl (fun _ => False) wr).alloc _).setRow (g := wr.heap.size) _).to_below (Nat.le_refl _) (by rintro k hk (h | h); exact h; omega)
      have h3 : W3.heap[wr.heap.size]? = some (.cells #[.string ⟨xk.toArray⟩, .string ⟨xs.toArray⟩, .int .i64 (xn : Int)] 64 (0, 0)) := by rw [hW3]; exact setRow_heap _ _ _ _ 64 (0, 0) hr1
      have k0 : W3.cell? ⟨wr.heap.size, 0, none⟩ = some (.string ⟨xk.toArray⟩) := by unfold World.cell?; rw [h3]; rfl
      have k1 : W3.cell? ⟨wr.heap.size, 1, none⟩ = some (.string ⟨xs.toArray⟩) := by unfold World.cell?; rw [h3]; rfl
      have k2 : W3.cell? ⟨wr.heap.size, 2, none⟩ = some (.int .i64 (xn : Int)) := by unfold World.cell?; rw [h3]; rfl
      rw [← hW3]
      have HB3 := Lib.hid hb3
      have H3 := Lib.hid h3
      clear hW3 hr1 hV hb3 h3
      have HA := Lib.hid (HWR.out.below HB3.out)
      have hbx := HA.out.box
      have y0 : W3.cell? ⟨w.heap.size, 0, none⟩ = some (.string ⟨yk.toArray⟩) := by unfold World.cell?; rw [hbx]; rfl
      clear hbx
      have h3 := H3.out
      have hm2 : m ≤ i + 1 := Nat.le_trans hm (by cases dn <;> simp [Bool.toNat])
      cases dn
      · by_cases hlt : yk < xk
        · have hlt2 : Op.bytesLess yk xk = true := by rw [Go.Proofs.bytesLess_eq]; simpa using hlt
          have hbx := HA.out.box
          obtain ⟨WA, hW4⟩ : ∃ W', W' = W3.alloc (.cells #[.string ⟨yk.toArray⟩, .string ⟨ys.toArray⟩, .int .i64 (yn : Int)] 64) := ⟨_, rfl⟩
          have hb4 : Below W3.heap.size W3 WA := by rw [hW4]; exact (Below.refl _ _).alloc (Nat.le_refl _) _
          have HSx : Hid (WR w WA #[.string ⟨yk.toArray⟩, .string ⟨ys.toArray⟩, .int .i64 (yn : Int)] (some ⟨b, o, none⟩) cy Y m D q cq ∧ Rd encF WA (some ⟨W3.heap.size, 0, none⟩) [(yk, ys, yn)]) := Lib.hid ⟨HA.out.below hb4, by
            have := Rd.made encF W3 64 [(yk, ys, yn)] (by simp [maxLen])
            rw [hW4]; exact this⟩
          have HWx := Lib.hid hW4
          have HMLx := Lib.hid HA.out.acc.len
          have HNBx : Hid (m + 1 ≤ 100000000000) := Lib.hid (by omega)
          have HB4x := Lib.hid hb4
          clear hb4 hW4
          go_upto_region 9 with (first
            | (refine wpList_load_row rfl 64 (.tmp 3) rfl w.heap.size rfl 64 #[.string ⟨yk.toArray⟩, .string ⟨ys.toArray⟩, .int .i64 (yn : Int)] (0, 0) _ hbx Try.underlying64 rfl HI2 ?_; clear hbx)
            | (rw [← HWx.out]; refine wpList_pushR encF rfl (.tmp 28) (.tmp 30) 26 64 _ 40 rfl Try.underlying26 info_rf rfl (by decide) q cq m D HMLx.out rfl HSx.out.1.acc.s (some ⟨W3.heap.size, 0, none⟩) 1 1 [(yk, ys, yn)] rfl rfl HSx.out.2 HNBx.out ?_; intro qP cP wP hP5; have HPx := Lib.hid hP5; clear hP5; go_frame))
          have HAP := Lib.hid (HSx.out.1.push HPx.out)
          have h3 : wP.heap[wr.heap.size]? = some (.cells #[.string ⟨xk.toArray⟩, .string ⟨xs.toArray⟩, .int .i64 (xn : Int)] 64 (0, 0)) := by
            obtain ⟨_, hm, _⟩ := HPx.out
            have hl := (Array.getElem?_eq_some_iff.1 H3.out).1
            refine (hm.block _ (by have := HB4x.out.size; omega) ?_).trans ((HB4x.out.block _ hl).trans H3.out)
            rintro ⟨a, e, h⟩
            have := HWR.out.acc.s
            rw [e] at this
            have := this.lt
            omega
          obtain ⟨WB, hW4⟩ : ∃ W', W' = wP.alloc (.cells #[.string ⟨xk.toArray⟩, .string ⟨xs.toArray⟩, .int .i64 (xn : Int)] 64) := ⟨_, rfl⟩
          have hb4 : Below wP.heap.size wP WB := by rw [hW4]; exact (Below.refl _ _).alloc (Nat.le_refl _) _
          have HSa : Hid (WR w WB #[.string ⟨yk.toArray⟩, .string ⟨ys.toArray⟩, .int .i64 (yn : Int)] (some ⟨b, o, none⟩) cy Y (m + 1) (D ++ [(yk, ys, yn)]) qP cP ∧ Rd encF WB (some ⟨wP.heap.size, 0, none⟩) [(xk, xs, xn)]) := Lib.hid ⟨HAP.out.below hb4, by
            have := Rd.made encF wP 64 [(xk, xs, xn)] (by simp [maxLen])
            rw [hW4]; exact this⟩
          have HWa := Lib.hid hW4
          have HMLa := Lib.hid HAP.out.acc.len
          have HNBa : Hid ((m + 1) + 1 ≤ 100000000000) := Lib.hid (by omega)
          have HB4a := Lib.hid hb4
          clear hb4 hW4
          go_wp2_with (first
            | (refine wpList_load_row rfl 64 (.tmp 8) rfl wr.heap.size rfl 64 #[.string ⟨xk.toArray⟩, .string ⟨xs.toArray⟩, .int .i64 (xn : Int)] (0, 0) _ h3 Try.underlying64 rfl HI2 ?_; clear h3)
            | (rw [← HWa.out]; refine wpList_pushR encF rfl (.tmp 32) (.tmp 34) 26 64 _ 40 rfl Try.underlying26 info_rf rfl (by decide) qP cP (m + 1) (D ++ [(yk, ys, yn)]) HMLa.out rfl HSa.out.1.acc.s (some ⟨wP.heap.size, 0, none⟩) 1 1 [(xk, xs, xn)] rfl rfl HSa.out.2 HNBa.out ?_; intro qE cE wE hP5; have HPa := Lib.hid hP5; clear hP5; go_frame))
          have hP := HSa.out.1.push HPa.out
          refine ⟨⟨i + 1, (m + 1) + 1, qE, cE, true, by omega, by simp [Bool.toNat] at hm ⊢; omega, by simp, rfl, rfl, Lib.hid ⟨_, hP, ST2.out HIN.out hlt⟩⟩, ?_⟩
          show n - ((i : Int) + 1).toNat < n - ((i : Int)).toNat
          omega
        · have hlt2 : Op.bytesLess yk xk = false := by rw [Go.Proofs.bytesLess_eq]; simpa using hlt
          obtain ⟨WB, hW4⟩ : ∃ W', W' = W3.alloc (.cells #[.string ⟨xk.toArray⟩, .string ⟨xs.toArray⟩, .int .i64 (xn : Int)] 64) := ⟨_, rfl⟩
          have hb4 : Below W3.heap.size W3 WB := by rw [hW4]; exact (Below.refl _ _).alloc (Nat.le_refl _) _
          have HSa : Hid (WR w WB #[.string ⟨yk.toArray⟩, .string ⟨ys.toArray⟩, .int .i64 (yn : Int)] (some ⟨b, o, none⟩) cy Y m D q cq ∧ Rd encF WB (some ⟨W3.heap.size, 0, none⟩) [(xk, xs, xn)]) := Lib.hid ⟨HA.out.below hb4, by
            have := Rd.made encF W3 64 [(xk, xs, xn)] (by simp [maxLen])
            rw [hW4]; exact this⟩
          have HWa := Lib.hid hW4
          have HMLa := Lib.hid HA.out.acc.len
          have HNBa : Hid (m + 1 ≤ 100000000000) := Lib.hid (by omega)
          have HB4a := Lib.hid hb4
          clear hb4 hW4
          go_wp2_with (first
            | (refine wpList_load_row rfl 64 (.tmp 8) rfl wr.heap.size rfl 64 #[.string ⟨xk.toArray⟩, .string ⟨xs.toArray⟩, .int .i64 (xn : Int)] (0, 0) _ h3 Try.underlying64 rfl HI2 ?_; clear h3)
            | (rw [← HWa.out]; refine wpList_pushR encF rfl (.tmp 32) (.tmp 34) 26 64 _ 40 rfl Try.underlying26 info_rf rfl (by decide) q cq m D HMLa.out rfl HSa.out.1.acc.s (some ⟨W3.heap.size, 0, none⟩) 1 1 [(xk, xs, xn)] rfl rfl HSa.out.2 HNBa.out ?_; intro qE cE wE hP5; have HPa := Lib.hid hP5; clear hP5; go_frame))
          have hP := HSa.out.1.push HPa.out
          refine ⟨⟨i + 1, m + 1, qE, cE, false, by omega, by simp [Bool.toNat] at hm ⊢; omega, by simp, rfl, rfl, Lib.hid ⟨_, hP, ST3.out HIN.out hlt⟩⟩, ?_⟩
          show n - ((i : Int) + 1).toNat < n - ((i : Int)).toNat
          omega
      · skip
        obtain ⟨WB, hW4⟩ : ∃ W', W' = W3.alloc (.cells #[.string ⟨xk.toArray⟩, .string ⟨xs.toArray⟩, .int .i64 (xn : Int)] 64) := ⟨_, rfl⟩
        have hb4 : Below W3.heap.size W3 WB := by rw [hW4]; exact (Below.refl _ _).alloc (Nat.le_refl _) _
        have HSa : Hid (WR w WB #[.string ⟨yk.toArray⟩, .string ⟨ys.toArray⟩, .int .i64 (yn : Int)] (some ⟨b, o, none⟩) cy Y m D q cq ∧ Rd encF WB (some ⟨W3.heap.size, 0, none⟩) [(xk, xs, xn)]) := Lib.hid ⟨HA.out.below hb4, by
          have := Rd.made encF W3 64 [(xk, xs, xn)] (by simp [maxLen])
          rw [hW4]; exact this⟩
        have HWa := Lib.hid hW4
        have HMLa := Lib.hid HA.out.acc.len
        have HNBa : Hid (m + 1 ≤ 100000000000) := Lib.hid (by omega)
        have HB4a := Lib.hid hb4
        clear hb4 hW4
        go_wp2_with (first
          | (refine wpList_load_row rfl 64 (.tmp 8) rfl wr.heap.size rfl 64 #[.string ⟨xk.toArray⟩, .string ⟨xs.toArray⟩, .int .i64 (xn : Int)] (0, 0) _ h3 Try.underlying64 rfl HI2 ?_; clear h3)
          | (rw [← HWa.out]; refine wpList_pushR encF rfl (.tmp 32) (.tmp 34) 26 64 _ 40 rfl Try.underlying26 info_rf rfl (by decide) q cq m D HMLa.out rfl HSa.out.1.acc.s (some ⟨W3.heap.size, 0, none⟩) 1 1 [(xk, xs, xn)] rfl rfl HSa.out.2 HNBa.out ?_; intro qE cE wE hP5; have HPa := Lib.hid hP5; clear hP5; go_frame))
        have hP := HSa.out.1.push HPa.out
        refine ⟨⟨i + 1, m + 1, qE, cE, true, by omega, by simp [Bool.toNat] at hm ⊢; omega, by simp, rfl, rfl, Lib.hid ⟨_, hP, ST1.out HIN.out⟩⟩, ?_⟩
        show n - ((i : Int) + 1).toNat < n - ((i : Int)).toNat
        omega
    · have hY : Y.take i = Y := List.take_of_length_le (by rw [← HNN.out]; omega)
      have HWR := Lib.hid hWR
      have hend2 : ¬ (i : Int) < (n : Int) := by omega
      have hm2 : m ≤ i + 1 := Nat.le_trans hm (by cases dn <;> simp [Bool.toNat])
      cases dn
      · have hD : D ++ [(yk, ys, yn)] = insX (yk, ys, yn) Y := by
          unfold Ins at hIns
          rw [if_neg (by decide), hY] at hIns
          rw [insX_none hIns.1, hIns.2]
        have hbx := HWR.out.box
        have HD := Lib.hid hD
        clear hWR hIns hR HK2 hD hY hend
        obtain ⟨WA, hW4⟩ : ∃ W', W' = wr.alloc (.cells #[.string ⟨yk.toArray⟩, .string ⟨ys.toArray⟩, .int .i64 (yn : Int)] 64) := ⟨_, rfl⟩
        have hb4 : Below wr.heap.size wr WA := by rw [hW4]; exact (Below.refl _ _).alloc (Nat.le_refl _) _
        have HSe : Hid (WR w WA #[.string ⟨yk.toArray⟩, .string ⟨ys.toArray⟩, .int .i64 (yn : Int)] qy cy Y m D q cq ∧ Rd encF WA (some ⟨wr.heap.size, 0, none⟩) [(yk, ys, yn)]) := Lib.hid ⟨HWR.out.below hb4, by
          have := Rd.made encF wr 64 [(yk, ys, yn)] (by simp [maxLen])
          rw [hW4]; exact this⟩
        have HWe := Lib.hid hW4
        have HMLe := Lib.hid HWR.out.acc.len
        have HNBe : Hid (m + 1 ≤ 100000000000) := Lib.hid (by omega)
        have HB4e := Lib.hid hb4
        clear hb4 hW4
        go_wp2_with (first
          | (refine wpList_load_row rfl 64 (.tmp 3) rfl w.heap.size rfl 64 #[.string ⟨yk.toArray⟩, .string ⟨ys.toArray⟩, .int .i64 (yn : Int)] (0, 0) _ hbx Try.underlying64 rfl HI2 ?_; clear hbx)
          | (rw [← HWe.out]; refine wpList_pushR encF rfl (.tmp 39) (.tmp 41) 26 64 _ 40 rfl Try.underlying26 info_rf rfl (by decide) q cq m D HMLe.out rfl HSe.out.1.acc.s (some ⟨wr.heap.size, 0, none⟩) 1 1 [(yk, ys, yn)] rfl rfl HSe.out.2 HNBe.out ?_; intro qE cE wE hP5; have HPe := Lib.hid hP5; clear hP5; go_frame))
        have hP := HSe.out.1.push HPe.out
        have hA := hP.acc
        rw [HD.out] at hA
        go_ret
        exact ⟨qE, cE, by rw [hA.len]; rfl, hA.s, hA.new, hA.m⟩
      · have hD : D = insX (yk, ys, yn) Y := by
          unfold Ins at hIns
          rw [if_pos rfl, hY] at hIns
          exact hIns.2
        have hA := hWR.acc
        rw [hD] at hA
        have HA := Lib.hid hA
        clear hWR hIns hR HK2 hD hY hend hA HWR
        go_wp2_with fail
        go_ret
        exact ⟨q, cq, by rw [HA.out.len]; rfl, HA.out.s, HA.out.new, HA.out.m⟩
end Go.Proofs.Ytpbcglepecojmaa

namespace Go.Proofs.Ytpbcglepecojmaa
open Go.RowKit

theorem results_cell_slot {P : Program} {fn : Func} {p q : Tmp} {ty : TypeId} (h : fn.results = #[.cell p ty, .tmp q]) (tmps : Array Value) (w : World) (g : Nat) (t : TypeId) (cs : Array Value) (fr : Nat × Nat) (d : TypeDesc) (v : Value)
    (hp : tmps.getD p undef = .pointer (some ⟨g, 0, none⟩)) (hq : tmps.getD q undef = v) (hg : w.heap[g]? = some (.cells cs t fr))
    (hu : P.underlying ty = some d) (hd : (match d with | .struct _ | .array _ _ => true | _ => false) = true) (hi : (P.info? ty).map (·.size) = some cs.size) :
    (results fn tmps).run P w = .ok (.tuple #[.agg cs, v]) w := by
  have hp' : tmps[p]?.getD undef = .pointer (some ⟨g, 0, none⟩) := by simpa using hp
  have hq' : tmps[q]?.getD undef = v := by simpa using hq
  simp [results, h, hp', hq', asAddr, run_loadVar_row w g t ty cs fr d hg hu hd hi]
/-- What is wrong with a deed of that kind, and the files that it leaves. -/
def wrK (S : St) (kd : Int) (k s : List UInt8) (n : Int) : Int := if kd = 0 then wrA S s else if kd = 2 then wrC S k n else wrN S k
def XK (S : St) (kd : Int) (k s : List UInt8) (n : Int) : List FX := if kd = 0 then apX S k s else if kd = 1 then syX S k else if kd = 2 then cuX S k n.toNat else if kd = 3 then rnX S k s else wo k S.X
def doS (S : St) (kd : Int) (k s : List UInt8) (n : Int) : St := dedS S (wrK S kd k s n) (XK S kd k s n)
def doR (S : St) (kd : Int) (k s : List UInt8) (n : Int) : Int := dedR S (wrK S kd k s n)
/-- What Do answers. -/
def DoP (w : World) (ao : Option Addr) (X0 : List FX) (S' : St) (r : Int) (e : Ending) (w' : World) : Prop := ∃ q c', e = .returned (.tuple #[.agg (rdC S' q c'), .int .i64 r]) ∧ Rd encF w' q S'.X ∧ (q = ao ∧ S'.X = X0 ∨ ∀ a, q = some a → w.heap.size ≤ a.block) ∧ Below w.heap.size w w'
def zD : Array Value := #[.slice none 0 0, .int .i64 0, .int .i64 0, .int .i64 0, .bool false]
theorem rdC_one (S : St) (ao : Option Addr) (c : Nat) : ∀ v ∈ (rdC S ao c).toList, v.oneCell' = true := by
  intro v hv; simp [rdC] at hv; rcases hv with rfl | rfl | rfl | rfl | rfl <;> rfl
/-- Do's boxes: the disk, the answer, the file. -/
structure DW (w W : World) (C F : Array Value) (gf : Nat) : Prop where
  c : W.heap[w.heap.size]? = some (.cells C 28 (0, 0))
  z : W.heap[w.heap.size + 1]? = some (.cells #[.slice none 0 0, .int .i64 0, .int .i64 0, .int .i64 0, .bool false] 28 (0, 0))
  f : W.heap[gf]? = some (.cells F 64 (0, 0))
  gt : w.heap.size + 1 < gf
  b : Below w.heap.size w W
section
variable {w W W' : World} {C F : Array Value} {gf : Nat}
theorem DW.old (h : DW w W C F gf) (hb : Below W.heap.size W W') : DW w W' C F gf :=
  ⟨(hb.block _ (Array.getElem?_eq_some_iff.1 h.c).1).trans h.c, (hb.block _ (Array.getElem?_eq_some_iff.1 h.z).1).trans h.z, (hb.block _ (Array.getElem?_eq_some_iff.1 h.f).1).trans h.f, h.gt, h.b.trans (hb.mono h.b.size)⟩
theorem DW.set0 (h : DW w W C F gf) (j : Nat) (v : Value) : DW w (W.setCell ⟨w.heap.size, j, none⟩ v) (C.setIfInBounds j v) F gf := by
  have hm : Mod (fun i => i = w.heap.size) W (W.setCell ⟨w.heap.size, j, none⟩ v) := (Mod.refl (fun i => i = w.heap.size) W).setCell (fun _ => rfl) v
  have hg := h.gt
  exact ⟨heap_setCell_same _ _ _ _ 28 v h.c, (hm.block _ (Array.getElem?_eq_some_iff.1 h.z).1 (by omega)).trans h.z, (hm.block _ (Array.getElem?_eq_some_iff.1 h.f).1 (by omega)).trans h.f, hg, h.b.trans (hm.to_below h.b.size (by intro k hk e; omega))⟩
theorem DW.setF (h : DW w W C F gf) (j : Nat) (v : Value) : DW w (W.setCell ⟨gf, j, none⟩ v) C (F.setIfInBounds j v) gf := by
  have hm : Mod (fun i => i = gf) W (W.setCell ⟨gf, j, none⟩ v) := (Mod.refl (fun i => i = gf) W).setCell (fun _ => rfl) v
  have hg := h.gt
  exact ⟨(hm.block _ (Array.getElem?_eq_some_iff.1 h.c).1 (by omega)).trans h.c, (hm.block _ (Array.getElem?_eq_some_iff.1 h.z).1 (by omega)).trans h.z, heap_setCell_same _ _ _ _ 64 v h.f, hg, h.b.trans (hm.to_below h.b.size (by intro k hk e; omega))⟩
theorem DW.cell0 (h : DW w W C F gf) (j : Nat) (v : Value) (hv : C[j]? = some v) : W.cell? ⟨w.heap.size, j, none⟩ = some v ∧ W.frozen? ⟨w.heap.size, j, none⟩ = false := by
  exact ⟨by rw [cell_of_row _ _ _ _ 28 (0, 0) h.c, hv], frozen_of_row _ _ _ _ 28 h.c⟩
theorem DW.cellF (h : DW w W C F gf) (j : Nat) (v : Value) (hv : F[j]? = some v) : W.cell? ⟨gf, j, none⟩ = some v ∧ W.frozen? ⟨gf, j, none⟩ = false := by
  exact ⟨by rw [cell_of_row _ _ _ _ 64 (0, 0) h.f, hv], frozen_of_row _ _ _ _ 64 h.f⟩
/-- The answer stored. -/
theorem DW.fin (h : DW w W C F gf) : (W.setRow (w.heap.size + 1) C).heap[w.heap.size + 1]? = some (.cells C 28 (0, 0)) ∧ Below w.heap.size w (W.setRow (w.heap.size + 1) C) ∧ Below w.heap.size w W := by
  refine ⟨setRow_heap _ _ _ _ 28 (0, 0) h.z, h.b.trans (((Mod.refl (fun _ => False) W).setRow (g := w.heap.size + 1) _).to_below h.b.size (by rintro k hk (h | h); exact h; omega)), h.b⟩
theorem DW.make (hc : W.heap[w.heap.size]? = some (.cells C 28 (0, 0))) (hz : W.heap[w.heap.size + 1]? = some (.cells #[.slice none 0 0, .int .i64 0, .int .i64 0, .int .i64 0, .bool false] 28 (0, 0))) (hb : Below w.heap.size w W) (a0 a1 a2 : Value) (h1 : a0.oneCell' = true) (h2 : a1.oneCell' = true) (h3 : a2.oneCell' = true) :
    DW w ((W.alloc (.cells #[.string ⟨#[]⟩, .string ⟨#[]⟩, .int .i64 0] 64)).setRow W.heap.size #[a0, a1, a2]) C #[a0, a1, a2] W.heap.size := by
  have hb3 : Below W.heap.size W ((W.alloc (.cells #[.string ⟨#[]⟩, .string ⟨#[]⟩, .int .i64 0] 64)).setRow W.heap.size #[a0, a1, a2]) := (((Mod.refl (fun _ => False) W).alloc _).setRow (g := W.heap.size) _).to_below (Nat.le_refl _) (by rintro k hk (h | h); exact h; omega)
  have hl1 := (Array.getElem?_eq_some_iff.1 hz).1
  have hl0 := (Array.getElem?_eq_some_iff.1 hc).1
  exact ⟨(hb3.block _ hl0).trans hc, (hb3.block _ hl1).trans hz, setRow_heap _ _ _ _ 64 (0, 0) (heap_alloc_new _ _), hl1, hb.trans (hb3.mono hb.size)⟩
theorem DW.setRowF (h : DW w W C F gf) (cs : Array Value) : DW w (W.setRow gf cs) C cs gf := by
  have hm : Mod (fun i => i = gf) W (W.setRow gf cs) := ⟨rfl, rfl, rfl, by simp [World.setRow], fun k hk hn => setRow_other W gf k cs (fun e => hn e)⟩
  have hg := h.gt
  exact ⟨(hm.block _ (Array.getElem?_eq_some_iff.1 h.c).1 (by omega)).trans h.c, (hm.block _ (Array.getElem?_eq_some_iff.1 h.z).1 (by omega)).trans h.z, setRow_heap _ _ _ _ 64 (0, 0) h.f, hg, h.b.trans (hm.to_below h.b.size (by intro k hk e; omega))⟩
end
theorem DW.drewN {w W : World} {C F : Array Value} {gf : Nat} (h : DW w W C F gf) (n : Nat) : DW w (W.drewN n) C F gf :=
  h.old (((Mod.refl (fun _ => False) W).drewN n).to_below (Nat.le_refl _) (fun _ _ h => h))
/-- A row that lies apart from Do's boxes. -/
def QK (w : World) (gf : Nat) (W : World) (q : Option Addr) (c : Nat) (Y : List FX) : Prop := Rw encF 64 W q c Y ∧ ∀ a, q = some a → w.heap.size + 1 < a.block ∧ a.block ≠ gf
section
variable {w W W' : World} {C F : Array Value} {gf : Nat} {q : Option Addr} {c : Nat} {Y : List FX}
theorem QK.of (h : DW w W C F gf) (hr : Rw encF 64 W' q c Y) (hn : ∀ a, q = some a → W.heap.size ≤ a.block) : QK w gf W' q c Y := by
  have h1 := (Array.getElem?_eq_some_iff.1 h.z).1
  have h2 := (Array.getElem?_eq_some_iff.1 h.f).1
  exact ⟨hr, fun a e => by have := hn a e; omega⟩
theorem QK.old (h : QK w gf W q c Y) (hb : Below W.heap.size W W') : QK w gf W' q c Y := ⟨h.1.old hb, h.2⟩
theorem QK.set0 (h : QK w gf W q c Y) (j : Nat) (v : Value) : QK w gf (W.setCell ⟨w.heap.size, j, none⟩ v) q c Y :=
  ⟨h.1.kept ((Mod.refl (fun i => i = w.heap.size) W).setCell (fun _ => rfl) v) (fun a e hn => by have := (h.2 a e).1; omega), h.2⟩
theorem QK.setF (h : QK w gf W q c Y) (j : Nat) (v : Value) : QK w gf (W.setCell ⟨gf, j, none⟩ v) q c Y :=
  ⟨h.1.kept ((Mod.refl (fun i => i = gf) W).setCell (fun _ => rfl) v) (fun a e hn => (h.2 a e).2 hn), h.2⟩
theorem QK.fin (h : QK w gf W q c Y) (cs : Array Value) : Rd encF (W.setRow (w.heap.size + 1) cs) q Y := by
  have hm : Mod (fun i => i = w.heap.size + 1) W (W.setRow (w.heap.size + 1) cs) := ⟨rfl, rfl, rfl, by simp [World.setRow], fun k hk hn => setRow_other W (w.heap.size + 1) k cs (fun e => hn e)⟩
  exact (h.1.kept hm (fun a e hn => by have := (h.2 a e).1; omega)).rd
end
theorem bcat (a b : List UInt8) : (ByteArray.mk a.toArray) ++ (ByteArray.mk b.toArray) = ⟨(a ++ b).toArray⟩ := by
  apply ByteArray.ext
  simp [ByteArray.data_append]
set_option maxRecDepth 20000 in
set_option maxHeartbeats 8000000 in
theorem rkdo0_any {w : World} (S : St) (ok : Ok S) (so : SrtX S.X) (ao : Option Addr) (c : Nat) (hR : Rd encF w ao S.X) (k s : List UInt8) (n : Int) (hk : k.length ≤ 1000000) (hs : s.length ≤ 1000000000) :
    Calls Try.prog 20 #[.agg (rdC S ao c), .int .i64 0, .string ⟨k.toArray⟩, .string ⟨s.toArray⟩, .int .i64 n] w fun e w' => DoP w ao S.X (doS S 0 k s n) (doR S 0 k s n) e w' := by
  have HI := Lib.hid finfo
  have HJ := Lib.hid rinfo
  have HR := Lib.hid hR
  have HOK := Lib.hid ok
  obtain ⟨rm, dd, lf, dn, X⟩ := S
  have hvr := rdC_one ⟨rm, dd, lf, dn, X⟩ ao c
  unfold rdC at hvr ⊢
  simp only at hvr HR so ⊢
  obtain ⟨W0, hW0⟩ : ∃ W0, W0 = (w.alloc (.cells #[.slice ao X.length c, .int .i64 rm, .int .i64 dd, .int .i64 lf, .bool dn] 28)).alloc (.cells #[.slice none 0 0, .int .i64 0, .int .i64 0, .int .i64 0, .bool false] 28) := ⟨_, rfl⟩
  have hb0 : Below w.heap.size w W0 := by rw [hW0]; exact ((Below.refl _ w).alloc (Nat.le_refl _) _).alloc (by simp) _
  have b0 : W0.heap[w.heap.size]? = some (.cells #[.slice ao X.length c, .int .i64 rm, .int .i64 dd, .int .i64 lf, .bool dn] 28 (0, 0)) := by rw [hW0, Below.heap_alloc _ _ _ (by simp)]; exact heap_alloc_new _ _
  have b1 : W0.heap[w.heap.size + 1]? = some (.cells #[.slice none 0 0, .int .i64 0, .int .i64 0, .int .i64 0, .bool false] 28 (0, 0)) := by rw [hW0]; have := heap_alloc_new (w.alloc (.cells #[.slice ao X.length c, .int .i64 rm, .int .i64 dd, .int .i64 lf, .bool dn] 28)) (.cells #[.slice none 0 0, .int .i64 0, .int .i64 0, .int .i64 0, .bool false] 28); simpa using this
  have c04 : W0.cell? ⟨w.heap.size, 4, none⟩ = some (.bool dn) := by unfold World.cell?; rw [b0]; rfl
  cases dn
  rotate_left
  · have e1 : doS ⟨rm, dd, lf, true, X⟩ 0 k s n = ⟨rm, dd, lf, true, X⟩ := rfl
    have e2 : doR ⟨rm, dd, lf, true, X⟩ 0 k s n = 6 := rfl
    rw [e1, e2]
    have HJ2 := HJ.out
    have HF : Hid (∀ W, W = W0.setRow (w.heap.size + 1) #[.slice ao X.length c, .int .i64 rm, .int .i64 dd, .int .i64 lf, .bool true] → W.heap[w.heap.size + 1]? = some (.cells #[.slice ao X.length c, .int .i64 rm, .int .i64 dd, .int .i64 lf, .bool true] 28 (0, 0)) ∧ Below w.heap.size w W) := Lib.hid (by
      rintro W rfl
      exact ⟨setRow_heap _ _ _ _ 28 (0, 0) b1, hb0.trans (((Mod.refl (fun _ => False) W0).setRow (g := w.heap.size + 1) _).to_below hb0.size (by rintro k hk (h | h); exact h; omega))⟩)
    clear e1 e2 ok so hR HOK hb0
    go_enter Try.func20, Try.ntmps20
    go_upto_region 1 with fail
    rw [← hW0]
    clear hW0
    go_wp2_with (first
      | (refine wpList_load_row rfl 28 (.tmp 5) rfl w.heap.size rfl 28 _ (0, 0) _ b0 Try.underlying28 rfl HJ2 ?_; clear b0)
      | (refine wpList_store_row rfl rfl 28 (.tmp 10) (.tmp 16) rfl (w.heap.size + 1) rfl 28 _ #[.slice ao X.length c, .int .i64 rm, .int .i64 dd, .int .i64 lf, .bool true] rfl b1 rfl HJ2 hvr ?_; clear b1))
    obtain ⟨hf1, hf2⟩ := HF.out _ rfl
    exact bodyPost_ret (results_cell_slot Try.results20 _ _ (w.heap.size + 1) 28 _ (0, 0) _ (.int .i64 6) rfl rfl hf1 Try.underlying28 rfl HJ2) rfl ⟨ao, c, rfl, HR.out.old hf2, .inl ⟨rfl, rfl⟩, hf2⟩
  have HB0 := Lib.hid hb0
  have HJ2 := HJ.out
  have HI2 := HI.out
  have HXL : Hid (X.length ≤ 1000000) := Lib.hid (Nat.le_trans ok.n (by decide))
  have HUB : Hid (usedX X ≤ 1000000000000000) := Lib.hid (by
    have h1 := usedX_le ok.f
    have h2 := ok.n
    have h3 : X.length * 2000000000 ≤ 100000 * 2000000000 := Nat.mul_le_mul_right _ h2
    simp only at h1
    omega)
  have hfd := rkfind_any ⟨rm, dd, lf, false, X⟩ ao c k (hR.old hb0) HXL.out
  unfold rdC at hfd
  simp only at hfd
  cases hh : hasX k X
  · rw [fdX_none hh] at hfd
    have HFD := Lib.hid hfd
    have HFF : Hid (fiX k X = (k, [], 0)) := Lib.hid (fiX_none hh)
    have HLB : Hid (([] : List UInt8).length ≤ 2000000000 ∧ s.length ≤ 1000000000) := Lib.hid ⟨by simp, hs⟩
    clear hfd hh hvr hR ok so hb0 hs
    go_enter Try.func20, Try.ntmps20
    go_upto_region 1 with fail
    rw [← hW0]
    clear hW0
    go_wp2_with (refine wpList_load_row rfl 28 (.tmp 5) rfl w.heap.size rfl 28 #[.slice ao X.length c, .int .i64 rm, .int .i64 dd, .int .i64 lf, .bool false] (0, 0) _ b0 Try.underlying28 rfl HJ2 ?_)
    refine HFD.out.mono ?_
    rintro e w1 ⟨rfl, hb1⟩
    have HB1 := Lib.hid (HB0.out.trans (hb1.mono HB0.out.size))
    have hc : w1.heap[w.heap.size]? = some (.cells #[.slice ao X.length c, .int .i64 rm, .int .i64 dd, .int .i64 lf, .bool false] 28 (0, 0)) := (hb1.block _ (Array.getElem?_eq_some_iff.1 b0).1).trans b0
    have hz : w1.heap[(w.heap.size + 1)]? = some (.cells #[.slice none 0 0, .int .i64 0, .int .i64 0, .int .i64 0, .bool false] 28 (0, 0)) := (hb1.block _ (Array.getElem?_eq_some_iff.1 b1).1).trans b1
    clear hb1 b0 b1 c04
    have HDW1 := Lib.hid (DW.make hc hz HB1.out (.string ⟨k.toArray⟩) (.string ⟨#[]⟩) (.int .i64 0) rfl rfl rfl)
    have hr1 : (w1.alloc (.cells #[.string ⟨#[]⟩, .string ⟨#[]⟩, .int .i64 0] 64)).heap[w1.heap.size]? = some (.cells #[.string ⟨#[]⟩, .string ⟨#[]⟩, .int .i64 0] 64 (0, 0)) := heap_alloc_new _ _
    have hV : ∀ v ∈ (#[.string ⟨k.toArray⟩, .string ⟨#[]⟩, .int .i64 0] : Array Value).toList, v.oneCell' = true := by intro v hv; simp at hv; rcases hv with rfl | rfl | rfl <;> rfl
    go_upto_region 9 with (refine wpList_store_row rfl rfl 64 (.tmp 13) (.tmp 28) rfl w1.heap.size rfl 64 _ #[.string ⟨k.toArray⟩, .string ⟨#[]⟩, .int .i64 0] rfl hr1 rfl HI2 hV ?_)
    generalize (w1.alloc (.cells #[.string ⟨#[]⟩, .string ⟨#[]⟩, .int .i64 0] 64)).setRow w1.heap.size #[.string ⟨k.toArray⟩, .string ⟨#[]⟩, .int .i64 0] = W2 at HDW1 ⊢
    clear hr1 hV hc hz
    generalize w1.heap.size = gf at HDW1 ⊢
    have HDW : Hid (DW w W2 #[.slice ao X.length c, .int .i64 rm, .int .i64 dd, .int .i64 lf, .bool false] #[.string ⟨k.toArray⟩, .string ⟨([] : List UInt8).toArray⟩, .int .i64 0] gf) := HDW1
    clear HDW1
    obtain ⟨W3, hW3⟩ : ∃ W, W = W2 := ⟨_, rfl⟩
    rw [← hW3] at HDW ⊢
    clear hW3
    have hw0 : wrK ⟨rm, dd, lf, false, X⟩ 0 k s n = if ((s.length : Int) > rm - (usedX X : Nat)) then 5 else 0 := rfl
    have HUS : Hid (∀ W, Below w.heap.size w W → Calls Try.prog 33 #[.agg #[.slice ao X.length c, .int .i64 rm, .int .i64 dd, .int .i64 lf, .bool false]] W fun e w' => e = .returned (.int .i64 ((usedX X : Nat) : Int)) ∧ Below W.heap.size W w') := Lib.hid (fun W hb => by
      have := rkused_any ⟨rm, dd, lf, false, X⟩ _ c (HR.out.old hb) HXL.out HUB.out
      unfold rdC at this
      exact this)
    have HUB2 := HUB.out
    generalize usedX X = u at hw0 HUS HUB2
    have hsb := HLB.out.2
    obtain ⟨pp, hpp⟩ : ∃ p : Value, p = .pointer (some ⟨w.heap.size, 1, none⟩) := ⟨_, rfl⟩
    have hwa : IntKind.i64.wrap ((s.length : Int) + (u : Int)) = (s.length : Int) + (u : Int) := by rw [IntKind.wrap_i64]; omega
    by_cases hbg : (s.length : Int) > rm - (u : Int)
    · rw [if_pos hbg] at hw0
      have hbig : rm < (s.length : Int) + (u : Int) := by omega
      have e1 : doS ⟨rm, dd, lf, false, X⟩ 0 k s n = ⟨rm, dd, lf, false, X⟩ := by unfold doS dedS; rw [hw0]; rfl
      have e2 : doR ⟨rm, dd, lf, false, X⟩ 0 k s n = 5 := by unfold doR dedR; rw [hw0]; rfl
      have E1 := Lib.hid e1
      have E2 := Lib.hid e2
      clear e1 e2 hw0 hbg
      go_upto_region 11 with fail
      refine wp_region_puts (fun t v w => VK (match t with
        | 50 => .eq (.int .i64 0)
        | 51 => .eq (Value.bool true)
        | 52 => .eq (Value.bool true)
        | 53 => .eq (.string ⟨s.toArray⟩)
        | 54 => .eq (.int .i64 (s.length : Int))
        | 55 => .eq (.agg #[.slice ao X.length c, .int .i64 rm, .int .i64 dd, .int .i64 lf, .bool false])
        | 56 => .eq (.int .i64 (u : Int))
        | 57 => .eq (.int .i64 ((s.length : Int) + (u : Int)))
        | 58 => .eq (pp)
        | 59 => .eq (.int .i64 rm)
        | 60 => .eq (Value.bool true)
        | 61 => .eq (Value.bool true)
        | _ => .any) v w) (fun w' => Below W3.heap.size W3 w') 142 (by kernel_rfl) (by decide +kernel) rfl (Below.refl _ _).drew (by
        refine OweAll.cons (owesK rfl rfl fun a w1 ha hG hV => ?_) ?_
        · skip
          have h1 := ha.outer 1 (by decide +kernel)
          simp only [Act.eval] at h1
          exact ⟨.int .i64 0, w1, wanted_free rfl, by simp [execOp, go_sem, h1], Below.refl _ _, rfl⟩
        refine OweAll.cons (owesK rfl rfl fun a w1 ha hG hV => ?_) ?_
        · skip
          have h50 : a.tmps.getD 50 undef = .int .i64 0 := hV.get 50 (by decide +kernel)
          exact ⟨Value.bool true, w1, wanted_free rfl, by simp [execOp, go_sem, h50], Below.refl _ _, rfl⟩
        refine OweAll.cons (owesK rfl rfl fun a w1 ha hG hV => ?_) ?_
        · skip
          have h51 : a.tmps.getD 51 undef = Value.bool true := hV.get 51 (by decide +kernel)
          exact ⟨Value.bool true, w1, wanted_free rfl, by simp [execOp, go_sem, h51], Below.refl _ _, rfl⟩
        refine OweAll.cons (owesK rfl rfl fun a w1 ha hG hV => ?_) ?_
        · skip
          have h3 := ha.outer 3 (by decide +kernel)
          simp only [Act.eval] at h3
          exact ⟨.string ⟨s.toArray⟩, w1, (wanted_of (t := 52) rfl rfl (hV.get 52 (by decide +kernel))), by simp [execOp, go_sem, h3], Below.refl _ _, rfl⟩
        refine OweAll.cons (owesK rfl rfl fun a w1 ha hG hV => ?_) ?_
        · skip
          have h53 : a.tmps.getD 53 undef = .string ⟨s.toArray⟩ := hV.get 53 (by decide +kernel)
          exact ⟨.int .i64 (s.length : Int), w1, (wanted_of (t := 52) rfl rfl (hV.get 52 (by decide +kernel))), by simp [execOp, go_sem, h53], Below.refl _ _, rfl⟩
        refine OweAll.cons (owesK rfl rfl fun a w1 ha hG hV => ?_) ?_
        · skip
          have h5 := ha.outer 5 (by decide +kernel)
          simp only [Act.eval] at h5
          have hh : w1.heap[w.heap.size]? = some (.cells #[.slice ao X.length c, .int .i64 rm, .int .i64 dd, .int .i64 lf, .bool false] 28 (0, 0)) := (HDW.out.old hG).c
          exact ⟨.agg #[.slice ao X.length c, .int .i64 rm, .int .i64 dd, .int .i64 lf, .bool false], w1, (wanted_of (t := 52) rfl rfl (hV.get 52 (by decide +kernel))), exec_load_row 28 (.tmp 5) rfl w.heap.size h5 28 #[.slice ao X.length c, .int .i64 rm, .int .i64 dd, .int .i64 lf, .bool false] (0, 0) _ hh Try.underlying28 rfl HJ.out, Below.refl _ _, rfl⟩
        refine OweAll.cons (owesK_call rfl rfl 33 fun a w1 ha hG hV => ?_) ?_
        · skip
          have h55 : a.tmps.getD 55 undef = .agg #[.slice ao X.length c, .int .i64 rm, .int .i64 dd, .int .i64 lf, .bool false] := hV.get 55 (by decide +kernel)
          refine ⟨#[.agg #[.slice ao X.length c, .int .i64 rm, .int .i64 dd, .int .i64 lf, .bool false]], (wanted_of (t := 52) rfl rfl (hV.get 52 (by decide +kernel))), by simp [execOp, resolve, invoke, go_sem, h55], ?_⟩
          refine (HUS.out w1 (HDW.out.old hG).b).mono ?_
          rintro r' u2 ⟨rfl, hb2⟩; exact ⟨_, rfl, rfl, hb2⟩
        refine OweAll.cons (owesK rfl rfl fun a w1 ha hG hV => ?_) ?_
        · skip
          have h54 : a.tmps.getD 54 undef = .int .i64 (s.length : Int) := hV.get 54 (by decide +kernel)
          have h56 : a.tmps.getD 56 undef = .int .i64 (u : Int) := hV.get 56 (by decide +kernel)
          exact ⟨.int .i64 ((s.length : Int) + (u : Int)), w1, (wanted_of (t := 52) rfl rfl (hV.get 52 (by decide +kernel))), by simp [execOp, go_sem, h54, h56, hwa], Below.refl _ _, rfl⟩
        refine OweAll.cons (owesK rfl rfl fun a w1 ha hG hV => ?_) ?_
        · skip
          have h5 := ha.outer 5 (by decide +kernel)
          simp only [Act.eval] at h5
          exact ⟨pp, w1, (wanted_of (t := 52) rfl rfl (hV.get 52 (by decide +kernel))), by simp [execOp, go_sem, h5, hpp], Below.refl _ _, rfl⟩
        refine OweAll.cons (owesK rfl rfl fun a w1 ha hG hV => ?_) ?_
        · skip
          have h58 : a.tmps.getD 58 undef = pp := hV.get 58 (by decide +kernel)
          have cc := ((HDW.out.old hG).cell0 1 _ rfl).1
          exact ⟨.int .i64 rm, w1, (wanted_of (t := 52) rfl rfl (hV.get 52 (by decide +kernel))), by simp [execOp, go_sem, h58, cc, hpp], Below.refl _ _, rfl⟩
        refine OweAll.cons (owesK rfl rfl fun a w1 ha hG hV => ?_) ?_
        · skip
          have h57 : a.tmps.getD 57 undef = .int .i64 ((s.length : Int) + (u : Int)) := hV.get 57 (by decide +kernel)
          have h59 : a.tmps.getD 59 undef = .int .i64 rm := hV.get 59 (by decide +kernel)
          exact ⟨Value.bool true, w1, (wanted_of (t := 52) rfl rfl (hV.get 52 (by decide +kernel))), by simp [execOp, go_sem, h57, h59, hbig], Below.refl _ _, rfl⟩
        refine OweAll.cons (owesK rfl rfl fun a w1 ha hG hV => ?_) ?_
        · skip
          have h52 : a.tmps.getD 52 undef = Value.bool true := hV.get 52 (by decide +kernel)
          have h60 : a.tmps.getD 60 undef = Value.bool true := hV.get 60 (by decide +kernel)
          exact ⟨Value.bool true, w1, wanted_free rfl, by simp [execOp, go_sem, h52, h60], Below.refl _ _, rfl⟩
        exact OweAll.nil
        ) ?_
      intro f wz hG hv
      have e61 : f 61 = Value.bool true := hv 11 _ 61 rfl rfl
      refine moves_back (P := Try.prog) (ops := #[]) f _ _ _ ?_
      simp only [dsts, List.filterMap_cons, List.filterMap_nil, List.map_cons, List.map_nil]
      rw [e61]
      clear hv
      unfold mv
      clear e61
      have HDW0 := Lib.hid (HDW.out.old hG)
      clear hG HDW HUS
      have HDW := HDW0
      have hc := HDW.out.c
      have hz := HDW.out.z
      have hvr : ∀ v ∈ (#[.slice ao X.length c, .int .i64 rm, .int .i64 dd, .int .i64 lf, .bool false] : Array Value).toList, v.oneCell' = true := by intro v hv; simp at hv; rcases hv with rfl | rfl | rfl | rfl | rfl <;> rfl
      go_wp2_with (first
        | (refine wpList_load_row rfl 28 (.tmp 5) rfl w.heap.size rfl 28 #[.slice ao X.length c, .int .i64 rm, .int .i64 dd, .int .i64 lf, .bool false] (0, 0) _ hc Try.underlying28 rfl HJ2 ?_)
        | (refine wpList_store_row rfl rfl 28 (.tmp 10) (.tmp 62) rfl (w.heap.size + 1) rfl 28 #[.slice none 0 0, .int .i64 0, .int .i64 0, .int .i64 0, .bool false] #[.slice ao X.length c, .int .i64 rm, .int .i64 dd, .int .i64 lf, .bool false] rfl hz rfl HJ2 hvr ?_))
      obtain ⟨hf1, hf2, hf3⟩ := HDW.out.fin
      rw [E1.out, E2.out]
      exact bodyPost_ret (results_cell_slot Try.results20 _ _ (w.heap.size + 1) 28 #[.slice ao X.length c, .int .i64 rm, .int .i64 dd, .int .i64 lf, .bool false] (0, 0) _ (.int .i64 5) rfl rfl hf1 Try.underlying28 rfl HJ2) rfl ⟨_, _, rfl, HR.out.old hf2, .inl ⟨rfl, rfl⟩, hf2⟩
    · rw [if_neg hbg] at hw0
      have HW0 := Lib.hid hw0
      have hbig : (s.length : Int) + (u : Int) ≤ rm := by omega
      clear hw0 hbg
      go_upto_region 11 with fail
      refine wp_region_puts (fun t v w => VK (match t with
        | 50 => .eq (.int .i64 0)
        | 51 => .eq (Value.bool true)
        | 52 => .eq (Value.bool true)
        | 53 => .eq (.string ⟨s.toArray⟩)
        | 54 => .eq (.int .i64 (s.length : Int))
        | 55 => .eq (.agg #[.slice ao X.length c, .int .i64 rm, .int .i64 dd, .int .i64 lf, .bool false])
        | 56 => .eq (.int .i64 (u : Int))
        | 57 => .eq (.int .i64 ((s.length : Int) + (u : Int)))
        | 58 => .eq (pp)
        | 59 => .eq (.int .i64 rm)
        | 60 => .eq (Value.bool false)
        | 61 => .eq (Value.bool false)
        | _ => .any) v w) (fun w' => Below W3.heap.size W3 w') 142 (by kernel_rfl) (by decide +kernel) rfl (Below.refl _ _).drew (by
        refine OweAll.cons (owesK rfl rfl fun a w1 ha hG hV => ?_) ?_
        · skip
          have h1 := ha.outer 1 (by decide +kernel)
          simp only [Act.eval] at h1
          exact ⟨.int .i64 0, w1, wanted_free rfl, by simp [execOp, go_sem, h1], Below.refl _ _, rfl⟩
        refine OweAll.cons (owesK rfl rfl fun a w1 ha hG hV => ?_) ?_
        · skip
          have h50 : a.tmps.getD 50 undef = .int .i64 0 := hV.get 50 (by decide +kernel)
          exact ⟨Value.bool true, w1, wanted_free rfl, by simp [execOp, go_sem, h50], Below.refl _ _, rfl⟩
        refine OweAll.cons (owesK rfl rfl fun a w1 ha hG hV => ?_) ?_
        · skip
          have h51 : a.tmps.getD 51 undef = Value.bool true := hV.get 51 (by decide +kernel)
          exact ⟨Value.bool true, w1, wanted_free rfl, by simp [execOp, go_sem, h51], Below.refl _ _, rfl⟩
        refine OweAll.cons (owesK rfl rfl fun a w1 ha hG hV => ?_) ?_
        · skip
          have h3 := ha.outer 3 (by decide +kernel)
          simp only [Act.eval] at h3
          exact ⟨.string ⟨s.toArray⟩, w1, (wanted_of (t := 52) rfl rfl (hV.get 52 (by decide +kernel))), by simp [execOp, go_sem, h3], Below.refl _ _, rfl⟩
        refine OweAll.cons (owesK rfl rfl fun a w1 ha hG hV => ?_) ?_
        · skip
          have h53 : a.tmps.getD 53 undef = .string ⟨s.toArray⟩ := hV.get 53 (by decide +kernel)
          exact ⟨.int .i64 (s.length : Int), w1, (wanted_of (t := 52) rfl rfl (hV.get 52 (by decide +kernel))), by simp [execOp, go_sem, h53], Below.refl _ _, rfl⟩
        refine OweAll.cons (owesK rfl rfl fun a w1 ha hG hV => ?_) ?_
        · skip
          have h5 := ha.outer 5 (by decide +kernel)
          simp only [Act.eval] at h5
          have hh : w1.heap[w.heap.size]? = some (.cells #[.slice ao X.length c, .int .i64 rm, .int .i64 dd, .int .i64 lf, .bool false] 28 (0, 0)) := (HDW.out.old hG).c
          exact ⟨.agg #[.slice ao X.length c, .int .i64 rm, .int .i64 dd, .int .i64 lf, .bool false], w1, (wanted_of (t := 52) rfl rfl (hV.get 52 (by decide +kernel))), exec_load_row 28 (.tmp 5) rfl w.heap.size h5 28 #[.slice ao X.length c, .int .i64 rm, .int .i64 dd, .int .i64 lf, .bool false] (0, 0) _ hh Try.underlying28 rfl HJ.out, Below.refl _ _, rfl⟩
        refine OweAll.cons (owesK_call rfl rfl 33 fun a w1 ha hG hV => ?_) ?_
        · skip
          have h55 : a.tmps.getD 55 undef = .agg #[.slice ao X.length c, .int .i64 rm, .int .i64 dd, .int .i64 lf, .bool false] := hV.get 55 (by decide +kernel)
          refine ⟨#[.agg #[.slice ao X.length c, .int .i64 rm, .int .i64 dd, .int .i64 lf, .bool false]], (wanted_of (t := 52) rfl rfl (hV.get 52 (by decide +kernel))), by simp [execOp, resolve, invoke, go_sem, h55], ?_⟩
          refine (HUS.out w1 (HDW.out.old hG).b).mono ?_
          rintro r' u2 ⟨rfl, hb2⟩; exact ⟨_, rfl, rfl, hb2⟩
        refine OweAll.cons (owesK rfl rfl fun a w1 ha hG hV => ?_) ?_
        · skip
          have h54 : a.tmps.getD 54 undef = .int .i64 (s.length : Int) := hV.get 54 (by decide +kernel)
          have h56 : a.tmps.getD 56 undef = .int .i64 (u : Int) := hV.get 56 (by decide +kernel)
          exact ⟨.int .i64 ((s.length : Int) + (u : Int)), w1, (wanted_of (t := 52) rfl rfl (hV.get 52 (by decide +kernel))), by simp [execOp, go_sem, h54, h56, hwa], Below.refl _ _, rfl⟩
        refine OweAll.cons (owesK rfl rfl fun a w1 ha hG hV => ?_) ?_
        · skip
          have h5 := ha.outer 5 (by decide +kernel)
          simp only [Act.eval] at h5
          exact ⟨pp, w1, (wanted_of (t := 52) rfl rfl (hV.get 52 (by decide +kernel))), by simp [execOp, go_sem, h5, hpp], Below.refl _ _, rfl⟩
        refine OweAll.cons (owesK rfl rfl fun a w1 ha hG hV => ?_) ?_
        · skip
          have h58 : a.tmps.getD 58 undef = pp := hV.get 58 (by decide +kernel)
          have cc := ((HDW.out.old hG).cell0 1 _ rfl).1
          exact ⟨.int .i64 rm, w1, (wanted_of (t := 52) rfl rfl (hV.get 52 (by decide +kernel))), by simp [execOp, go_sem, h58, cc, hpp], Below.refl _ _, rfl⟩
        refine OweAll.cons (owesK rfl rfl fun a w1 ha hG hV => ?_) ?_
        · skip
          have h57 : a.tmps.getD 57 undef = .int .i64 ((s.length : Int) + (u : Int)) := hV.get 57 (by decide +kernel)
          have h59 : a.tmps.getD 59 undef = .int .i64 rm := hV.get 59 (by decide +kernel)
          exact ⟨Value.bool false, w1, (wanted_of (t := 52) rfl rfl (hV.get 52 (by decide +kernel))), by simp [execOp, go_sem, h57, h59, hbig], Below.refl _ _, rfl⟩
        refine OweAll.cons (owesK rfl rfl fun a w1 ha hG hV => ?_) ?_
        · skip
          have h52 : a.tmps.getD 52 undef = Value.bool true := hV.get 52 (by decide +kernel)
          have h60 : a.tmps.getD 60 undef = Value.bool false := hV.get 60 (by decide +kernel)
          exact ⟨Value.bool false, w1, wanted_free rfl, by simp [execOp, go_sem, h52, h60], Below.refl _ _, rfl⟩
        exact OweAll.nil
        ) ?_
      intro f wz hG hv
      have e61 : f 61 = Value.bool false := hv 11 _ 61 rfl rfl
      refine moves_back (P := Try.prog) (ops := #[]) f _ _ _ ?_
      simp only [dsts, List.filterMap_cons, List.filterMap_nil, List.map_cons, List.map_nil]
      rw [e61]
      clear hv
      unfold mv
      clear e61
      have HDW0 := Lib.hid (HDW.out.old hG)
      clear hG HDW HUS
      have HDW := HDW0
      clear HDW0
      go_upto_region 13 with fail
      by_cases hl : lf = 0
      · subst hl
        have e1 : doS ⟨rm, dd, 0, false, X⟩ 0 k s n = ⟨rm, dd, 0, true, X⟩ := by
          unfold doS dedS; rw [HW0.out]; simp [lfX, XK, apX, HFF.out]
        have e2 : doR ⟨rm, dd, 0, false, X⟩ 0 k s n = 6 := by
          unfold doR dedR; rw [HW0.out]; simp
        have E1 := Lib.hid e1
        have E2 := Lib.hid e2
        clear e1 e2 HW0
        obtain ⟨qa, qb⟩ := HDW.out.cell0 3 _ rfl
        obtain ⟨qc, qd⟩ := HDW.out.cell0 4 _ rfl
        go_upto_region 15 with fail
        have HDW' : Hid (DW w (wz.setCell ⟨w.heap.size, 4, none⟩ (.bool true)) #[.slice ao X.length c, .int .i64 rm, .int .i64 dd, .int .i64 0, .bool true] #[.string ⟨k.toArray⟩, .string ⟨([] : List UInt8).toArray⟩, .int .i64 0] gf) := Lib.hid (HDW.out.set0 4 (.bool true))
        clear qa qb qc qd
        obtain ⟨wH, hren⟩ : ∃ W, W = wz.setCell ⟨w.heap.size, 4, none⟩ (.bool true) := ⟨_, rfl⟩
        rw [← hren] at HDW'  ⊢
        clear hren HDW
        have HDW := HDW'
        clear HDW'
        have hc := HDW.out.c
        have hz := HDW.out.z
        have hvr : ∀ v ∈ (#[.slice ao X.length c, .int .i64 rm, .int .i64 dd, .int .i64 0, .bool true] : Array Value).toList, v.oneCell' = true := by intro v hv; simp at hv; rcases hv with rfl | rfl | rfl | rfl | rfl <;> rfl
        go_wp2_with (first
          | (refine wpList_load_row rfl 28 (.tmp 5) rfl w.heap.size rfl 28 #[.slice ao X.length c, .int .i64 rm, .int .i64 dd, .int .i64 0, .bool true] (0, 0) _ hc Try.underlying28 rfl HJ2 ?_)
          | (refine wpList_store_row rfl rfl 28 (.tmp 10) (.tmp 67) rfl (w.heap.size + 1) rfl 28 #[.slice none 0 0, .int .i64 0, .int .i64 0, .int .i64 0, .bool false] #[.slice ao X.length c, .int .i64 rm, .int .i64 dd, .int .i64 0, .bool true] rfl hz rfl HJ2 hvr ?_))
        obtain ⟨hf1, hf2, hf3⟩ := HDW.out.fin
        rw [E1.out, E2.out]
        exact bodyPost_ret (results_cell_slot Try.results20 _ _ (w.heap.size + 1) 28 #[.slice ao X.length c, .int .i64 rm, .int .i64 dd, .int .i64 0, .bool true] (0, 0) _ (.int .i64 6) rfl rfl hf1 Try.underlying28 rfl HJ2) rfl ⟨_, _, rfl, HR.out.old hf2, .inl ⟨rfl, rfl⟩, hf2⟩
      · have l0 : (lf == 0) = false := by simpa using hl
        by_cases hm : lf = -1
        · skip
          subst hm
          have hwd : IntKind.i64.wrap (dd + 1) = dd + 1 := by have h1 := HOK.out.d0; have h2 := HOK.out.d1; simp only at h1 h2; rw [IntKind.wrap_i64]; omega
          have e1 : doS ⟨rm, dd, (-1), false, X⟩ 0 k s n = ⟨rm, dd + 1, (-1), false, withX (k, s, 0) X⟩ := by
            unfold doS dedS; rw [HW0.out]; simp [lfX, XK, apX, HFF.out]
          have e2 : doR ⟨rm, dd, (-1), false, X⟩ 0 k s n = 0 := by
            unfold doR dedR; rw [HW0.out]; simp
          have E1 := Lib.hid e1
          have E2 := Lib.hid e2
          clear e1 e2 HW0
          obtain ⟨qa, qb⟩ := HDW.out.cell0 3 _ rfl
          obtain ⟨qc, qd⟩ := HDW.out.cell0 2 _ rfl
          go_upto_region 20 with fail
          have HDW' : Hid (DW w (wz.setCell ⟨w.heap.size, 2, none⟩ (.int .i64 (dd + 1))) #[.slice ao X.length c, .int .i64 rm, .int .i64 (dd + 1), .int .i64 (-1), .bool false] #[.string ⟨k.toArray⟩, .string ⟨([] : List UInt8).toArray⟩, .int .i64 0] gf) := Lib.hid (HDW.out.set0 2 (.int .i64 (dd + 1)))
          clear qa qb qc qd
          obtain ⟨wS, hren⟩ : ∃ W, W = wz.setCell ⟨w.heap.size, 2, none⟩ (.int .i64 (dd + 1)) := ⟨_, rfl⟩
          rw [← hren] at HDW'  ⊢
          clear hren HDW
          have HDW := HDW'
          clear HDW'
          have hcat : ([] : List UInt8).length + s.length ≤ 4000000000 := by have := HLB.out; omega
          obtain ⟨qa, qb⟩ := HDW.out.cellF 1 _ rfl
          go_upto_region 22 with fail
          rw [show (ByteArray.mk #[]) ++ ByteArray.mk s.toArray = ByteArray.mk s.toArray from bcat [] s]
          have HDW' : Hid (DW w (wS.setCell ⟨gf, 1, none⟩ (.string ⟨s.toArray⟩)) #[.slice ao X.length c, .int .i64 rm, .int .i64 (dd + 1), .int .i64 (-1), .bool false] #[.string ⟨k.toArray⟩, .string ⟨s.toArray⟩, .int .i64 0] gf) := Lib.hid (HDW.out.setF 1 (.string ⟨s.toArray⟩))
          clear qa qb
          obtain ⟨wF, hren⟩ : ∃ W, W = wS.setCell ⟨gf, 1, none⟩ (.string ⟨s.toArray⟩) := ⟨_, rfl⟩
          rw [← hren] at HDW'  ⊢
          clear hren HDW
          have HDW := HDW'
          clear HDW'
          have qc := (HDW.out.cell0 0 _ rfl).1
          have qr := HDW.out.f
          have HCL := Lib.hid (rkwith_any X _ c k s 0 (HR.out.old HDW.out.b) HXL.out)
          go_wp2_with (refine wpList_load_row rfl 64 (.tmp 13) rfl gf rfl 64 #[.string ⟨k.toArray⟩, .string ⟨s.toArray⟩, .int .i64 0] (0, 0) _ qr Try.underlying64 rfl HI2 ?_)
          refine HCL.out.mono ?_
          rintro e wcq ⟨qq, cq, rfl, hq, hn, hb⟩
          have HQ0 := Lib.hid (QK.of HDW.out hq hn)
          have HDW0 := Lib.hid (HDW.out.old hb)
          clear qc hq hn hb HCL HDW qr
          have HDW := HDW0
          clear HDW0
          obtain ⟨qa, qb⟩ := HDW.out.cell0 0 _ rfl
          go_upto_region 36 with fail
          have HDW' : Hid (DW w (wcq.setCell ⟨w.heap.size, 0, none⟩ (.slice qq (withX (k, s, 0) X).length cq)) #[.slice qq (withX (k, s, 0) X).length cq, .int .i64 rm, .int .i64 (dd + 1), .int .i64 (-1), .bool false] #[.string ⟨k.toArray⟩, .string ⟨s.toArray⟩, .int .i64 0] gf) := Lib.hid (HDW.out.set0 0 (.slice qq (withX (k, s, 0) X).length cq))
          have HQ := Lib.hid (HQ0.out.set0 0 (.slice qq (withX (k, s, 0) X).length cq))
          clear qa qb HQ0
          obtain ⟨wN, hren⟩ : ∃ W, W = wcq.setCell ⟨w.heap.size, 0, none⟩ (.slice qq (withX (k, s, 0) X).length cq) := ⟨_, rfl⟩
          rw [← hren] at HDW' HQ ⊢
          clear hren HDW
          have HDW := HDW'
          clear HDW'
          have hc := HDW.out.c
          have hz := HDW.out.z
          have hvr : ∀ v ∈ (#[.slice qq (withX (k, s, 0) X).length cq, .int .i64 rm, .int .i64 (dd + 1), .int .i64 (-1), .bool false] : Array Value).toList, v.oneCell' = true := by intro v hv; simp at hv; rcases hv with rfl | rfl | rfl | rfl | rfl <;> rfl
          go_wp2_with (first
            | (refine wpList_load_row rfl 28 (.tmp 5) rfl w.heap.size rfl 28 #[.slice qq (withX (k, s, 0) X).length cq, .int .i64 rm, .int .i64 (dd + 1), .int .i64 (-1), .bool false] (0, 0) _ hc Try.underlying28 rfl HJ2 ?_)
            | (refine wpList_store_row rfl rfl 28 (.tmp 10) (.tmp 141) rfl (w.heap.size + 1) rfl 28 #[.slice none 0 0, .int .i64 0, .int .i64 0, .int .i64 0, .bool false] #[.slice qq (withX (k, s, 0) X).length cq, .int .i64 rm, .int .i64 (dd + 1), .int .i64 (-1), .bool false] rfl hz rfl HJ2 hvr ?_))
          obtain ⟨hf1, hf2, hf3⟩ := HDW.out.fin
          rw [E1.out, E2.out]
          exact bodyPost_ret (results_cell_slot Try.results20 _ _ (w.heap.size + 1) 28 #[.slice qq (withX (k, s, 0) X).length cq, .int .i64 rm, .int .i64 (dd + 1), .int .i64 (-1), .bool false] (0, 0) _ (.int .i64 0) rfl rfl hf1 Try.underlying28 rfl HJ2) rfl ⟨_, _, rfl, HQ.out.fin _, .inr (fun a e => by have := (HQ.out.2 a e).1; omega), hf2⟩
        · skip
          have hpos : (0 : Int) < lf := by have := HOK.out.l0; simp only at this; omega
          have l1 : decide ((0 : Int) < lf) = true := by simpa using hpos
          have hwl : IntKind.i64.wrap (lf - 1) = lf - 1 := by have := HOK.out.l1; simp only at this; rw [IntKind.wrap_i64]; omega
          have hwd : IntKind.i64.wrap (dd + 1) = dd + 1 := by have h1 := HOK.out.d0; have h2 := HOK.out.d1; simp only at h1 h2; rw [IntKind.wrap_i64]; omega
          have e1 : doS ⟨rm, dd, lf, false, X⟩ 0 k s n = ⟨rm, dd + 1, (lf - 1), false, withX (k, s, 0) X⟩ := by
            unfold doS dedS; rw [HW0.out]; simp [lfX, XK, apX, HFF.out, hm, hl]
          have e2 : doR ⟨rm, dd, lf, false, X⟩ 0 k s n = 0 := by
            unfold doR dedR; rw [HW0.out]; simp [hl]
          have E1 := Lib.hid e1
          have E2 := Lib.hid e2
          clear e1 e2 HW0
          clear hm hl
          obtain ⟨qa, qb⟩ := HDW.out.cell0 3 _ rfl
          go_upto_region 18 with fail
          have HDW' : Hid (DW w (wz.setCell ⟨w.heap.size, 3, none⟩ (.int .i64 (lf - 1))) #[.slice ao X.length c, .int .i64 rm, .int .i64 dd, .int .i64 (lf - 1), .bool false] #[.string ⟨k.toArray⟩, .string ⟨([] : List UInt8).toArray⟩, .int .i64 0] gf) := Lib.hid (HDW.out.set0 3 (.int .i64 (lf - 1)))
          clear qa qb
          obtain ⟨wG, hren⟩ : ∃ W, W = wz.setCell ⟨w.heap.size, 3, none⟩ (.int .i64 (lf - 1)) := ⟨_, rfl⟩
          rw [← hren] at HDW'  ⊢
          clear hren HDW
          have HDW := HDW'
          clear HDW'
          obtain ⟨qa, qb⟩ := HDW.out.cell0 3 _ rfl
          obtain ⟨qc, qd⟩ := HDW.out.cell0 2 _ rfl
          go_upto_region 20 with fail
          have HDW' : Hid (DW w (wG.setCell ⟨w.heap.size, 2, none⟩ (.int .i64 (dd + 1))) #[.slice ao X.length c, .int .i64 rm, .int .i64 (dd + 1), .int .i64 (lf - 1), .bool false] #[.string ⟨k.toArray⟩, .string ⟨([] : List UInt8).toArray⟩, .int .i64 0] gf) := Lib.hid (HDW.out.set0 2 (.int .i64 (dd + 1)))
          clear qa qb qc qd
          obtain ⟨wS, hren⟩ : ∃ W, W = wG.setCell ⟨w.heap.size, 2, none⟩ (.int .i64 (dd + 1)) := ⟨_, rfl⟩
          rw [← hren] at HDW'  ⊢
          clear hren HDW
          have HDW := HDW'
          clear HDW'
          have hcat : ([] : List UInt8).length + s.length ≤ 4000000000 := by have := HLB.out; omega
          obtain ⟨qa, qb⟩ := HDW.out.cellF 1 _ rfl
          go_upto_region 22 with fail
          rw [show (ByteArray.mk #[]) ++ ByteArray.mk s.toArray = ByteArray.mk s.toArray from bcat [] s]
          have HDW' : Hid (DW w (wS.setCell ⟨gf, 1, none⟩ (.string ⟨s.toArray⟩)) #[.slice ao X.length c, .int .i64 rm, .int .i64 (dd + 1), .int .i64 (lf - 1), .bool false] #[.string ⟨k.toArray⟩, .string ⟨s.toArray⟩, .int .i64 0] gf) := Lib.hid (HDW.out.setF 1 (.string ⟨s.toArray⟩))
          clear qa qb
          obtain ⟨wF, hren⟩ : ∃ W, W = wS.setCell ⟨gf, 1, none⟩ (.string ⟨s.toArray⟩) := ⟨_, rfl⟩
          rw [← hren] at HDW'  ⊢
          clear hren HDW
          have HDW := HDW'
          clear HDW'
          have qc := (HDW.out.cell0 0 _ rfl).1
          have qr := HDW.out.f
          have HCL := Lib.hid (rkwith_any X _ c k s 0 (HR.out.old HDW.out.b) HXL.out)
          go_wp2_with (refine wpList_load_row rfl 64 (.tmp 13) rfl gf rfl 64 #[.string ⟨k.toArray⟩, .string ⟨s.toArray⟩, .int .i64 0] (0, 0) _ qr Try.underlying64 rfl HI2 ?_)
          refine HCL.out.mono ?_
          rintro e wcq ⟨qq, cq, rfl, hq, hn, hb⟩
          have HQ0 := Lib.hid (QK.of HDW.out hq hn)
          have HDW0 := Lib.hid (HDW.out.old hb)
          clear qc hq hn hb HCL HDW qr
          have HDW := HDW0
          clear HDW0
          obtain ⟨qa, qb⟩ := HDW.out.cell0 0 _ rfl
          go_upto_region 36 with fail
          have HDW' : Hid (DW w (wcq.setCell ⟨w.heap.size, 0, none⟩ (.slice qq (withX (k, s, 0) X).length cq)) #[.slice qq (withX (k, s, 0) X).length cq, .int .i64 rm, .int .i64 (dd + 1), .int .i64 (lf - 1), .bool false] #[.string ⟨k.toArray⟩, .string ⟨s.toArray⟩, .int .i64 0] gf) := Lib.hid (HDW.out.set0 0 (.slice qq (withX (k, s, 0) X).length cq))
          have HQ := Lib.hid (HQ0.out.set0 0 (.slice qq (withX (k, s, 0) X).length cq))
          clear qa qb HQ0
          obtain ⟨wN, hren⟩ : ∃ W, W = wcq.setCell ⟨w.heap.size, 0, none⟩ (.slice qq (withX (k, s, 0) X).length cq) := ⟨_, rfl⟩
          rw [← hren] at HDW' HQ ⊢
          clear hren HDW
          have HDW := HDW'
          clear HDW'
          have hc := HDW.out.c
          have hz := HDW.out.z
          have hvr : ∀ v ∈ (#[.slice qq (withX (k, s, 0) X).length cq, .int .i64 rm, .int .i64 (dd + 1), .int .i64 (lf - 1), .bool false] : Array Value).toList, v.oneCell' = true := by intro v hv; simp at hv; rcases hv with rfl | rfl | rfl | rfl | rfl <;> rfl
          go_wp2_with (first
            | (refine wpList_load_row rfl 28 (.tmp 5) rfl w.heap.size rfl 28 #[.slice qq (withX (k, s, 0) X).length cq, .int .i64 rm, .int .i64 (dd + 1), .int .i64 (lf - 1), .bool false] (0, 0) _ hc Try.underlying28 rfl HJ2 ?_)
            | (refine wpList_store_row rfl rfl 28 (.tmp 10) (.tmp 141) rfl (w.heap.size + 1) rfl 28 #[.slice none 0 0, .int .i64 0, .int .i64 0, .int .i64 0, .bool false] #[.slice qq (withX (k, s, 0) X).length cq, .int .i64 rm, .int .i64 (dd + 1), .int .i64 (lf - 1), .bool false] rfl hz rfl HJ2 hvr ?_))
          obtain ⟨hf1, hf2, hf3⟩ := HDW.out.fin
          rw [E1.out, E2.out]
          exact bodyPost_ret (results_cell_slot Try.results20 _ _ (w.heap.size + 1) 28 #[.slice qq (withX (k, s, 0) X).length cq, .int .i64 rm, .int .i64 (dd + 1), .int .i64 (lf - 1), .bool false] (0, 0) _ (.int .i64 0) rfl rfl hf1 Try.underlying28 rfl HJ2) rfl ⟨_, _, rfl, HQ.out.fin _, .inr (fun a e => by have := (HQ.out.2 a e).1; omega), hf2⟩
  · obtain ⟨j, hj1, hj2⟩ := fdX_some (i := 0) hh
    rw [hj1, Nat.zero_add] at hfd
    have HFD := Lib.hid hfd
    have hjl : j < X.length := (List.getElem?_eq_some_iff.1 hj2).1
    have hfk := fiX_key k X
    obtain ⟨fb, hfb⟩ : ∃ fb, fb = (fiX k X).2.1 := ⟨_, rfl⟩
    obtain ⟨fs, hfs⟩ : ∃ fs, fs = (fiX k X).2.2 := ⟨_, rfl⟩
    have hX : X[j] = (k, fb, fs) := by
      have := (List.getElem?_eq_some_iff.1 hj2).2
      rw [this, hfb, hfs]
      exact Prod.ext hfk rfl
    have HFF : Hid (fiX k X = (k, fb, fs)) := Lib.hid (by rw [hfb, hfs]; exact Prod.ext hfk rfl)
    have HLB : Hid (fb.length ≤ 2000000000 ∧ s.length ≤ 1000000000) := Lib.hid ⟨by rw [hfb]; exact fiX_len ok.f k, hs⟩
    obtain ⟨bb, oo, hae, _⟩ := HR.out.fx j hjl
    have HFX : Hid (∀ W, Below w.heap.size w W → W.cell? ⟨bb, oo + j * 3, none⟩ = some (.string ⟨k.toArray⟩) ∧ W.cell? ⟨bb, oo + j * 3 + 1, none⟩ = some (.string ⟨fb.toArray⟩) ∧ W.cell? ⟨bb, oo + j * 3 + 2, none⟩ = some (.int .i64 (fs : Int))) := Lib.hid (fun W hb => by
      obtain ⟨b', o', e, _, c0, c1, c2⟩ := (HR.out.old hb).fx j hjl
      rw [hae] at e
      cases e
      rw [hX] at c0 c1 c2
      exact ⟨c0, c1, c2⟩)
    subst hae
    clear hfd hvr hj1 hj2 hfb hfs hX hfk hR ok so hb0 hs
    go_enter Try.func20, Try.ntmps20
    go_upto_region 1 with fail
    rw [← hW0]
    clear hW0
    go_wp2_with (refine wpList_load_row rfl 28 (.tmp 5) rfl w.heap.size rfl 28 #[.slice (some ⟨bb, oo, none⟩) X.length c, .int .i64 rm, .int .i64 dd, .int .i64 lf, .bool false] (0, 0) _ b0 Try.underlying28 rfl HJ2 ?_)
    refine HFD.out.mono ?_
    rintro e w1 ⟨rfl, hb1⟩
    have HB1 := Lib.hid (HB0.out.trans (hb1.mono HB0.out.size))
    have hc : w1.heap[w.heap.size]? = some (.cells #[.slice (some ⟨bb, oo, none⟩) X.length c, .int .i64 rm, .int .i64 dd, .int .i64 lf, .bool false] 28 (0, 0)) := (hb1.block _ (Array.getElem?_eq_some_iff.1 b0).1).trans b0
    have hz : w1.heap[(w.heap.size + 1)]? = some (.cells #[.slice none 0 0, .int .i64 0, .int .i64 0, .int .i64 0, .bool false] 28 (0, 0)) := (hb1.block _ (Array.getElem?_eq_some_iff.1 b1).1).trans b1
    clear hb1 b0 b1 c04
    have HDW1 := Lib.hid (DW.make hc hz HB1.out (.string ⟨k.toArray⟩) (.string ⟨#[]⟩) (.int .i64 0) rfl rfl rfl)
    have hr1 : (w1.alloc (.cells #[.string ⟨#[]⟩, .string ⟨#[]⟩, .int .i64 0] 64)).heap[w1.heap.size]? = some (.cells #[.string ⟨#[]⟩, .string ⟨#[]⟩, .int .i64 0] 64 (0, 0)) := heap_alloc_new _ _
    have hV : ∀ v ∈ (#[.string ⟨k.toArray⟩, .string ⟨#[]⟩, .int .i64 0] : Array Value).toList, v.oneCell' = true := by intro v hv; simp at hv; rcases hv with rfl | rfl | rfl <;> rfl
    go_upto_region 8 with (refine wpList_store_row rfl rfl 64 (.tmp 13) (.tmp 28) rfl w1.heap.size rfl 64 _ #[.string ⟨k.toArray⟩, .string ⟨#[]⟩, .int .i64 0] rfl hr1 rfl HI2 hV ?_)
    generalize (w1.alloc (.cells #[.string ⟨#[]⟩, .string ⟨#[]⟩, .int .i64 0] 64)).setRow w1.heap.size #[.string ⟨k.toArray⟩, .string ⟨#[]⟩, .int .i64 0] = W2 at HDW1 ⊢
    clear hr1 hV hc hz
    generalize w1.heap.size = gf at HDW1 ⊢
    obtain ⟨x0, x1, x2⟩ := HFX.out W2 HDW1.out.b
    have hc := (HDW1.out.cell0 0 _ rfl).1
    have hff := HDW1.out.f
    have hV : ∀ v ∈ (#[.string ⟨k.toArray⟩, .string ⟨fb.toArray⟩, .int .i64 (fs : Int)] : Array Value).toList, v.oneCell' = true := by intro v hv; simp at hv; rcases hv with rfl | rfl | rfl <;> rfl
    go_upto_region 9 with (refine wpList_store_row rfl rfl 64 (.tmp 13) (.tmp 35) rfl gf rfl 64 _ #[.string ⟨k.toArray⟩, .string ⟨fb.toArray⟩, .int .i64 (fs : Int)] rfl hff rfl HI2 hV ?_)
    have HDW := Lib.hid (HDW1.out.setRowF #[.string ⟨k.toArray⟩, .string ⟨fb.toArray⟩, .int .i64 (fs : Int)])
    clear HDW1 hc hff hV x0 x1 x2
    generalize W2.setRow gf #[.string ⟨k.toArray⟩, .string ⟨fb.toArray⟩, .int .i64 (fs : Int)] = W3 at HDW ⊢
    have hw0 : wrK ⟨rm, dd, lf, false, X⟩ 0 k s n = if ((s.length : Int) > rm - (usedX X : Nat)) then 5 else 0 := rfl
    have HUS : Hid (∀ W, Below w.heap.size w W → Calls Try.prog 33 #[.agg #[.slice (some ⟨bb, oo, none⟩) X.length c, .int .i64 rm, .int .i64 dd, .int .i64 lf, .bool false]] W fun e w' => e = .returned (.int .i64 ((usedX X : Nat) : Int)) ∧ Below W.heap.size W w') := Lib.hid (fun W hb => by
      have := rkused_any ⟨rm, dd, lf, false, X⟩ _ c (HR.out.old hb) HXL.out HUB.out
      unfold rdC at this
      exact this)
    have HUB2 := HUB.out
    generalize usedX X = u at hw0 HUS HUB2
    have hsb := HLB.out.2
    obtain ⟨pp, hpp⟩ : ∃ p : Value, p = .pointer (some ⟨w.heap.size, 1, none⟩) := ⟨_, rfl⟩
    have hwa : IntKind.i64.wrap ((s.length : Int) + (u : Int)) = (s.length : Int) + (u : Int) := by rw [IntKind.wrap_i64]; omega
    by_cases hbg : (s.length : Int) > rm - (u : Int)
    · rw [if_pos hbg] at hw0
      have hbig : rm < (s.length : Int) + (u : Int) := by omega
      have e1 : doS ⟨rm, dd, lf, false, X⟩ 0 k s n = ⟨rm, dd, lf, false, X⟩ := by unfold doS dedS; rw [hw0]; rfl
      have e2 : doR ⟨rm, dd, lf, false, X⟩ 0 k s n = 5 := by unfold doR dedR; rw [hw0]; rfl
      have E1 := Lib.hid e1
      have E2 := Lib.hid e2
      clear e1 e2 hw0 hbg
      go_upto_region 11 with fail
      refine wp_region_puts (fun t v w => VK (match t with
        | 50 => .eq (.int .i64 0)
        | 51 => .eq (Value.bool true)
        | 52 => .eq (Value.bool true)
        | 53 => .eq (.string ⟨s.toArray⟩)
        | 54 => .eq (.int .i64 (s.length : Int))
        | 55 => .eq (.agg #[.slice (some ⟨bb, oo, none⟩) X.length c, .int .i64 rm, .int .i64 dd, .int .i64 lf, .bool false])
        | 56 => .eq (.int .i64 (u : Int))
        | 57 => .eq (.int .i64 ((s.length : Int) + (u : Int)))
        | 58 => .eq (pp)
        | 59 => .eq (.int .i64 rm)
        | 60 => .eq (Value.bool true)
        | 61 => .eq (Value.bool true)
        | _ => .any) v w) (fun w' => Below W3.heap.size W3 w') 142 (by kernel_rfl) (by decide +kernel) rfl (Below.refl _ _).drew (by
        refine OweAll.cons (owesK rfl rfl fun a w1 ha hG hV => ?_) ?_
        · skip
          have h1 := ha.outer 1 (by decide +kernel)
          simp only [Act.eval] at h1
          exact ⟨.int .i64 0, w1, wanted_free rfl, by simp [execOp, go_sem, h1], Below.refl _ _, rfl⟩
        refine OweAll.cons (owesK rfl rfl fun a w1 ha hG hV => ?_) ?_
        · skip
          have h50 : a.tmps.getD 50 undef = .int .i64 0 := hV.get 50 (by decide +kernel)
          exact ⟨Value.bool true, w1, wanted_free rfl, by simp [execOp, go_sem, h50], Below.refl _ _, rfl⟩
        refine OweAll.cons (owesK rfl rfl fun a w1 ha hG hV => ?_) ?_
        · skip
          have h51 : a.tmps.getD 51 undef = Value.bool true := hV.get 51 (by decide +kernel)
          exact ⟨Value.bool true, w1, wanted_free rfl, by simp [execOp, go_sem, h51], Below.refl _ _, rfl⟩
        refine OweAll.cons (owesK rfl rfl fun a w1 ha hG hV => ?_) ?_
        · skip
          have h3 := ha.outer 3 (by decide +kernel)
          simp only [Act.eval] at h3
          exact ⟨.string ⟨s.toArray⟩, w1, (wanted_of (t := 52) rfl rfl (hV.get 52 (by decide +kernel))), by simp [execOp, go_sem, h3], Below.refl _ _, rfl⟩
        refine OweAll.cons (owesK rfl rfl fun a w1 ha hG hV => ?_) ?_
        · skip
          have h53 : a.tmps.getD 53 undef = .string ⟨s.toArray⟩ := hV.get 53 (by decide +kernel)
          exact ⟨.int .i64 (s.length : Int), w1, (wanted_of (t := 52) rfl rfl (hV.get 52 (by decide +kernel))), by simp [execOp, go_sem, h53], Below.refl _ _, rfl⟩
        refine OweAll.cons (owesK rfl rfl fun a w1 ha hG hV => ?_) ?_
        · skip
          have h5 := ha.outer 5 (by decide +kernel)
          simp only [Act.eval] at h5
          have hh : w1.heap[w.heap.size]? = some (.cells #[.slice (some ⟨bb, oo, none⟩) X.length c, .int .i64 rm, .int .i64 dd, .int .i64 lf, .bool false] 28 (0, 0)) := (HDW.out.old hG).c
          exact ⟨.agg #[.slice (some ⟨bb, oo, none⟩) X.length c, .int .i64 rm, .int .i64 dd, .int .i64 lf, .bool false], w1, (wanted_of (t := 52) rfl rfl (hV.get 52 (by decide +kernel))), exec_load_row 28 (.tmp 5) rfl w.heap.size h5 28 #[.slice (some ⟨bb, oo, none⟩) X.length c, .int .i64 rm, .int .i64 dd, .int .i64 lf, .bool false] (0, 0) _ hh Try.underlying28 rfl HJ.out, Below.refl _ _, rfl⟩
        refine OweAll.cons (owesK_call rfl rfl 33 fun a w1 ha hG hV => ?_) ?_
        · skip
          have h55 : a.tmps.getD 55 undef = .agg #[.slice (some ⟨bb, oo, none⟩) X.length c, .int .i64 rm, .int .i64 dd, .int .i64 lf, .bool false] := hV.get 55 (by decide +kernel)
          refine ⟨#[.agg #[.slice (some ⟨bb, oo, none⟩) X.length c, .int .i64 rm, .int .i64 dd, .int .i64 lf, .bool false]], (wanted_of (t := 52) rfl rfl (hV.get 52 (by decide +kernel))), by simp [execOp, resolve, invoke, go_sem, h55], ?_⟩
          refine (HUS.out w1 (HDW.out.old hG).b).mono ?_
          rintro r' u2 ⟨rfl, hb2⟩; exact ⟨_, rfl, rfl, hb2⟩
        refine OweAll.cons (owesK rfl rfl fun a w1 ha hG hV => ?_) ?_
        · skip
          have h54 : a.tmps.getD 54 undef = .int .i64 (s.length : Int) := hV.get 54 (by decide +kernel)
          have h56 : a.tmps.getD 56 undef = .int .i64 (u : Int) := hV.get 56 (by decide +kernel)
          exact ⟨.int .i64 ((s.length : Int) + (u : Int)), w1, (wanted_of (t := 52) rfl rfl (hV.get 52 (by decide +kernel))), by simp [execOp, go_sem, h54, h56, hwa], Below.refl _ _, rfl⟩
        refine OweAll.cons (owesK rfl rfl fun a w1 ha hG hV => ?_) ?_
        · skip
          have h5 := ha.outer 5 (by decide +kernel)
          simp only [Act.eval] at h5
          exact ⟨pp, w1, (wanted_of (t := 52) rfl rfl (hV.get 52 (by decide +kernel))), by simp [execOp, go_sem, h5, hpp], Below.refl _ _, rfl⟩
        refine OweAll.cons (owesK rfl rfl fun a w1 ha hG hV => ?_) ?_
        · skip
          have h58 : a.tmps.getD 58 undef = pp := hV.get 58 (by decide +kernel)
          have cc := ((HDW.out.old hG).cell0 1 _ rfl).1
          exact ⟨.int .i64 rm, w1, (wanted_of (t := 52) rfl rfl (hV.get 52 (by decide +kernel))), by simp [execOp, go_sem, h58, cc, hpp], Below.refl _ _, rfl⟩
        refine OweAll.cons (owesK rfl rfl fun a w1 ha hG hV => ?_) ?_
        · skip
          have h57 : a.tmps.getD 57 undef = .int .i64 ((s.length : Int) + (u : Int)) := hV.get 57 (by decide +kernel)
          have h59 : a.tmps.getD 59 undef = .int .i64 rm := hV.get 59 (by decide +kernel)
          exact ⟨Value.bool true, w1, (wanted_of (t := 52) rfl rfl (hV.get 52 (by decide +kernel))), by simp [execOp, go_sem, h57, h59, hbig], Below.refl _ _, rfl⟩
        refine OweAll.cons (owesK rfl rfl fun a w1 ha hG hV => ?_) ?_
        · skip
          have h52 : a.tmps.getD 52 undef = Value.bool true := hV.get 52 (by decide +kernel)
          have h60 : a.tmps.getD 60 undef = Value.bool true := hV.get 60 (by decide +kernel)
          exact ⟨Value.bool true, w1, wanted_free rfl, by simp [execOp, go_sem, h52, h60], Below.refl _ _, rfl⟩
        exact OweAll.nil
        ) ?_
      intro f wz hG hv
      have e61 : f 61 = Value.bool true := hv 11 _ 61 rfl rfl
      refine moves_back (P := Try.prog) (ops := #[]) f _ _ _ ?_
      simp only [dsts, List.filterMap_cons, List.filterMap_nil, List.map_cons, List.map_nil]
      rw [e61]
      clear hv
      unfold mv
      clear e61
      have HDW0 := Lib.hid (HDW.out.old hG)
      clear hG HDW HUS
      have HDW := HDW0
      have hc := HDW.out.c
      have hz := HDW.out.z
      have hvr : ∀ v ∈ (#[.slice (some ⟨bb, oo, none⟩) X.length c, .int .i64 rm, .int .i64 dd, .int .i64 lf, .bool false] : Array Value).toList, v.oneCell' = true := by intro v hv; simp at hv; rcases hv with rfl | rfl | rfl | rfl | rfl <;> rfl
      go_wp2_with (first
        | (refine wpList_load_row rfl 28 (.tmp 5) rfl w.heap.size rfl 28 #[.slice (some ⟨bb, oo, none⟩) X.length c, .int .i64 rm, .int .i64 dd, .int .i64 lf, .bool false] (0, 0) _ hc Try.underlying28 rfl HJ2 ?_)
        | (refine wpList_store_row rfl rfl 28 (.tmp 10) (.tmp 62) rfl (w.heap.size + 1) rfl 28 #[.slice none 0 0, .int .i64 0, .int .i64 0, .int .i64 0, .bool false] #[.slice (some ⟨bb, oo, none⟩) X.length c, .int .i64 rm, .int .i64 dd, .int .i64 lf, .bool false] rfl hz rfl HJ2 hvr ?_))
      obtain ⟨hf1, hf2, hf3⟩ := HDW.out.fin
      rw [E1.out, E2.out]
      exact bodyPost_ret (results_cell_slot Try.results20 _ _ (w.heap.size + 1) 28 #[.slice (some ⟨bb, oo, none⟩) X.length c, .int .i64 rm, .int .i64 dd, .int .i64 lf, .bool false] (0, 0) _ (.int .i64 5) rfl rfl hf1 Try.underlying28 rfl HJ2) rfl ⟨_, _, rfl, HR.out.old hf2, .inl ⟨rfl, rfl⟩, hf2⟩
    · rw [if_neg hbg] at hw0
      have HW0 := Lib.hid hw0
      have hbig : (s.length : Int) + (u : Int) ≤ rm := by omega
      clear hw0 hbg
      go_upto_region 11 with fail
      refine wp_region_puts (fun t v w => VK (match t with
        | 50 => .eq (.int .i64 0)
        | 51 => .eq (Value.bool true)
        | 52 => .eq (Value.bool true)
        | 53 => .eq (.string ⟨s.toArray⟩)
        | 54 => .eq (.int .i64 (s.length : Int))
        | 55 => .eq (.agg #[.slice (some ⟨bb, oo, none⟩) X.length c, .int .i64 rm, .int .i64 dd, .int .i64 lf, .bool false])
        | 56 => .eq (.int .i64 (u : Int))
        | 57 => .eq (.int .i64 ((s.length : Int) + (u : Int)))
        | 58 => .eq (pp)
        | 59 => .eq (.int .i64 rm)
        | 60 => .eq (Value.bool false)
        | 61 => .eq (Value.bool false)
        | _ => .any) v w) (fun w' => Below W3.heap.size W3 w') 142 (by kernel_rfl) (by decide +kernel) rfl (Below.refl _ _).drew (by
        refine OweAll.cons (owesK rfl rfl fun a w1 ha hG hV => ?_) ?_
        · skip
          have h1 := ha.outer 1 (by decide +kernel)
          simp only [Act.eval] at h1
          exact ⟨.int .i64 0, w1, wanted_free rfl, by simp [execOp, go_sem, h1], Below.refl _ _, rfl⟩
        refine OweAll.cons (owesK rfl rfl fun a w1 ha hG hV => ?_) ?_
        · skip
          have h50 : a.tmps.getD 50 undef = .int .i64 0 := hV.get 50 (by decide +kernel)
          exact ⟨Value.bool true, w1, wanted_free rfl, by simp [execOp, go_sem, h50], Below.refl _ _, rfl⟩
        refine OweAll.cons (owesK rfl rfl fun a w1 ha hG hV => ?_) ?_
        · skip
          have h51 : a.tmps.getD 51 undef = Value.bool true := hV.get 51 (by decide +kernel)
          exact ⟨Value.bool true, w1, wanted_free rfl, by simp [execOp, go_sem, h51], Below.refl _ _, rfl⟩
        refine OweAll.cons (owesK rfl rfl fun a w1 ha hG hV => ?_) ?_
        · skip
          have h3 := ha.outer 3 (by decide +kernel)
          simp only [Act.eval] at h3
          exact ⟨.string ⟨s.toArray⟩, w1, (wanted_of (t := 52) rfl rfl (hV.get 52 (by decide +kernel))), by simp [execOp, go_sem, h3], Below.refl _ _, rfl⟩
        refine OweAll.cons (owesK rfl rfl fun a w1 ha hG hV => ?_) ?_
        · skip
          have h53 : a.tmps.getD 53 undef = .string ⟨s.toArray⟩ := hV.get 53 (by decide +kernel)
          exact ⟨.int .i64 (s.length : Int), w1, (wanted_of (t := 52) rfl rfl (hV.get 52 (by decide +kernel))), by simp [execOp, go_sem, h53], Below.refl _ _, rfl⟩
        refine OweAll.cons (owesK rfl rfl fun a w1 ha hG hV => ?_) ?_
        · skip
          have h5 := ha.outer 5 (by decide +kernel)
          simp only [Act.eval] at h5
          have hh : w1.heap[w.heap.size]? = some (.cells #[.slice (some ⟨bb, oo, none⟩) X.length c, .int .i64 rm, .int .i64 dd, .int .i64 lf, .bool false] 28 (0, 0)) := (HDW.out.old hG).c
          exact ⟨.agg #[.slice (some ⟨bb, oo, none⟩) X.length c, .int .i64 rm, .int .i64 dd, .int .i64 lf, .bool false], w1, (wanted_of (t := 52) rfl rfl (hV.get 52 (by decide +kernel))), exec_load_row 28 (.tmp 5) rfl w.heap.size h5 28 #[.slice (some ⟨bb, oo, none⟩) X.length c, .int .i64 rm, .int .i64 dd, .int .i64 lf, .bool false] (0, 0) _ hh Try.underlying28 rfl HJ.out, Below.refl _ _, rfl⟩
        refine OweAll.cons (owesK_call rfl rfl 33 fun a w1 ha hG hV => ?_) ?_
        · skip
          have h55 : a.tmps.getD 55 undef = .agg #[.slice (some ⟨bb, oo, none⟩) X.length c, .int .i64 rm, .int .i64 dd, .int .i64 lf, .bool false] := hV.get 55 (by decide +kernel)
          refine ⟨#[.agg #[.slice (some ⟨bb, oo, none⟩) X.length c, .int .i64 rm, .int .i64 dd, .int .i64 lf, .bool false]], (wanted_of (t := 52) rfl rfl (hV.get 52 (by decide +kernel))), by simp [execOp, resolve, invoke, go_sem, h55], ?_⟩
          refine (HUS.out w1 (HDW.out.old hG).b).mono ?_
          rintro r' u2 ⟨rfl, hb2⟩; exact ⟨_, rfl, rfl, hb2⟩
        refine OweAll.cons (owesK rfl rfl fun a w1 ha hG hV => ?_) ?_
        · skip
          have h54 : a.tmps.getD 54 undef = .int .i64 (s.length : Int) := hV.get 54 (by decide +kernel)
          have h56 : a.tmps.getD 56 undef = .int .i64 (u : Int) := hV.get 56 (by decide +kernel)
          exact ⟨.int .i64 ((s.length : Int) + (u : Int)), w1, (wanted_of (t := 52) rfl rfl (hV.get 52 (by decide +kernel))), by simp [execOp, go_sem, h54, h56, hwa], Below.refl _ _, rfl⟩
        refine OweAll.cons (owesK rfl rfl fun a w1 ha hG hV => ?_) ?_
        · skip
          have h5 := ha.outer 5 (by decide +kernel)
          simp only [Act.eval] at h5
          exact ⟨pp, w1, (wanted_of (t := 52) rfl rfl (hV.get 52 (by decide +kernel))), by simp [execOp, go_sem, h5, hpp], Below.refl _ _, rfl⟩
        refine OweAll.cons (owesK rfl rfl fun a w1 ha hG hV => ?_) ?_
        · skip
          have h58 : a.tmps.getD 58 undef = pp := hV.get 58 (by decide +kernel)
          have cc := ((HDW.out.old hG).cell0 1 _ rfl).1
          exact ⟨.int .i64 rm, w1, (wanted_of (t := 52) rfl rfl (hV.get 52 (by decide +kernel))), by simp [execOp, go_sem, h58, cc, hpp], Below.refl _ _, rfl⟩
        refine OweAll.cons (owesK rfl rfl fun a w1 ha hG hV => ?_) ?_
        · skip
          have h57 : a.tmps.getD 57 undef = .int .i64 ((s.length : Int) + (u : Int)) := hV.get 57 (by decide +kernel)
          have h59 : a.tmps.getD 59 undef = .int .i64 rm := hV.get 59 (by decide +kernel)
          exact ⟨Value.bool false, w1, (wanted_of (t := 52) rfl rfl (hV.get 52 (by decide +kernel))), by simp [execOp, go_sem, h57, h59, hbig], Below.refl _ _, rfl⟩
        refine OweAll.cons (owesK rfl rfl fun a w1 ha hG hV => ?_) ?_
        · skip
          have h52 : a.tmps.getD 52 undef = Value.bool true := hV.get 52 (by decide +kernel)
          have h60 : a.tmps.getD 60 undef = Value.bool false := hV.get 60 (by decide +kernel)
          exact ⟨Value.bool false, w1, wanted_free rfl, by simp [execOp, go_sem, h52, h60], Below.refl _ _, rfl⟩
        exact OweAll.nil
        ) ?_
      intro f wz hG hv
      have e61 : f 61 = Value.bool false := hv 11 _ 61 rfl rfl
      refine moves_back (P := Try.prog) (ops := #[]) f _ _ _ ?_
      simp only [dsts, List.filterMap_cons, List.filterMap_nil, List.map_cons, List.map_nil]
      rw [e61]
      clear hv
      unfold mv
      clear e61
      have HDW0 := Lib.hid (HDW.out.old hG)
      clear hG HDW HUS
      have HDW := HDW0
      clear HDW0
      go_upto_region 13 with fail
      by_cases hl : lf = 0
      · subst hl
        have e1 : doS ⟨rm, dd, 0, false, X⟩ 0 k s n = ⟨rm, dd, 0, true, X⟩ := by
          unfold doS dedS; rw [HW0.out]; simp [lfX, XK, apX, HFF.out]
        have e2 : doR ⟨rm, dd, 0, false, X⟩ 0 k s n = 6 := by
          unfold doR dedR; rw [HW0.out]; simp
        have E1 := Lib.hid e1
        have E2 := Lib.hid e2
        clear e1 e2 HW0
        obtain ⟨qa, qb⟩ := HDW.out.cell0 3 _ rfl
        obtain ⟨qc, qd⟩ := HDW.out.cell0 4 _ rfl
        go_upto_region 15 with fail
        have HDW' : Hid (DW w (wz.setCell ⟨w.heap.size, 4, none⟩ (.bool true)) #[.slice (some ⟨bb, oo, none⟩) X.length c, .int .i64 rm, .int .i64 dd, .int .i64 0, .bool true] #[.string ⟨k.toArray⟩, .string ⟨fb.toArray⟩, .int .i64 (fs : Int)] gf) := Lib.hid (HDW.out.set0 4 (.bool true))
        clear qa qb qc qd
        obtain ⟨wH, hren⟩ : ∃ W, W = wz.setCell ⟨w.heap.size, 4, none⟩ (.bool true) := ⟨_, rfl⟩
        rw [← hren] at HDW'  ⊢
        clear hren HDW
        have HDW := HDW'
        clear HDW'
        have hc := HDW.out.c
        have hz := HDW.out.z
        have hvr : ∀ v ∈ (#[.slice (some ⟨bb, oo, none⟩) X.length c, .int .i64 rm, .int .i64 dd, .int .i64 0, .bool true] : Array Value).toList, v.oneCell' = true := by intro v hv; simp at hv; rcases hv with rfl | rfl | rfl | rfl | rfl <;> rfl
        go_wp2_with (first
          | (refine wpList_load_row rfl 28 (.tmp 5) rfl w.heap.size rfl 28 #[.slice (some ⟨bb, oo, none⟩) X.length c, .int .i64 rm, .int .i64 dd, .int .i64 0, .bool true] (0, 0) _ hc Try.underlying28 rfl HJ2 ?_)
          | (refine wpList_store_row rfl rfl 28 (.tmp 10) (.tmp 67) rfl (w.heap.size + 1) rfl 28 #[.slice none 0 0, .int .i64 0, .int .i64 0, .int .i64 0, .bool false] #[.slice (some ⟨bb, oo, none⟩) X.length c, .int .i64 rm, .int .i64 dd, .int .i64 0, .bool true] rfl hz rfl HJ2 hvr ?_))
        obtain ⟨hf1, hf2, hf3⟩ := HDW.out.fin
        rw [E1.out, E2.out]
        exact bodyPost_ret (results_cell_slot Try.results20 _ _ (w.heap.size + 1) 28 #[.slice (some ⟨bb, oo, none⟩) X.length c, .int .i64 rm, .int .i64 dd, .int .i64 0, .bool true] (0, 0) _ (.int .i64 6) rfl rfl hf1 Try.underlying28 rfl HJ2) rfl ⟨_, _, rfl, HR.out.old hf2, .inl ⟨rfl, rfl⟩, hf2⟩
      · have l0 : (lf == 0) = false := by simpa using hl
        by_cases hm : lf = -1
        · skip
          subst hm
          have hwd : IntKind.i64.wrap (dd + 1) = dd + 1 := by have h1 := HOK.out.d0; have h2 := HOK.out.d1; simp only at h1 h2; rw [IntKind.wrap_i64]; omega
          have e1 : doS ⟨rm, dd, (-1), false, X⟩ 0 k s n = ⟨rm, dd + 1, (-1), false, withX (k, fb ++ s, fs) X⟩ := by
            unfold doS dedS; rw [HW0.out]; simp [lfX, XK, apX, HFF.out]
          have e2 : doR ⟨rm, dd, (-1), false, X⟩ 0 k s n = 0 := by
            unfold doR dedR; rw [HW0.out]; simp
          have E1 := Lib.hid e1
          have E2 := Lib.hid e2
          clear e1 e2 HW0
          obtain ⟨qa, qb⟩ := HDW.out.cell0 3 _ rfl
          obtain ⟨qc, qd⟩ := HDW.out.cell0 2 _ rfl
          go_upto_region 20 with fail
          have HDW' : Hid (DW w (wz.setCell ⟨w.heap.size, 2, none⟩ (.int .i64 (dd + 1))) #[.slice (some ⟨bb, oo, none⟩) X.length c, .int .i64 rm, .int .i64 (dd + 1), .int .i64 (-1), .bool false] #[.string ⟨k.toArray⟩, .string ⟨fb.toArray⟩, .int .i64 (fs : Int)] gf) := Lib.hid (HDW.out.set0 2 (.int .i64 (dd + 1)))
          clear qa qb qc qd
          obtain ⟨wS, hren⟩ : ∃ W, W = wz.setCell ⟨w.heap.size, 2, none⟩ (.int .i64 (dd + 1)) := ⟨_, rfl⟩
          rw [← hren] at HDW'  ⊢
          clear hren HDW
          have HDW := HDW'
          clear HDW'
          have hcat : fb.length + s.length ≤ 4000000000 := by have := HLB.out; omega
          obtain ⟨qa, qb⟩ := HDW.out.cellF 1 _ rfl
          go_upto_region 22 with fail
          rw [bcat fb s]
          have HDW' : Hid (DW w (wS.setCell ⟨gf, 1, none⟩ (.string ⟨(fb ++ s).toArray⟩)) #[.slice (some ⟨bb, oo, none⟩) X.length c, .int .i64 rm, .int .i64 (dd + 1), .int .i64 (-1), .bool false] #[.string ⟨k.toArray⟩, .string ⟨(fb ++ s).toArray⟩, .int .i64 (fs : Int)] gf) := Lib.hid (HDW.out.setF 1 (.string ⟨(fb ++ s).toArray⟩))
          clear qa qb
          obtain ⟨wF, hren⟩ : ∃ W, W = wS.setCell ⟨gf, 1, none⟩ (.string ⟨(fb ++ s).toArray⟩) := ⟨_, rfl⟩
          rw [← hren] at HDW'  ⊢
          clear hren HDW
          have HDW := HDW'
          clear HDW'
          have qc := (HDW.out.cell0 0 _ rfl).1
          have qr := HDW.out.f
          have HCL := Lib.hid (rkwith_any X _ c k (fb ++ s) fs (HR.out.old HDW.out.b) HXL.out)
          go_wp2_with (refine wpList_load_row rfl 64 (.tmp 13) rfl gf rfl 64 #[.string ⟨k.toArray⟩, .string ⟨(fb ++ s).toArray⟩, .int .i64 (fs : Int)] (0, 0) _ qr Try.underlying64 rfl HI2 ?_)
          refine HCL.out.mono ?_
          rintro e wcq ⟨qq, cq, rfl, hq, hn, hb⟩
          have HQ0 := Lib.hid (QK.of HDW.out hq hn)
          have HDW0 := Lib.hid (HDW.out.old hb)
          clear qc hq hn hb HCL HDW qr
          have HDW := HDW0
          clear HDW0
          obtain ⟨qa, qb⟩ := HDW.out.cell0 0 _ rfl
          go_upto_region 36 with fail
          have HDW' : Hid (DW w (wcq.setCell ⟨w.heap.size, 0, none⟩ (.slice qq (withX (k, (fb ++ s), fs) X).length cq)) #[.slice qq (withX (k, (fb ++ s), fs) X).length cq, .int .i64 rm, .int .i64 (dd + 1), .int .i64 (-1), .bool false] #[.string ⟨k.toArray⟩, .string ⟨(fb ++ s).toArray⟩, .int .i64 (fs : Int)] gf) := Lib.hid (HDW.out.set0 0 (.slice qq (withX (k, (fb ++ s), fs) X).length cq))
          have HQ := Lib.hid (HQ0.out.set0 0 (.slice qq (withX (k, (fb ++ s), fs) X).length cq))
          clear qa qb HQ0
          obtain ⟨wN, hren⟩ : ∃ W, W = wcq.setCell ⟨w.heap.size, 0, none⟩ (.slice qq (withX (k, (fb ++ s), fs) X).length cq) := ⟨_, rfl⟩
          rw [← hren] at HDW' HQ ⊢
          clear hren HDW
          have HDW := HDW'
          clear HDW'
          have hc := HDW.out.c
          have hz := HDW.out.z
          have hvr : ∀ v ∈ (#[.slice qq (withX (k, (fb ++ s), fs) X).length cq, .int .i64 rm, .int .i64 (dd + 1), .int .i64 (-1), .bool false] : Array Value).toList, v.oneCell' = true := by intro v hv; simp at hv; rcases hv with rfl | rfl | rfl | rfl | rfl <;> rfl
          go_wp2_with (first
            | (refine wpList_load_row rfl 28 (.tmp 5) rfl w.heap.size rfl 28 #[.slice qq (withX (k, (fb ++ s), fs) X).length cq, .int .i64 rm, .int .i64 (dd + 1), .int .i64 (-1), .bool false] (0, 0) _ hc Try.underlying28 rfl HJ2 ?_)
            | (refine wpList_store_row rfl rfl 28 (.tmp 10) (.tmp 141) rfl (w.heap.size + 1) rfl 28 #[.slice none 0 0, .int .i64 0, .int .i64 0, .int .i64 0, .bool false] #[.slice qq (withX (k, (fb ++ s), fs) X).length cq, .int .i64 rm, .int .i64 (dd + 1), .int .i64 (-1), .bool false] rfl hz rfl HJ2 hvr ?_))
          obtain ⟨hf1, hf2, hf3⟩ := HDW.out.fin
          rw [E1.out, E2.out]
          exact bodyPost_ret (results_cell_slot Try.results20 _ _ (w.heap.size + 1) 28 #[.slice qq (withX (k, (fb ++ s), fs) X).length cq, .int .i64 rm, .int .i64 (dd + 1), .int .i64 (-1), .bool false] (0, 0) _ (.int .i64 0) rfl rfl hf1 Try.underlying28 rfl HJ2) rfl ⟨_, _, rfl, HQ.out.fin _, .inr (fun a e => by have := (HQ.out.2 a e).1; omega), hf2⟩
        · skip
          have hpos : (0 : Int) < lf := by have := HOK.out.l0; simp only at this; omega
          have l1 : decide ((0 : Int) < lf) = true := by simpa using hpos
          have hwl : IntKind.i64.wrap (lf - 1) = lf - 1 := by have := HOK.out.l1; simp only at this; rw [IntKind.wrap_i64]; omega
          have hwd : IntKind.i64.wrap (dd + 1) = dd + 1 := by have h1 := HOK.out.d0; have h2 := HOK.out.d1; simp only at h1 h2; rw [IntKind.wrap_i64]; omega
          have e1 : doS ⟨rm, dd, lf, false, X⟩ 0 k s n = ⟨rm, dd + 1, (lf - 1), false, withX (k, fb ++ s, fs) X⟩ := by
            unfold doS dedS; rw [HW0.out]; simp [lfX, XK, apX, HFF.out, hm, hl]
          have e2 : doR ⟨rm, dd, lf, false, X⟩ 0 k s n = 0 := by
            unfold doR dedR; rw [HW0.out]; simp [hl]
          have E1 := Lib.hid e1
          have E2 := Lib.hid e2
          clear e1 e2 HW0
          clear hm hl
          obtain ⟨qa, qb⟩ := HDW.out.cell0 3 _ rfl
          go_upto_region 18 with fail
          have HDW' : Hid (DW w (wz.setCell ⟨w.heap.size, 3, none⟩ (.int .i64 (lf - 1))) #[.slice (some ⟨bb, oo, none⟩) X.length c, .int .i64 rm, .int .i64 dd, .int .i64 (lf - 1), .bool false] #[.string ⟨k.toArray⟩, .string ⟨fb.toArray⟩, .int .i64 (fs : Int)] gf) := Lib.hid (HDW.out.set0 3 (.int .i64 (lf - 1)))
          clear qa qb
          obtain ⟨wG, hren⟩ : ∃ W, W = wz.setCell ⟨w.heap.size, 3, none⟩ (.int .i64 (lf - 1)) := ⟨_, rfl⟩
          rw [← hren] at HDW'  ⊢
          clear hren HDW
          have HDW := HDW'
          clear HDW'
          obtain ⟨qa, qb⟩ := HDW.out.cell0 3 _ rfl
          obtain ⟨qc, qd⟩ := HDW.out.cell0 2 _ rfl
          go_upto_region 20 with fail
          have HDW' : Hid (DW w (wG.setCell ⟨w.heap.size, 2, none⟩ (.int .i64 (dd + 1))) #[.slice (some ⟨bb, oo, none⟩) X.length c, .int .i64 rm, .int .i64 (dd + 1), .int .i64 (lf - 1), .bool false] #[.string ⟨k.toArray⟩, .string ⟨fb.toArray⟩, .int .i64 (fs : Int)] gf) := Lib.hid (HDW.out.set0 2 (.int .i64 (dd + 1)))
          clear qa qb qc qd
          obtain ⟨wS, hren⟩ : ∃ W, W = wG.setCell ⟨w.heap.size, 2, none⟩ (.int .i64 (dd + 1)) := ⟨_, rfl⟩
          rw [← hren] at HDW'  ⊢
          clear hren HDW
          have HDW := HDW'
          clear HDW'
          have hcat : fb.length + s.length ≤ 4000000000 := by have := HLB.out; omega
          obtain ⟨qa, qb⟩ := HDW.out.cellF 1 _ rfl
          go_upto_region 22 with fail
          rw [bcat fb s]
          have HDW' : Hid (DW w (wS.setCell ⟨gf, 1, none⟩ (.string ⟨(fb ++ s).toArray⟩)) #[.slice (some ⟨bb, oo, none⟩) X.length c, .int .i64 rm, .int .i64 (dd + 1), .int .i64 (lf - 1), .bool false] #[.string ⟨k.toArray⟩, .string ⟨(fb ++ s).toArray⟩, .int .i64 (fs : Int)] gf) := Lib.hid (HDW.out.setF 1 (.string ⟨(fb ++ s).toArray⟩))
          clear qa qb
          obtain ⟨wF, hren⟩ : ∃ W, W = wS.setCell ⟨gf, 1, none⟩ (.string ⟨(fb ++ s).toArray⟩) := ⟨_, rfl⟩
          rw [← hren] at HDW'  ⊢
          clear hren HDW
          have HDW := HDW'
          clear HDW'
          have qc := (HDW.out.cell0 0 _ rfl).1
          have qr := HDW.out.f
          have HCL := Lib.hid (rkwith_any X _ c k (fb ++ s) fs (HR.out.old HDW.out.b) HXL.out)
          go_wp2_with (refine wpList_load_row rfl 64 (.tmp 13) rfl gf rfl 64 #[.string ⟨k.toArray⟩, .string ⟨(fb ++ s).toArray⟩, .int .i64 (fs : Int)] (0, 0) _ qr Try.underlying64 rfl HI2 ?_)
          refine HCL.out.mono ?_
          rintro e wcq ⟨qq, cq, rfl, hq, hn, hb⟩
          have HQ0 := Lib.hid (QK.of HDW.out hq hn)
          have HDW0 := Lib.hid (HDW.out.old hb)
          clear qc hq hn hb HCL HDW qr
          have HDW := HDW0
          clear HDW0
          obtain ⟨qa, qb⟩ := HDW.out.cell0 0 _ rfl
          go_upto_region 36 with fail
          have HDW' : Hid (DW w (wcq.setCell ⟨w.heap.size, 0, none⟩ (.slice qq (withX (k, (fb ++ s), fs) X).length cq)) #[.slice qq (withX (k, (fb ++ s), fs) X).length cq, .int .i64 rm, .int .i64 (dd + 1), .int .i64 (lf - 1), .bool false] #[.string ⟨k.toArray⟩, .string ⟨(fb ++ s).toArray⟩, .int .i64 (fs : Int)] gf) := Lib.hid (HDW.out.set0 0 (.slice qq (withX (k, (fb ++ s), fs) X).length cq))
          have HQ := Lib.hid (HQ0.out.set0 0 (.slice qq (withX (k, (fb ++ s), fs) X).length cq))
          clear qa qb HQ0
          obtain ⟨wN, hren⟩ : ∃ W, W = wcq.setCell ⟨w.heap.size, 0, none⟩ (.slice qq (withX (k, (fb ++ s), fs) X).length cq) := ⟨_, rfl⟩
          rw [← hren] at HDW' HQ ⊢
          clear hren HDW
          have HDW := HDW'
          clear HDW'
          have hc := HDW.out.c
          have hz := HDW.out.z
          have hvr : ∀ v ∈ (#[.slice qq (withX (k, (fb ++ s), fs) X).length cq, .int .i64 rm, .int .i64 (dd + 1), .int .i64 (lf - 1), .bool false] : Array Value).toList, v.oneCell' = true := by intro v hv; simp at hv; rcases hv with rfl | rfl | rfl | rfl | rfl <;> rfl
          go_wp2_with (first
            | (refine wpList_load_row rfl 28 (.tmp 5) rfl w.heap.size rfl 28 #[.slice qq (withX (k, (fb ++ s), fs) X).length cq, .int .i64 rm, .int .i64 (dd + 1), .int .i64 (lf - 1), .bool false] (0, 0) _ hc Try.underlying28 rfl HJ2 ?_)
            | (refine wpList_store_row rfl rfl 28 (.tmp 10) (.tmp 141) rfl (w.heap.size + 1) rfl 28 #[.slice none 0 0, .int .i64 0, .int .i64 0, .int .i64 0, .bool false] #[.slice qq (withX (k, (fb ++ s), fs) X).length cq, .int .i64 rm, .int .i64 (dd + 1), .int .i64 (lf - 1), .bool false] rfl hz rfl HJ2 hvr ?_))
          obtain ⟨hf1, hf2, hf3⟩ := HDW.out.fin
          rw [E1.out, E2.out]
          exact bodyPost_ret (results_cell_slot Try.results20 _ _ (w.heap.size + 1) 28 #[.slice qq (withX (k, (fb ++ s), fs) X).length cq, .int .i64 rm, .int .i64 (dd + 1), .int .i64 (lf - 1), .bool false] (0, 0) _ (.int .i64 0) rfl rfl hf1 Try.underlying28 rfl HJ2) rfl ⟨_, _, rfl, HQ.out.fin _, .inr (fun a e => by have := (HQ.out.2 a e).1; omega), hf2⟩
end Go.Proofs.Ytpbcglepecojmaa

namespace Go.Proofs.Ytpbcglepecojmaa
open Go.RowKit

/-- Crash's boxes: the answer's, what is gathered. -/
structure OW (w wr : World) (rm dd : Int) (q : Option Addr) (cq : Nat) (D : List FX) : Prop where
  z : wr.heap[w.heap.size + 1]? = some (.cells #[.slice none 0 0, .int .i64 0, .int .i64 0, .int .i64 0, .bool false] 28 (0, 0))
  o : wr.heap[w.heap.size + 2]? = some (.cells #[.slice q D.length cq, .int .i64 rm, .int .i64 dd, .int .i64 (-1), .bool false] 28 (0, 0))
  acc : Rw encF 64 wr q cq D
  new : ∀ a, q = some a → w.heap.size + 2 < a.block
  b : Below w.heap.size w wr
section
variable {w wr w' : World} {rm dd : Int} {q : Option Addr} {cq : Nat} {D : List FX}
theorem OW.old (h : OW w wr rm dd q cq D) (hb : Below wr.heap.size wr w') : OW w w' rm dd q cq D :=
  ⟨(hb.block _ (Array.getElem?_eq_some_iff.1 h.z).1).trans h.z, (hb.block _ (Array.getElem?_eq_some_iff.1 h.o).1).trans h.o, h.acc.old hb, h.new, h.b.trans (hb.mono h.b.size)⟩
theorem OW.push (h : OW w wr rm dd q cq D) {y : FX} {q2 : Option Addr} {c2 : Nat} (hP : PushR encF 64 wr q (D ++ [y]) q2 c2 w') :
    (w'.cell? ⟨w.heap.size + 2, 0, none⟩ = some (.slice q D.length cq) ∧ w'.frozen? ⟨w.heap.size + 2, 0, none⟩ = false) ∧ OW w (w'.setCell ⟨w.heap.size + 2, 0, none⟩ (.slice q2 (D ++ [y]).length c2)) rm dd q2 c2 (D ++ [y]) := by
  obtain ⟨hr, hm, ho⟩ := hP
  have hl := (Array.getElem?_eq_some_iff.1 h.o).1
  have hlz := (Array.getElem?_eq_some_iff.1 h.z).1
  have ho' : w'.heap[w.heap.size + 2]? = some (.cells #[.slice q D.length cq, .int .i64 rm, .int .i64 dd, .int .i64 (-1), .bool false] 28 (0, 0)) := (hm.block _ hl (by rintro ⟨a, e, hh⟩; have := h.new a e; omega)).trans h.o
  have hz' : w'.heap[w.heap.size + 1]? = some (.cells #[.slice none 0 0, .int .i64 0, .int .i64 0, .int .i64 0, .bool false] 28 (0, 0)) := (hm.block _ hlz (by rintro ⟨a, e, hh⟩; have := h.new a e; omega)).trans h.z
  have hms : Mod (fun i => i = w.heap.size + 2) w' (w'.setCell ⟨w.heap.size + 2, 0, none⟩ (.slice q2 (D ++ [y]).length c2)) := (Mod.refl (fun i => i = w.heap.size + 2) w').setCell (fun _ => rfl) _
  have hsz := hm.size
  have hn2 : ∀ a, q2 = some a → w.heap.size + 2 < a.block := fun a e => by
    rcases ho a e with h1 | h1
    · exact h.new a h1
    · omega
  refine ⟨⟨by rw [cell_of_row _ _ _ _ 28 (0, 0) ho']; rfl, frozen_of_row _ _ _ _ 28 ho'⟩, (hms.block _ (by omega) (by omega)).trans hz', by rw [heap_setCell_same _ _ _ _ 28 _ ho']; rfl, hr.kept hms (fun a e hn => by have := hn2 a e; omega), hn2, ?_⟩
  exact h.b.trans ((hm.to_below h.b.size (by rintro k hk ⟨a, e, hh⟩; have := h.new a e; omega)).trans (hms.to_below (by have := h.b.size; omega) (by intro k hk e; omega)))
/-- The file's box lies apart. -/
theorem OW.beside (h : OW w wr rm dd q cq D) {g : Nat} (hg : w.heap.size + 2 < g ∧ ∀ a, q = some a → a.block ≠ g) (hm : Mod (fun i => i = g) wr w') : OW w w' rm dd q cq D :=
  ⟨(hm.block _ (Array.getElem?_eq_some_iff.1 h.z).1 (by omega)).trans h.z, (hm.block _ (Array.getElem?_eq_some_iff.1 h.o).1 (by omega)).trans h.o, h.acc.kept hm (fun a e hn => hg.2 a e hn), h.new, h.b.trans (hm.to_below h.b.size (by intro k hk e; omega))⟩
theorem OW.cell (h : OW w wr rm dd q cq D) : wr.cell? ⟨w.heap.size + 2, 0, none⟩ = some (.slice q D.length cq) := by
  rw [cell_of_row _ _ _ _ 28 (0, 0) h.o]; rfl
theorem OW.fin (h : OW w wr rm dd q cq D) (cs : Array Value) : (wr.setRow (w.heap.size + 1) cs).heap[w.heap.size + 1]? = some (.cells cs 28 (0, 0)) ∧ Rd encF (wr.setRow (w.heap.size + 1) cs) q D ∧ Below w.heap.size w (wr.setRow (w.heap.size + 1) cs) := by
  have hm : Mod (fun i => i = w.heap.size + 1) wr (wr.setRow (w.heap.size + 1) cs) := ⟨rfl, rfl, rfl, by simp [World.setRow], fun k hk hn => setRow_other wr (w.heap.size + 1) k cs (fun e => hn e)⟩
  exact ⟨setRow_heap _ _ _ _ 28 (0, 0) h.z, (h.acc.kept hm (fun a e hn => by have := h.new a e; omega)).rd, h.b.trans (hm.to_below h.b.size (by intro k hk e; omega))⟩
end
theorem crX_step (ch : List Int) (X : List FX) (j : Nat) (hj : j < X.length) : crX ch (X.drop j) = if (X[j]).2.1.length - (X[j]).2.2 = 0 then X[j] :: crX ch (X.drop (j + 1)) else ((X[j]).1, (X[j]).2.1.take ((X[j]).2.2 + stN X[j] (ch.headD 0)), (X[j]).2.2 + stN X[j] (ch.headD 0)) :: crX ch.tail (X.drop (j + 1)) := by
  rw [List.drop_eq_getElem_cons hj]; rfl
set_option maxRecDepth 20000 in
set_option maxHeartbeats 8000000 in
theorem rkcrash_any {w : World} (S : St) (ok : Ok S) (hsy : ∀ x ∈ S.X, x.2.2 ≤ x.2.1.length) (ao : Option Addr) (c : Nat) (hR : Rd encF w ao S.X) (co : Option Addr) (cz : Nat) (ch : List Int) (hC : Rd encI w co ch) (hcl : (ch.length : Int) ≤ 1000000) :
    Calls Try.prog 15 #[.agg (rdC S ao c), .slice co ch.length cz] w fun e w' => ∃ q c', e = .returned (.agg (rdC { S with X := crX ch S.X, lf := -1, dn := false } q c')) ∧ Rd encF w' q (crX ch S.X) ∧ (∀ a, q = some a → w.heap.size ≤ a.block) ∧ Below w.heap.size w w' := by
  obtain ⟨rm, dd, lf, dn, X⟩ := S
  unfold rdC
  simp only at hR hsy ⊢
  have HI := Lib.hid finfo
  have HJ := Lib.hid rinfo
  have HI2 := HI.out
  have HJ2 := HJ.out
  have HR := Lib.hid hR
  have HC := Lib.hid hC
  have HSY := Lib.hid hsy
  obtain ⟨n, hnn⟩ : ∃ n, n = X.length := ⟨_, rfl⟩
  have HNN := Lib.hid hnn
  obtain ⟨nc, hnc⟩ : ∃ n, n = ch.length := ⟨_, rfl⟩
  have HNC := Lib.hid hnc
  have hn : n ≤ 1000000 := by rw [hnn]; exact Nat.le_trans ok.n (by decide)
  have HFB : Hid (∀ x ∈ X, x.2.1.length ≤ 2000000000) := Lib.hid ok.f
  have hnb : nc ≤ 1000000 := by omega
  rw [← hnn, ← hnc]
  clear hR hC hnn hnc hsy ok hcl
  obtain ⟨W0, hW0⟩ : ∃ W0, W0 = (w.alloc (.cells #[.slice ao n c, .int .i64 rm, .int .i64 dd, .int .i64 lf, .bool dn] 28)).alloc (.cells #[.slice none 0 0, .int .i64 0, .int .i64 0, .int .i64 0, .bool false] 28) := ⟨_, rfl⟩
  have e0 : W0.heap.size = w.heap.size + 2 := by rw [hW0]; simp
  have hb0 : Below w.heap.size w W0 := by rw [hW0]; exact ((Below.refl _ w).alloc (Nat.le_refl _) _).alloc (by simp) _
  have b0 : W0.heap[w.heap.size]? = some (.cells #[.slice ao n c, .int .i64 rm, .int .i64 dd, .int .i64 lf, .bool dn] 28 (0, 0)) := by rw [hW0, Below.heap_alloc _ _ _ (by simp)]; exact heap_alloc_new _ _
  have b1 : W0.heap[w.heap.size + 1]? = some (.cells #[.slice none 0 0, .int .i64 0, .int .i64 0, .int .i64 0, .bool false] 28 (0, 0)) := by rw [hW0]; have := heap_alloc_new (w.alloc (.cells #[.slice ao n c, .int .i64 rm, .int .i64 dd, .int .i64 lf, .bool dn] 28)) (.cells #[.slice none 0 0, .int .i64 0, .int .i64 0, .int .i64 0, .bool false] 28); simpa using this
  have c01 : W0.cell? ⟨w.heap.size, 1, none⟩ = some (.int .i64 rm) := by unfold World.cell?; rw [b0]; rfl
  have c02 : W0.cell? ⟨w.heap.size, 2, none⟩ = some (.int .i64 dd) := by unfold World.cell?; rw [b0]; rfl
  have hr1 : (W0.alloc (.cells #[.slice none 0 0, .int .i64 0, .int .i64 0, .int .i64 0, .bool false] 28)).heap[W0.heap.size]? = some (.cells #[.slice none 0 0, .int .i64 0, .int .i64 0, .int .i64 0, .bool false] 28 (0, 0)) := heap_alloc_new _ _
  have hV : ∀ v ∈ (#[.slice none 0 0, .int .i64 rm, .int .i64 dd, .int .i64 (-1), .bool false] : Array Value).toList, v.oneCell' = true := by intro v hv; simp at hv; rcases hv with rfl | rfl | rfl | rfl | rfl <;> rfl
  obtain ⟨W1, hW1⟩ : ∃ W1, W1 = (W0.alloc (.cells #[.slice none 0 0, .int .i64 0, .int .i64 0, .int .i64 0, .bool false] 28)).setRow W0.heap.size #[.slice none 0 0, .int .i64 rm, .int .i64 dd, .int .i64 (-1), .bool false] := ⟨_, rfl⟩
  have hb1 : Below W0.heap.size W0 W1 := by rw [hW1]; exact (((Mod.refl (fun _ => False) W0).alloc _).setRow (g := W0.heap.size) _).to_below (Nat.le_refl _) (by rintro k hk (h | h); exact h; omega)
  have HOW0 : Hid (OW w W1 rm dd none 0 []) := Lib.hid ⟨(hb1.block (w.heap.size + 1) (by omega)).trans b1, by rw [← e0, hW1]; exact setRow_heap _ _ _ _ 28 (0, 0) hr1, Rw.empty _ _, (fun a e => by cases e), hb0.trans (hb1.mono hb0.size)⟩
  have c10 : W1.cell? ⟨w.heap.size, 0, none⟩ = some (.slice ao n c) := by unfold World.cell?; rw [hb1.block w.heap.size (by omega), b0]; rfl
  have HW1 := Lib.hid hW1
  have E0 := Lib.hid e0
  clear hb0 hb1 b0 b1 hW1 e0
  go_enter Try.func15, Try.ntmps15
  go_upto_region 1 with fail
  rw [← hW0]
  clear hW0
  go_upto_region 2 with (refine wpList_store_row rfl rfl 28 (.tmp 5) (.tmp 14) rfl W0.heap.size rfl 28 _ #[.slice none 0 0, .int .i64 rm, .int .i64 dd, .int .i64 (-1), .bool false] rfl hr1 rfl HJ2 hV ?_)
  rw [← HW1.out]
  clear hr1 hV c01 c02
  rw [E0.out]
  go_wp2_with fail
  go_loopw [6, 8, 9, 18] (fun s6 _ _ s18 wr => ∃ i ai : Nat, i ≤ n ∧ ai ≤ i ∧ s18 = .int .i64 (i : Int) ∧ s6 = .int .i64 (ai : Int) ∧ Hid (∃ q cq D, OW w wr rm dd q cq D ∧ D.length = i ∧ crX ch X = D ++ crX (ch.drop ai) (X.drop i))) (fun _ _ _ s18 _ => n - (intOf s18).toNat)
  case atStart => exact ⟨0, 0, Nat.zero_le _, Nat.le_refl _, rfl, rfl, Lib.hid ⟨none, 0, [], HOW0.out, rfl, rfl⟩⟩
  case round =>
    obtain ⟨i, ai, hi, hai, rfl, rfl, hR⟩ := hrel
    obtain ⟨q, cq, D, hO, hDl, hcr⟩ := hR.out
    by_cases hend : i < n
    · obtain ⟨b, o, hae, _, c0, c1, c2⟩ := (HR.out.old hO.b).fx i (by rw [← HNN.out]; exact hend)
      have hst := crX_step (ch.drop ai) X i (by rw [← HNN.out]; exact hend)
      have hxs := HSY.out (X[i]'(by rw [← HNN.out]; exact hend)) (List.getElem_mem _)
      have hxb := HFB.out (X[i]'(by rw [← HNN.out]; exact hend)) (List.getElem_mem _)
      subst hae
      generalize X[i]'(by rw [← HNN.out]; exact hend) = x at *
      obtain ⟨xk, xs, xn⟩ := x
      simp only at *
      rw [hst] at hcr
      have HCR := Lib.hid hcr
      have HDL := Lib.hid hDl
      have HXS := Lib.hid hxs
      have HXB := Lib.hid hxb
      have HOW1 := Lib.hid hO
      clear hst hR hO hDl hcr hxs hxb c10 HOW0
      have hr1 : (wr.alloc (.cells #[.string ⟨#[]⟩, .string ⟨#[]⟩, .int .i64 0] 64)).heap[wr.heap.size]? = some (.cells #[.string ⟨#[]⟩, .string ⟨#[]⟩, .int .i64 0] 64 (0, 0)) := heap_alloc_new _ _
      have hV : ∀ v ∈ (#[.string ⟨xk.toArray⟩, .string ⟨xs.toArray⟩, .int .i64 (xn : Int)] : Array Value).toList, v.oneCell' = true := by intro v hv; simp at hv; rcases hv with rfl | rfl | rfl <;> rfl
      have HI2 := HI.out
      go_upto_region 6 with (refine wpList_store_row rfl rfl 64 (.tmp 8) (.tmp 21) rfl wr.heap.size rfl 64 _ #[.string ⟨xk.toArray⟩, .string ⟨xs.toArray⟩, .int .i64 (xn : Int)] rfl hr1 rfl HI2 hV ?_)
      obtain ⟨W3, hW3⟩ : ∃ W, W = (wr.alloc (.cells #[.string ⟨#[]⟩, .string ⟨#[]⟩, .int .i64 0] 64)).setRow wr.heap.size #[.string ⟨xk.toArray⟩, .string ⟨xs.toArray⟩, .int .i64 (xn : Int)] := ⟨_, rfl⟩
      have hb3 : Below wr.heap.size wr W3 := by rw [hW3]; exact (((Mod.refl (fun _ => False) wr).alloc _).setRow (g := wr.heap.size) _).to_below (Nat.le_refl _) (by rintro k hk (h | h); exact h; omega)
      have h3 : W3.heap[wr.heap.size]? = some (.cells #[.string ⟨xk.toArray⟩, .string ⟨xs.toArray⟩, .int .i64 (xn : Int)] 64 (0, 0)) := by rw [hW3]; exact setRow_heap _ _ _ _ 64 (0, 0) hr1
      have k0 : W3.cell? ⟨wr.heap.size, 0, none⟩ = some (.string ⟨xk.toArray⟩) := by unfold World.cell?; rw [h3]; rfl
      have k1 : W3.cell? ⟨wr.heap.size, 1, none⟩ = some (.string ⟨xs.toArray⟩) := by unfold World.cell?; rw [h3]; rfl
      have k2 : W3.cell? ⟨wr.heap.size, 2, none⟩ = some (.int .i64 (xn : Int)) := by unfold World.cell?; rw [h3]; rfl
      rw [← hW3]
      have HB3 := Lib.hid hb3
      have H3 := Lib.hid h3
      clear hW3 hr1 hV hb3 h3
      have HFF : Hid (W3.heap[wr.heap.size]? = some (.cells #[.string ⟨xk.toArray⟩, .string ⟨xs.toArray⟩, .int .i64 (xn : Int)] 64 (0, 0))) := H3
      have HOW : Hid (OW w W3 rm dd q cq D) := Lib.hid (HOW1.out.old HB3.out)
      have HGX : Hid (w.heap.size + 2 < wr.heap.size ∧ ∀ a, q = some a → a.block ≠ wr.heap.size) := Lib.hid ⟨(Array.getElem?_eq_some_iff.1 HOW1.out.o).1, fun a e h => by
        have h2 := HOW1.out.acc
        rw [e] at h2
        have := h2.lt
        omega⟩
      have HLX : Hid (xs.length ≤ 2000000000 ∧ xn ≤ xs.length) := Lib.hid ⟨HXB.out, HXS.out⟩
      clear HOW1 H3
      generalize wr.heap.size = gx at *
      by_cases hlt : xn < xs.length
      · have hlt2 : decide ((xn : Int) < (xs.length : Int)) = true := by simpa using hlt
        obtain ⟨st, hst⟩ : ∃ st, st = stN (xk, xs, xn) ((ch.drop ai).headD 0) := ⟨_, rfl⟩
        have hstl : st ≤ xs.length - xn := by rw [hst]; exact stN_le _ _
        have hxb := HXB.out
        have hxs := HXS.out
        obtain ⟨m, hm⟩ : ∃ m, m = xn + st := ⟨_, rfl⟩
        have HM := Lib.hid hm
        have hml : m ≤ xs.length := by omega
        have HML := Lib.hid hml
        have HZ : Hid (¬ xs.length - xn = 0) := Lib.hid (by omega)
        have hwm : IntKind.i64.wrap ((xn : Int) + (st : Int)) = (m : Int) := by rw [IntKind.wrap_i64]; omega
        have HTK : Hid ((xs.take m).length = m) := Lib.hid (by rw [List.length_take]; omega)
        have HAN : Hid (ai ≤ 1000000) := Lib.hid (by omega)
        by_cases hac : ai < nc
        · obtain ⟨cb, cf, hce, _, hcc⟩ := (HC.out.old (HOW.out.b)) ai (by rw [← HNC.out]; exact hac)
          have hhd : (ch.drop ai).headD 0 = ch[ai]'(by rw [← HNC.out]; exact hac) := by rw [List.drop_eq_getElem_cons (by rw [← HNC.out]; exact hac)]; rfl
          have HCC : Hid (∀ w', Below W3.heap.size W3 w' → w'.cell? ⟨cb, cf + ai, none⟩ = some (.int .i64 (ch[ai]'(by rw [← HNC.out]; exact hac)))) := Lib.hid (fun w' hb => by
            obtain ⟨b', f', e, _, hc⟩ := (HC.out.old (HOW.out.old hb).b) ai (by rw [← HNC.out]; exact hac)
            rw [hce] at e
            cases e
            have := hc 0 _ rfl
            simpa [encI] using this)
          rw [hhd] at hst
          have HST : Hid (st = stN (xk, xs, xn) ((ch.drop ai).headD 0)) := Lib.hid (by rw [hhd]; exact hst)
          generalize ch[ai]'(by rw [← HNC.out]; exact hac) = cv at HCC hst
          subst hce
          obtain ⟨lo, hlo⟩ : ∃ lo, lo = xs.length - xn := ⟨_, rfl⟩
          have hsub : IntKind.i64.wrap ((xs.length : Int) - (xn : Int)) = (lo : Int) := by rw [IntKind.wrap_i64]; omega
          obtain ⟨mn, hmn⟩ : ∃ mn, min cv (lo : Int) = mn := ⟨_, rfl⟩
          have hst2 : max 0 mn = (st : Int) := by
            rw [hst]
            show max 0 mn = ((min (max cv 0) ((xs.length - xn : Nat) : Int)).toNat : Int)
            omega
          have haI : (ai : Int) < (nc : Int) := by omega
          have KX1 : Hid (∀ w', Below W3.heap.size W3 w' → w'.cell? ⟨gx, 1, none⟩ = some (.string ⟨xs.toArray⟩) ∧ w'.cell? ⟨gx, 2, none⟩ = some (.int .i64 (xn : Int))) := Lib.hid (fun w' hb => ⟨(World.cell?_of_block (hb.block gx (Array.getElem?_eq_some_iff.1 HFF.out).1)).trans k1, (World.cell?_of_block (hb.block gx (Array.getElem?_eq_some_iff.1 HFF.out).1)).trans k2⟩)
          clear hst hlo hm hstl
          go_upto_region 9 with fail
          refine wp_region_puts (fun t v w => VK (match t with
            | 32 => .eq (.slice (some ⟨cb, cf, none⟩) nc cz)
            | 33 => .eq (.int .i64 (ai : Int))
            | 34 => .eq (.pointer (some ⟨cb, cf + ai, none⟩))
            | 35 => .eq (.int .i64 cv)
            | 36 => .eq (.pointer (some ⟨gx, 1, none⟩))
            | 37 => .eq (.string ⟨xs.toArray⟩)
            | 38 => .eq (.int .i64 (xs.length : Int))
            | 39 => .eq (.pointer (some ⟨gx, 2, none⟩))
            | 40 => .eq (.int .i64 (xn : Int))
            | 41 => .eq (.int .i64 (lo : Int))
            | 42 => .eq (.int .i64 mn)
            | 43 => .eq (.int .i64 (st : Int))
            | 9 => .eq (.int .i64 (st : Int))
            | _ => .any) v w) (fun w' => Below W3.heap.size W3 w') 66 (by kernel_rfl) (by decide +kernel) rfl (Below.refl _ _).drew (by
            refine OweAll.cons (owesK rfl rfl fun a w1 ha hG hV => ?_) ?_
            · skip
              have h1 := ha.outer 1 (by decide +kernel)
              simp only [Act.eval] at h1
              exact ⟨.slice (some ⟨cb, cf, none⟩) nc cz, w1, wanted_free rfl, by simp [execOp, go_sem, h1], Below.refl _ _, rfl⟩
            refine OweAll.cons (owesK rfl rfl fun a w1 ha hG hV => ?_) ?_
            · skip
              have h6 := ha.outer 6 (by decide +kernel)
              simp only [Act.eval] at h6
              exact ⟨.int .i64 (ai : Int), w1, wanted_free rfl, by simp [execOp, go_sem, h6], Below.refl _ _, rfl⟩
            refine OweAll.cons (owesK rfl rfl fun a w1 ha hG hV => ?_) ?_
            · skip
              have h32 : a.tmps.getD 32 undef = .slice (some ⟨cb, cf, none⟩) nc cz := hV.get 32 (by decide +kernel)
              have h33 : a.tmps.getD 33 undef = .int .i64 (ai : Int) := hV.get 33 (by decide +kernel)
              exact ⟨.pointer (some ⟨cb, cf + ai, none⟩), w1, wanted_free rfl, by simp [execOp, go_sem, h32, h33, haI, hac], Below.refl _ _, rfl⟩
            refine OweAll.cons (owesK rfl rfl fun a w1 ha hG hV => ?_) ?_
            · skip
              have h34 : a.tmps.getD 34 undef = .pointer (some ⟨cb, cf + ai, none⟩) := hV.get 34 (by decide +kernel)
              have cc := HCC.out w1 hG
              exact ⟨.int .i64 cv, w1, wanted_free rfl, by simp [execOp, go_sem, h34, cc], Below.refl _ _, rfl⟩
            refine OweAll.cons (owesK rfl rfl fun a w1 ha hG hV => ?_) ?_
            · skip
              have h8 := ha.outer 8 (by decide +kernel)
              simp only [Act.eval] at h8
              exact ⟨.pointer (some ⟨gx, 1, none⟩), w1, wanted_free rfl, by simp [execOp, go_sem, h8], Below.refl _ _, rfl⟩
            refine OweAll.cons (owesK rfl rfl fun a w1 ha hG hV => ?_) ?_
            · skip
              have h36 : a.tmps.getD 36 undef = .pointer (some ⟨gx, 1, none⟩) := hV.get 36 (by decide +kernel)
              have cc := (KX1.out w1 hG).1
              exact ⟨.string ⟨xs.toArray⟩, w1, wanted_free rfl, by simp [execOp, go_sem, h36, cc], Below.refl _ _, rfl⟩
            refine OweAll.cons (owesK rfl rfl fun a w1 ha hG hV => ?_) ?_
            · skip
              have h37 : a.tmps.getD 37 undef = .string ⟨xs.toArray⟩ := hV.get 37 (by decide +kernel)
              exact ⟨.int .i64 (xs.length : Int), w1, wanted_free rfl, by simp [execOp, go_sem, h37], Below.refl _ _, rfl⟩
            refine OweAll.cons (owesK rfl rfl fun a w1 ha hG hV => ?_) ?_
            · skip
              have h8 := ha.outer 8 (by decide +kernel)
              simp only [Act.eval] at h8
              exact ⟨.pointer (some ⟨gx, 2, none⟩), w1, wanted_free rfl, by simp [execOp, go_sem, h8], Below.refl _ _, rfl⟩
            refine OweAll.cons (owesK rfl rfl fun a w1 ha hG hV => ?_) ?_
            · skip
              have h39 : a.tmps.getD 39 undef = .pointer (some ⟨gx, 2, none⟩) := hV.get 39 (by decide +kernel)
              have cc := (KX1.out w1 hG).2
              exact ⟨.int .i64 (xn : Int), w1, wanted_free rfl, by simp [execOp, go_sem, h39, cc], Below.refl _ _, rfl⟩
            refine OweAll.cons (owesK rfl rfl fun a w1 ha hG hV => ?_) ?_
            · skip
              have h38 : a.tmps.getD 38 undef = .int .i64 (xs.length : Int) := hV.get 38 (by decide +kernel)
              have h40 : a.tmps.getD 40 undef = .int .i64 (xn : Int) := hV.get 40 (by decide +kernel)
              exact ⟨.int .i64 (lo : Int), w1, wanted_free rfl, by simp [execOp, go_sem, h38, h40, hsub], Below.refl _ _, rfl⟩
            refine OweAll.cons (owesK rfl rfl fun a w1 ha hG hV => ?_) ?_
            · skip
              have h35 : a.tmps.getD 35 undef = .int .i64 cv := hV.get 35 (by decide +kernel)
              have h41 : a.tmps.getD 41 undef = .int .i64 (lo : Int) := hV.get 41 (by decide +kernel)
              exact ⟨.int .i64 mn, w1, wanted_free rfl, by simp [execOp, go_sem, h35, h41, hmn], Below.refl _ _, rfl⟩
            refine OweAll.cons (owesK rfl rfl fun a w1 ha hG hV => ?_) ?_
            · skip
              have h42 : a.tmps.getD 42 undef = .int .i64 mn := hV.get 42 (by decide +kernel)
              exact ⟨.int .i64 (st : Int), w1, wanted_free rfl, by simp [execOp, go_sem, h42, hst2], Below.refl _ _, rfl⟩
            refine OweAll.cons (owesK rfl rfl fun a w1 ha hG hV => ?_) ?_
            · skip
              have h43 : a.tmps.getD 43 undef = .int .i64 (st : Int) := hV.get 43 (by decide +kernel)
              exact ⟨.int .i64 (st : Int), w1, wanted_free rfl, by simp [execOp, go_sem, h43], Below.refl _ _, rfl⟩
            exact OweAll.nil
            ) ?_
          intro f wz hG hv
          have e9 : f 9 = .int .i64 (st : Int) := hv 12 _ 9 rfl rfl
          rename_i hK
          refine hK _ _ ?_
          clear hK hv
          simp only [dsts, puts, List.filterMap_cons, List.filterMap_nil, List.foldl_cons, List.foldl_nil, Act.put, List.setIfInBounds_toArray, List.set_cons_succ, List.set_cons_zero, e9]
          clear e9
          have HFG : Hid (wz.heap[gx]? = some (.cells #[.string ⟨xk.toArray⟩, .string ⟨xs.toArray⟩, .int .i64 (xn : Int)] 64 (0, 0))) := Lib.hid ((hG.block gx (Array.getElem?_eq_some_iff.1 HFF.out).1).trans HFF.out)
          have HOG : Hid (OW w wz rm dd q cq D) := Lib.hid (HOW.out.old hG)
          clear hG HOW HFF k0 k1 k2 KX1 HCC hmn hst2
          have HOW := HOG
          have HFF := HFG
          clear HOG HFG
          have hff0 := HFF.out
          have y1 : wz.cell? ⟨gx, 1, none⟩ = some (.string ⟨xs.toArray⟩) := by rw [cell_of_row _ _ _ _ 64 (0, 0) hff0]; rfl
          have y2 : wz.cell? ⟨gx, 2, none⟩ = some (.int .i64 (xn : Int)) := by rw [cell_of_row _ _ _ _ 64 (0, 0) hff0]; rfl
          have yf : wz.frozen? ⟨gx, 1, none⟩ = false := frozen_of_row _ _ _ _ 64 hff0
          have hlx := HLX.out
          go_upto_region 12 with fail
          rw [extract_head]
          obtain ⟨wA, hwA⟩ : ∃ W, W = wz.setCell ⟨gx, 1, none⟩ (.string ⟨(xs.take m).toArray⟩) := ⟨_, rfl⟩
          have hmA : Mod (fun i => i = gx) wz wA := by rw [hwA]; exact (Mod.refl (fun i => i = gx) wz).setCell (fun _ => rfl) _
          have hfA : wA.heap[gx]? = some (.cells #[.string ⟨xk.toArray⟩, .string ⟨(xs.take m).toArray⟩, .int .i64 (xn : Int)] 64 (0, 0)) := by rw [hwA, heap_setCell_same _ _ _ _ 64 _ hff0]; rfl
          rw [← hwA]
          clear hwA y1 y2 yf hff0
          have z1 : wA.cell? ⟨gx, 1, none⟩ = some (.string ⟨(xs.take m).toArray⟩) := by rw [cell_of_row _ _ _ _ 64 (0, 0) hfA]; rfl
          have z2 : wA.cell? ⟨gx, 2, none⟩ = some (.int .i64 (xn : Int)) := by rw [cell_of_row _ _ _ _ 64 (0, 0) hfA]; rfl
          have zf : wA.frozen? ⟨gx, 2, none⟩ = false := frozen_of_row _ _ _ _ 64 hfA
          have htk := HTK.out
          go_upto_region 13 with fail
          obtain ⟨wB, hwB⟩ : ∃ W, W = wA.setCell ⟨gx, 2, none⟩ (.int .i64 (m : Int)) := ⟨_, rfl⟩
          have hmB : Mod (fun i => i = gx) wA wB := by rw [hwB]; exact (Mod.refl (fun i => i = gx) wA).setCell (fun _ => rfl) _
          have hfB : wB.heap[gx]? = some (.cells #[.string ⟨xk.toArray⟩, .string ⟨(xs.take m).toArray⟩, .int .i64 (m : Int)] 64 (0, 0)) := by rw [hwB, heap_setCell_same _ _ _ _ 64 _ hfA]; rfl
          try rw [htk]
          rw [← hwB]
          have HOB : Hid (OW w wB rm dd q cq D) := Lib.hid (HOW.out.beside HGX.out (hmA.trans hmB (fun _ _ h => h)) )
          have HFB2 := Lib.hid hfB
          clear hwB z1 z2 zf hfA hmA hmB hfB HOW HFF
          have HOW := HOB
          have HFF := HFB2
          clear HOB HFB2
          have hoc := HOW.out.cell
          have hff := HFF.out
          obtain ⟨W4, hW4⟩ : ∃ W', W' = wB.alloc (.cells #[.string ⟨xk.toArray⟩, .string ⟨(xs.take m).toArray⟩, .int .i64 (m : Int)] 64) := ⟨_, rfl⟩
          have hb4 : Below wB.heap.size wB W4 := by rw [hW4]; exact (Below.refl _ _).alloc (Nat.le_refl _) _
          have HS4 : Hid (OW w W4 rm dd q cq D ∧ Rd encF W4 (some ⟨wB.heap.size, 0, none⟩) [(xk, xs.take m, m)]) := Lib.hid ⟨HOW.out.old hb4, by
            have := Rd.made encF wB 64 [(xk, xs.take m, m)] (by simp [maxLen])
            rw [hW4]; exact this⟩
          have HW4 := Lib.hid hW4
          have HNB : Hid (D.length + 1 ≤ 100000000000) := Lib.hid (by have := HDL.out; omega)
          clear hb4 hW4
          go_upto_region 13 with fail
          go_wp2_with (first
            | (refine wpList_load_row rfl 64 (.tmp 8) rfl gx rfl 64 #[.string ⟨xk.toArray⟩, .string ⟨(xs.take m).toArray⟩, .int .i64 (m : Int)] (0, 0) _ hff Try.underlying64 rfl HI2 ?_; clear hff)
            | (rw [← HW4.out]; refine wpList_pushR encF rfl (.tmp 59) (.tmp 61) 26 64 _ 40 rfl Try.underlying26 info_rf rfl (by decide) q cq D.length D rfl rfl HS4.out.1.acc (some ⟨wB.heap.size, 0, none⟩) 1 1 [(xk, xs.take m, m)] rfl rfl HS4.out.2 HNB.out ?_; intro q2 c2 w5 hP5; obtain ⟨⟨qa, qb⟩, hO⟩ := HS4.out.1.push hP5; have HO := Lib.hid hO; clear hP5 hO hoc; go_frame))
          have hO := HO.out
          simp only [List.length_append, List.length_cons, List.length_nil, Nat.zero_add] at hO
          refine ⟨⟨i + 1, ai + 1, by omega, by omega, by simp, by simp, Lib.hid ⟨q2, c2, D ++ [(xk, xs.take m, m)], by simpa only [List.length_append, List.length_cons, List.length_nil, Nat.zero_add] using HO.out, by rw [List.length_append, HDL.out]; rfl, by rw [HCR.out]; simp only [if_neg HZ.out]; rw [← HST.out, ← HM.out, List.append_assoc, List.tail_drop]; rfl⟩⟩, ?_⟩
          show n - ((i : Int) + 1).toNat < n - ((i : Int)).toNat
          omega
        · have HST : Hid (st = stN (xk, xs, xn) ((ch.drop ai).headD 0)) := Lib.hid hst
          have hs0 : st = 0 := by
            rw [hst, List.drop_of_length_le (by rw [← HNC.out]; omega)]; exact stN_zero _
          have hacI : ¬ ((ai : Int) < (nc : Int)) := by omega
          obtain ⟨wz, hwz⟩ : ∃ W, W = W3 := ⟨_, rfl⟩
          rw [← hwz] at HOW HFF k0 k1 k2 ⊢
          clear hwz hst hm hstl
          subst hs0
          have hmx : xn = m := by have := HM.out; omega
          subst hmx
          go_upto_region 10 with fail
          clear k0 k1 k2
          have hff0 := HFF.out
          have y1 : wz.cell? ⟨gx, 1, none⟩ = some (.string ⟨xs.toArray⟩) := by rw [cell_of_row _ _ _ _ 64 (0, 0) hff0]; rfl
          have y2 : wz.cell? ⟨gx, 2, none⟩ = some (.int .i64 (xn : Int)) := by rw [cell_of_row _ _ _ _ 64 (0, 0) hff0]; rfl
          have yf : wz.frozen? ⟨gx, 1, none⟩ = false := frozen_of_row _ _ _ _ 64 hff0
          have hlx := HLX.out
          go_upto_region 12 with fail
          rw [extract_head]
          obtain ⟨wA, hwA⟩ : ∃ W, W = wz.setCell ⟨gx, 1, none⟩ (.string ⟨(xs.take xn).toArray⟩) := ⟨_, rfl⟩
          have hmA : Mod (fun i => i = gx) wz wA := by rw [hwA]; exact (Mod.refl (fun i => i = gx) wz).setCell (fun _ => rfl) _
          have hfA : wA.heap[gx]? = some (.cells #[.string ⟨xk.toArray⟩, .string ⟨(xs.take xn).toArray⟩, .int .i64 (xn : Int)] 64 (0, 0)) := by rw [hwA, heap_setCell_same _ _ _ _ 64 _ hff0]; rfl
          rw [← hwA]
          clear hwA y1 y2 yf hff0
          have z1 : wA.cell? ⟨gx, 1, none⟩ = some (.string ⟨(xs.take xn).toArray⟩) := by rw [cell_of_row _ _ _ _ 64 (0, 0) hfA]; rfl
          have z2 : wA.cell? ⟨gx, 2, none⟩ = some (.int .i64 (xn : Int)) := by rw [cell_of_row _ _ _ _ 64 (0, 0) hfA]; rfl
          have zf : wA.frozen? ⟨gx, 2, none⟩ = false := frozen_of_row _ _ _ _ 64 hfA
          have htk := HTK.out
          go_upto_region 13 with fail
          obtain ⟨wB, hwB⟩ : ∃ W, W = wA.setCell ⟨gx, 2, none⟩ (.int .i64 (xn : Int)) := ⟨_, rfl⟩
          have hmB : Mod (fun i => i = gx) wA wB := by rw [hwB]; exact (Mod.refl (fun i => i = gx) wA).setCell (fun _ => rfl) _
          have hfB : wB.heap[gx]? = some (.cells #[.string ⟨xk.toArray⟩, .string ⟨(xs.take xn).toArray⟩, .int .i64 (xn : Int)] 64 (0, 0)) := by rw [hwB, heap_setCell_same _ _ _ _ 64 _ hfA]; rfl
          try rw [htk]
          rw [← hwB]
          have HOB : Hid (OW w wB rm dd q cq D) := Lib.hid (HOW.out.beside HGX.out (hmA.trans hmB (fun _ _ h => h)) )
          have HFB2 := Lib.hid hfB
          clear hwB z1 z2 zf hfA hmA hmB hfB HOW HFF
          have HOW := HOB
          have HFF := HFB2
          clear HOB HFB2
          have hoc := HOW.out.cell
          have hff := HFF.out
          obtain ⟨W4, hW4⟩ : ∃ W', W' = wB.alloc (.cells #[.string ⟨xk.toArray⟩, .string ⟨(xs.take xn).toArray⟩, .int .i64 (xn : Int)] 64) := ⟨_, rfl⟩
          have hb4 : Below wB.heap.size wB W4 := by rw [hW4]; exact (Below.refl _ _).alloc (Nat.le_refl _) _
          have HS4 : Hid (OW w W4 rm dd q cq D ∧ Rd encF W4 (some ⟨wB.heap.size, 0, none⟩) [(xk, xs.take xn, xn)]) := Lib.hid ⟨HOW.out.old hb4, by
            have := Rd.made encF wB 64 [(xk, xs.take xn, xn)] (by simp [maxLen])
            rw [hW4]; exact this⟩
          have HW4 := Lib.hid hW4
          have HNB : Hid (D.length + 1 ≤ 100000000000) := Lib.hid (by have := HDL.out; omega)
          clear hb4 hW4
          go_upto_region 13 with fail
          go_wp2_with (first
            | (refine wpList_load_row rfl 64 (.tmp 8) rfl gx rfl 64 #[.string ⟨xk.toArray⟩, .string ⟨(xs.take xn).toArray⟩, .int .i64 (xn : Int)] (0, 0) _ hff Try.underlying64 rfl HI2 ?_; clear hff)
            | (rw [← HW4.out]; refine wpList_pushR encF rfl (.tmp 59) (.tmp 61) 26 64 _ 40 rfl Try.underlying26 info_rf rfl (by decide) q cq D.length D rfl rfl HS4.out.1.acc (some ⟨wB.heap.size, 0, none⟩) 1 1 [(xk, xs.take xn, xn)] rfl rfl HS4.out.2 HNB.out ?_; intro q2 c2 w5 hP5; obtain ⟨⟨qa, qb⟩, hO⟩ := HS4.out.1.push hP5; have HO := Lib.hid hO; clear hP5 hO hoc; go_frame))
          have hO := HO.out
          simp only [List.length_append, List.length_cons, List.length_nil, Nat.zero_add] at hO
          refine ⟨⟨i + 1, ai + 1, by omega, by omega, by simp, by simp, Lib.hid ⟨q2, c2, D ++ [(xk, xs.take xn, xn)], by simpa only [List.length_append, List.length_cons, List.length_nil, Nat.zero_add] using HO.out, by rw [List.length_append, HDL.out]; rfl, by rw [HCR.out]; simp only [if_neg HZ.out]; rw [← HST.out, ← HM.out, List.append_assoc, List.tail_drop]; rfl⟩⟩, ?_⟩
          show n - ((i : Int) + 1).toNat < n - ((i : Int)).toNat
          omega
      · have hlt2 : ¬ ((xn : Int) < (xs.length : Int)) := by omega
        have hz : xs.length - xn = 0 := by have := HXS.out; omega
        have HZ := Lib.hid hz
        clear hz hlt
        have hoc := HOW.out.cell
        have hff := HFF.out
        obtain ⟨W4, hW4⟩ : ∃ W', W' = W3.alloc (.cells #[.string ⟨xk.toArray⟩, .string ⟨xs.toArray⟩, .int .i64 (xn : Int)] 64) := ⟨_, rfl⟩
        have hb4 : Below W3.heap.size W3 W4 := by rw [hW4]; exact (Below.refl _ _).alloc (Nat.le_refl _) _
        have HS4 : Hid (OW w W4 rm dd q cq D ∧ Rd encF W4 (some ⟨W3.heap.size, 0, none⟩) [(xk, xs, xn)]) := Lib.hid ⟨HOW.out.old hb4, by
          have := Rd.made encF W3 64 [(xk, xs, xn)] (by simp [maxLen])
          rw [hW4]; exact this⟩
        have HW4 := Lib.hid hW4
        have HNB : Hid (D.length + 1 ≤ 100000000000) := Lib.hid (by have := HDL.out; omega)
        clear hb4 hW4
        go_upto_region 13 with fail
        go_wp2_with (first
          | (refine wpList_load_row rfl 64 (.tmp 8) rfl gx rfl 64 #[.string ⟨xk.toArray⟩, .string ⟨xs.toArray⟩, .int .i64 (xn : Int)] (0, 0) _ hff Try.underlying64 rfl HI2 ?_; clear hff)
          | (rw [← HW4.out]; refine wpList_pushR encF rfl (.tmp 59) (.tmp 61) 26 64 _ 40 rfl Try.underlying26 info_rf rfl (by decide) q cq D.length D rfl rfl HS4.out.1.acc (some ⟨W3.heap.size, 0, none⟩) 1 1 [(xk, xs, xn)] rfl rfl HS4.out.2 HNB.out ?_; intro q2 c2 w5 hP5; obtain ⟨⟨qa, qb⟩, hO⟩ := HS4.out.1.push hP5; have HO := Lib.hid hO; clear hP5 hO hoc; go_frame))
        have hO := HO.out
        simp only [List.length_append, List.length_cons, List.length_nil, Nat.zero_add] at hO
        refine ⟨⟨i + 1, ai, by omega, by omega, by simp, rfl, Lib.hid ⟨q2, c2, D ++ [(xk, xs, xn)], by simpa only [List.length_append, List.length_cons, List.length_nil, Nat.zero_add] using HO.out, by rw [List.length_append, HDL.out]; rfl, by rw [HCR.out]; simp only [HZ.out, if_true]; rw [List.append_assoc]; rfl⟩⟩, ?_⟩
        show n - ((i : Int) + 1).toNat < n - ((i : Int)).toNat
        omega
    · have hX : crX ch X = D := by
        rw [hcr, show X.drop i = [] from List.drop_of_length_le (by rw [← HNN.out]; omega)]
        have e : crX (ch.drop ai) [] = [] := by unfold crX; rfl
        rw [e, List.append_nil]
      have HOW := Lib.hid hO
      have hend2 : ¬ (i : Int) < (n : Int) := by omega
      have HX := Lib.hid hX
      have ho := HOW.out.o
      have hz := HOW.out.z
      have hvr : ∀ v ∈ (#[.slice q D.length cq, .int .i64 rm, .int .i64 dd, .int .i64 (-1), .bool false] : Array Value).toList, v.oneCell' = true := by intro v hv; simp at hv; rcases hv with rfl | rfl | rfl | rfl | rfl <;> rfl
      clear hO hDl hcr hR hend hX c10 HOW0
      go_wp2_with (first
        | (refine wpList_load_row rfl 28 (.tmp 5) rfl (w.heap.size + 2) rfl 28 #[.slice q D.length cq, .int .i64 rm, .int .i64 dd, .int .i64 (-1), .bool false] (0, 0) _ ho Try.underlying28 rfl HJ2 ?_; clear ho)
        | (refine wpList_store_row rfl rfl 28 (.tmp 4) (.tmp 65) rfl (w.heap.size + 1) rfl 28 _ #[.slice q D.length cq, .int .i64 rm, .int .i64 dd, .int .i64 (-1), .bool false] rfl hz rfl HJ2 hvr ?_; clear hz))
      obtain ⟨hf1, hf2, hf3⟩ := HOW.out.fin #[.slice q D.length cq, .int .i64 rm, .int .i64 dd, .int .i64 (-1), .bool false]
      rw [HX.out]
      exact bodyPost_ret (v := .agg #[.slice q D.length cq, .int .i64 rm, .int .i64 dd, .int .i64 (-1), .bool false]) (results_cell_row Try.results15 _ _ (w.heap.size + 1) 28 #[.slice q D.length cq, .int .i64 rm, .int .i64 dd, .int .i64 (-1), .bool false] (0, 0) _ rfl hf1 Try.underlying28 rfl HJ2) rfl (by first | exact ⟨q, cq, rfl, hf2, (fun a e => by have := HOW.out.new a e; omega), hf3⟩ | exact ⟨q, ⟨cq, rfl⟩, hf2, (fun a e => by have := HOW.out.new a e; omega), hf3⟩)
end Go.Proofs.Ytpbcglepecojmaa
