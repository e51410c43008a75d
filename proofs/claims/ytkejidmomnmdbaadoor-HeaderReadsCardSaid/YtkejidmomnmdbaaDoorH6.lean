/- A header's name. -/
import Derived.Test.YtkejidmomnmdbaaDoorH5
namespace Go.Proofs.YtkejidmomnmdbaaDoor
open Go.RowKit

/-- A header whose numbers are ints, and which isn't great. -/
structure HOk {α : Type} (h : Hd α) : Prop where
  n : h.ps.length ≤ 1000000
  k : h.tk.length ≤ 1000000
  pw : h.pw < 18446744073709551616
  b1 : -9223372036854775808 ≤ h.ht ∧ h.ht ≤ 9223372036854775807
  b2 : -9223372036854775808 ≤ h.mi ∧ h.mi ≤ 9223372036854775807
  b3 : -9223372036854775808 ≤ h.wi ∧ h.wi ≤ 9223372036854775807
  b4 : -9223372036854775808 ≤ h.sa ∧ h.sa ≤ 9223372036854775807
theorem hbytes_len (h : Hd Nm) (ok : HOk h) : (hbytes (·.1) h).length ≤ 33000063 := by
  have n1 := numL_len h.ht (by have := ok.b1.2; omega)
  have n2 := numL_len h.mi (by have := ok.b2.2; omega)
  have n3 := numL_len (h.tk.length : Int) (by have := ok.k; omega)
  have n4 := numL_len h.wi (by have := ok.b3.2; omega)
  have n5 := numL_len (pwN h.pw) (by have := pwN_bd h.pw; omega)
  have n6 := numL_len (h.ps.length : Int) (by have := ok.n; omega)
  have n7 := numL_len h.sa (by have := ok.b4.2; omega)
  have n8 := flat_len h.ps
  have hn := ok.n
  have hk := ok.k
  simp only [hbytes, hhead, List.length_append]
  rw [n8]
  omega

set_option maxRecDepth 20000 in
set_option maxHeartbeats 4000000 in
theorem hid_any (h : Hd Nm) (ao : Option Addr) (cap : Nat) (w : World) (hL : Rd encN w ao h.ps) (ok : HOk h) (hT : TabAt w) :
    Calls Tryd.prog 33 #[.agg (hcells h ao cap)] w fun r w' => r = .returned (.agg (vals (shaB (hbytes (·.1) h))).toArray) ∧ Below w.heap.size w w' := by
  have hlen := hbytes_len h ok
  have hby := Lib.hid (fun w' (hb : Below w.heap.size w w') => hbytes_any h ao cap w' (hL.old hb) ok.n ok.k ok.pw ok.b1 ok.b2 ok.b3 ok.b4)
  obtain ⟨C, hC⟩ : ∃ C, C = hcells h ao cap := ⟨_, rfl⟩
  have hCs : C.size = 7 := by rw [hC]; rfl
  rw [← hC] at hby ⊢
  obtain ⟨S, hS⟩ : ∃ S, S = hbytes (·.1) h := ⟨_, rfl⟩
  rw [← hS] at hby hlen ⊢
  have hof := Lib.hid (fun (w : World) hT => dofB (.slice (some ⟨w.heap.size, 0, none⟩) 1 1) [S] (w.alloc (.cells #[.string ⟨S.toArray⟩] 9)) (StrsAt.made w 9 [S]) (by simp; omega) (by simp) hT)
  rw [show ([S] : List (List UInt8)).flatten = S from by simp] at hof
  have hZl := shaB_len S
  generalize shaB S = Z at hof hZl ⊢
  have hci : (Tryd.prog.info? 43).map (·.size) = some C.size := by rw [hCs]; kernel_rfl
  have hz := zid_run
  have q2 := zid_len.trans (id_size hZl).symm
  have q3 := id_info hZl
  have q4 := id_one Z
  generalize (vals zid).toArray = ZA at hz q2
  obtain ⟨Y, hY⟩ : ∃ Y, Y = (vals Z).toArray := ⟨_, rfl⟩
  rw [← hY] at q2 q3 q4 hof ⊢
  obtain ⟨W0, hW0⟩ : ∃ W0, W0 = (w.alloc (.cells C 43)).alloc (.cells ZA 25) := ⟨_, rfl⟩
  have hb0 : Below w.heap.size w W0 := by rw [hW0]; exact ((Below.refl _ w).alloc (Nat.le_refl _) _).alloc (by simp) _
  have hbox : W0.heap[w.heap.size]? = some (.cells C 43 (0, 0)) := by rw [hW0, Below.heap_alloc _ _ _ (by simp)]; exact heap_alloc_new w _
  have hres : W0.heap[w.heap.size + 1]? = some (.cells ZA 25 (0, 0)) := by rw [hW0]; have := heap_alloc_new (w.alloc (.cells C 43)) (.cells ZA 25); simpa using this
  have HW0 := Lib.hid hW0
  have Hres := Lib.hid hres
  have Hb0 := Lib.hid hb0
  have HT := Lib.hid hT
  clear hY hZl hS hC hCs hlen hW0 hres hb0 hT hL
  go_enter Tryd.func33, Tryd.ntmps33
  go_wp2_with (first | (rw [← HW0.out]; refine wpList_load_row rfl 43 (.tmp 1) rfl w.heap.size rfl 43 C (0, 0) _ hbox Tryd.underlying43 rfl hci ?_) | fail)
  refine (hby.out W0 Hb0.out).mono ?_
  rintro r w1 ⟨rfl, hb1⟩
  have HB1 := Lib.hid (Hb0.out.trans (hb1.mono Hb0.out.size))
  have Hres1 := Lib.hid ((hb1.block _ (Array.getElem?_eq_some_iff.1 Hres.out).1).trans Hres.out)
  have hT1 := Lib.hid (HT.out.old (HB1.out.trans (((Below.refl _ w1).alloc (Nat.le_refl _) (.cells #[.string ⟨S.toArray⟩] 9)).mono HB1.out.size)))
  clear hb1 hbox
  go_wp2_with fail
  refine (hof.out w1 hT1.out).mono ?_
  rintro r w2 ⟨rfl, hb2⟩
  have hb2' : Below w1.heap.size w1 w2 := ((Below.refl _ w1).alloc (Nat.le_refl _) (.cells #[.string ⟨S.toArray⟩] 9)).trans (hb2.mono (by simp))
  have hres2 : w2.heap[w.heap.size + 1]? = some (.cells ZA 25 (0, 0)) := (hb2'.block _ (Array.getElem?_eq_some_iff.1 Hres1.out).1).trans Hres1.out
  have hB2 := HB1.out.trans (hb2'.mono HB1.out.size)
  have L0 := Lib.hid (setRow_heap w2 (w.heap.size + 1) ZA Y 25 (0, 0) hres2)
  have LB := Lib.hid (hB2.trans (((Mod.refl (fun _ => False) w2).setRow (g := w.heap.size + 1) Y).to_below (by have := hB2.size; exact this) (by rintro k hk (h | h) <;> first | exact h | omega)))
  clear hb2 hb2' hB2
  go_wp2_with (refine wpList_store_row rfl rfl 25 (.tmp 2) (.tmp 6) rfl (w.heap.size + 1) rfl 25 ZA Y rfl hres2 q2 q3 q4 ?_)
  exact bodyPost_ret (v := .agg Y) (results_cell_row Tryd.results33 _ _ (w.heap.size + 1) 25 Y (0, 0) _ rfl L0.out Tryd.underlying25 rfl q3) rfl ⟨rfl, LB.out⟩
end Go.Proofs.YtkejidmomnmdbaaDoor
