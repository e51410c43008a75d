/- Texts 4: what the laws lean on. -/
import Derived.Test.YtiegakeacghnfaaDoorM3
import Derived.OwnWalk
namespace Go.Proofs.YtiegakeacghnfaaDoor
open Go.RowKit

set_option maxRecDepth 20000 in
set_option maxHeartbeats 2000000 in
theorem rchk_big (h : Hd (List UInt8)) (ao : Option Addr) (cap : Nat) (w : World) (hL : Rd encS w ao h.ps) (l n : Nat) (hl : l = h.tk.length) (hn : n = h.ps.length) (R : Bool) (hR : R = rs h.ps (n - 1)) (g0 : 5 < n) :
    Calls Tryd.prog 10 #[.agg (hcells h ao cap)] w fun r w' => r = .returned (.int .i64 4) ∧ Below w.heap.size w w' := by
  obtain ⟨ht, mi, tk, wi, pw, ps, sa⟩ := h
  simp only at *
  unfold hcells
  simp only
  rw [← hn]
  have hsz : (ByteArray.mk tk.toArray).size = l := hl.symm
  have Hris : Hid (∀ w', Below w.heap.size w w' → n ≤ 1000000 → Calls Tryd.prog 29 #[.slice ao n cap] w' fun r w'' => r = .returned (.bool R) ∧ Below w'.heap.size w' w'') := Lib.hid (fun w' hb h6 => by
    have := rise_any ao cap ps w' (hL.old hb) (by omega)
    rw [← hn, ← hR] at this; exact this)
  clear hl hL hn hR
  have f5 : 5 < (n : Int) := by omega
  have hb0 : Below w.heap.size w (w.alloc (.cells #[.int .i64 ht, .int .i64 mi, .string ⟨tk.toArray⟩, .int .i64 wi, .int .u64 (pw : Int), .slice ao n cap, .int .i64 sa] 25)) := (Below.refl _ w).alloc (Nat.le_refl _) _
  clear g0
  go_enter Tryd.func10, Tryd.ntmps10
  go_wp2_with fail
  go_ret
  exact ⟨rfl, hb0⟩
set_option maxRecDepth 20000 in
set_option maxHeartbeats 2000000 in
theorem rchk_ht1 (h : Hd (List UInt8)) (ao : Option Addr) (cap : Nat) (w : World) (hL : Rd encS w ao h.ps) (l n : Nat) (hl : l = h.tk.length) (hn : n = h.ps.length) (R : Bool) (hR : R = rs h.ps (n - 1)) (g0 : ¬ 5 < n) (g1 : h.ht < 1) :
    Calls Tryd.prog 10 #[.agg (hcells h ao cap)] w fun r w' => r = .returned (.int .i64 1) ∧ Below w.heap.size w w' := by
  obtain ⟨ht, mi, tk, wi, pw, ps, sa⟩ := h
  simp only at *
  unfold hcells
  simp only
  rw [← hn]
  have hsz : (ByteArray.mk tk.toArray).size = l := hl.symm
  have Hris : Hid (∀ w', Below w.heap.size w w' → n ≤ 1000000 → Calls Tryd.prog 29 #[.slice ao n cap] w' fun r w'' => r = .returned (.bool R) ∧ Below w'.heap.size w' w'') := Lib.hid (fun w' hb h6 => by
    have := rise_any ao cap ps w' (hL.old hb) (by omega)
    rw [← hn, ← hR] at this; exact this)
  clear hl hL hn hR
  have f5 : (n : Int) ≤ 5 := by omega
  have f5' : n ≤ 5 := by omega
  have e1 : ht < 1 := by omega
  have hb0 : Below w.heap.size w (w.alloc (.cells #[.int .i64 ht, .int .i64 mi, .string ⟨tk.toArray⟩, .int .i64 wi, .int .u64 (pw : Int), .slice ao n cap, .int .i64 sa] 25)) := (Below.refl _ w).alloc (Nat.le_refl _) _
  clear g0 g1
  go_enter Tryd.func10, Tryd.ntmps10
  go_wp2_with fail
  go_ret
  exact ⟨rfl, hb0⟩
set_option maxRecDepth 20000 in
set_option maxHeartbeats 2000000 in
theorem rchk_ht2 (h : Hd (List UInt8)) (ao : Option Addr) (cap : Nat) (w : World) (hL : Rd encS w ao h.ps) (l n : Nat) (hl : l = h.tk.length) (hn : n = h.ps.length) (R : Bool) (hR : R = rs h.ps (n - 1)) (g0 : ¬ 5 < n) (g1 : ¬ h.ht < 1) (g2 : 1073741824 < h.ht) :
    Calls Tryd.prog 10 #[.agg (hcells h ao cap)] w fun r w' => r = .returned (.int .i64 1) ∧ Below w.heap.size w w' := by
  obtain ⟨ht, mi, tk, wi, pw, ps, sa⟩ := h
  simp only at *
  unfold hcells
  simp only
  rw [← hn]
  have hsz : (ByteArray.mk tk.toArray).size = l := hl.symm
  have Hris : Hid (∀ w', Below w.heap.size w w' → n ≤ 1000000 → Calls Tryd.prog 29 #[.slice ao n cap] w' fun r w'' => r = .returned (.bool R) ∧ Below w'.heap.size w' w'') := Lib.hid (fun w' hb h6 => by
    have := rise_any ao cap ps w' (hL.old hb) (by omega)
    rw [← hn, ← hR] at this; exact this)
  clear hl hL hn hR
  have f5 : (n : Int) ≤ 5 := by omega
  have f5' : n ≤ 5 := by omega
  have fht1 : 1 ≤ ht := by omega
  have e1 : 1073741824 < ht := by omega
  have hb0 : Below w.heap.size w (w.alloc (.cells #[.int .i64 ht, .int .i64 mi, .string ⟨tk.toArray⟩, .int .i64 wi, .int .u64 (pw : Int), .slice ao n cap, .int .i64 sa] 25)) := (Below.refl _ w).alloc (Nat.le_refl _) _
  clear g0 g1 g2
  go_enter Tryd.func10, Tryd.ntmps10
  go_wp2_with fail
  go_ret
  exact ⟨rfl, hb0⟩
set_option maxRecDepth 20000 in
set_option maxHeartbeats 2000000 in
theorem rchk_mi1 (h : Hd (List UInt8)) (ao : Option Addr) (cap : Nat) (w : World) (hL : Rd encS w ao h.ps) (l n : Nat) (hl : l = h.tk.length) (hn : n = h.ps.length) (R : Bool) (hR : R = rs h.ps (n - 1)) (g0 : ¬ 5 < n) (g1 : ¬ h.ht < 1) (g2 : ¬ 1073741824 < h.ht) (g3 : h.mi < 0) :
    Calls Tryd.prog 10 #[.agg (hcells h ao cap)] w fun r w' => r = .returned (.int .i64 1) ∧ Below w.heap.size w w' := by
  obtain ⟨ht, mi, tk, wi, pw, ps, sa⟩ := h
  simp only at *
  unfold hcells
  simp only
  rw [← hn]
  have hsz : (ByteArray.mk tk.toArray).size = l := hl.symm
  have Hris : Hid (∀ w', Below w.heap.size w w' → n ≤ 1000000 → Calls Tryd.prog 29 #[.slice ao n cap] w' fun r w'' => r = .returned (.bool R) ∧ Below w'.heap.size w' w'') := Lib.hid (fun w' hb h6 => by
    have := rise_any ao cap ps w' (hL.old hb) (by omega)
    rw [← hn, ← hR] at this; exact this)
  clear hl hL hn hR
  have f5 : (n : Int) ≤ 5 := by omega
  have f5' : n ≤ 5 := by omega
  have fht1 : 1 ≤ ht := by omega
  have fht2 : ht ≤ 1073741824 := by omega
  have e1 : mi < 0 := by omega
  have hb0 : Below w.heap.size w (w.alloc (.cells #[.int .i64 ht, .int .i64 mi, .string ⟨tk.toArray⟩, .int .i64 wi, .int .u64 (pw : Int), .slice ao n cap, .int .i64 sa] 25)) := (Below.refl _ w).alloc (Nat.le_refl _) _
  clear g0 g1 g2 g3
  go_enter Tryd.func10, Tryd.ntmps10
  go_wp2_with fail
  go_ret
  exact ⟨rfl, hb0⟩
set_option maxRecDepth 20000 in
set_option maxHeartbeats 2000000 in
theorem rchk_mi2 (h : Hd (List UInt8)) (ao : Option Addr) (cap : Nat) (w : World) (hL : Rd encS w ao h.ps) (l n : Nat) (hl : l = h.tk.length) (hn : n = h.ps.length) (R : Bool) (hR : R = rs h.ps (n - 1)) (g0 : ¬ 5 < n) (g1 : ¬ h.ht < 1) (g2 : ¬ 1073741824 < h.ht) (g3 : ¬ h.mi < 0) (g4 : 64 ≤ h.mi) :
    Calls Tryd.prog 10 #[.agg (hcells h ao cap)] w fun r w' => r = .returned (.int .i64 1) ∧ Below w.heap.size w w' := by
  obtain ⟨ht, mi, tk, wi, pw, ps, sa⟩ := h
  simp only at *
  unfold hcells
  simp only
  rw [← hn]
  have hsz : (ByteArray.mk tk.toArray).size = l := hl.symm
  have Hris : Hid (∀ w', Below w.heap.size w w' → n ≤ 1000000 → Calls Tryd.prog 29 #[.slice ao n cap] w' fun r w'' => r = .returned (.bool R) ∧ Below w'.heap.size w' w'') := Lib.hid (fun w' hb h6 => by
    have := rise_any ao cap ps w' (hL.old hb) (by omega)
    rw [← hn, ← hR] at this; exact this)
  clear hl hL hn hR
  have f5 : (n : Int) ≤ 5 := by omega
  have f5' : n ≤ 5 := by omega
  have fht1 : 1 ≤ ht := by omega
  have fht2 : ht ≤ 1073741824 := by omega
  have fmi1 : 0 ≤ mi := by omega
  have e1 : 63 < mi := by omega
  have hb0 : Below w.heap.size w (w.alloc (.cells #[.int .i64 ht, .int .i64 mi, .string ⟨tk.toArray⟩, .int .i64 wi, .int .u64 (pw : Int), .slice ao n cap, .int .i64 sa] 25)) := (Below.refl _ w).alloc (Nat.le_refl _) _
  clear g0 g1 g2 g3 g4
  go_enter Tryd.func10, Tryd.ntmps10
  go_wp2_with fail
  go_ret
  exact ⟨rfl, hb0⟩
set_option maxRecDepth 20000 in
set_option maxHeartbeats 2000000 in
theorem rchk_tk1 (h : Hd (List UInt8)) (ao : Option Addr) (cap : Nat) (w : World) (hL : Rd encS w ao h.ps) (l n : Nat) (hl : l = h.tk.length) (hn : n = h.ps.length) (R : Bool) (hR : R = rs h.ps (n - 1)) (g0 : ¬ 5 < n) (g1 : ¬ h.ht < 1) (g2 : ¬ 1073741824 < h.ht) (g3 : ¬ h.mi < 0) (g4 : ¬ 64 ≤ h.mi) (g5 : l < 1) :
    Calls Tryd.prog 10 #[.agg (hcells h ao cap)] w fun r w' => r = .returned (.int .i64 1) ∧ Below w.heap.size w w' := by
  obtain ⟨ht, mi, tk, wi, pw, ps, sa⟩ := h
  simp only at *
  unfold hcells
  simp only
  rw [← hn]
  have hsz : (ByteArray.mk tk.toArray).size = l := hl.symm
  have Hris : Hid (∀ w', Below w.heap.size w w' → n ≤ 1000000 → Calls Tryd.prog 29 #[.slice ao n cap] w' fun r w'' => r = .returned (.bool R) ∧ Below w'.heap.size w' w'') := Lib.hid (fun w' hb h6 => by
    have := rise_any ao cap ps w' (hL.old hb) (by omega)
    rw [← hn, ← hR] at this; exact this)
  clear hl hL hn hR
  have f5 : (n : Int) ≤ 5 := by omega
  have f5' : n ≤ 5 := by omega
  have fht1 : 1 ≤ ht := by omega
  have fht2 : ht ≤ 1073741824 := by omega
  have fmi1 : 0 ≤ mi := by omega
  have fmi2 : mi ≤ 63 := by omega
  have e1 : (l : Int) < 1 := by omega
  have e2 : l = 0 := by omega
  have hb0 : Below w.heap.size w (w.alloc (.cells #[.int .i64 ht, .int .i64 mi, .string ⟨tk.toArray⟩, .int .i64 wi, .int .u64 (pw : Int), .slice ao n cap, .int .i64 sa] 25)) := (Below.refl _ w).alloc (Nat.le_refl _) _
  clear g0 g1 g2 g3 g4 g5
  go_enter Tryd.func10, Tryd.ntmps10
  go_wp2_with fail
  go_ret
  exact ⟨rfl, hb0⟩
set_option maxRecDepth 20000 in
set_option maxHeartbeats 2000000 in
theorem rchk_tk2 (h : Hd (List UInt8)) (ao : Option Addr) (cap : Nat) (w : World) (hL : Rd encS w ao h.ps) (l n : Nat) (hl : l = h.tk.length) (hn : n = h.ps.length) (R : Bool) (hR : R = rs h.ps (n - 1)) (g0 : ¬ 5 < n) (g1 : ¬ h.ht < 1) (g2 : ¬ 1073741824 < h.ht) (g3 : ¬ h.mi < 0) (g4 : ¬ 64 ≤ h.mi) (_g5 : ¬ l < 1) (g6 : 8 < l) :
    Calls Tryd.prog 10 #[.agg (hcells h ao cap)] w fun r w' => r = .returned (.int .i64 1) ∧ Below w.heap.size w w' := by
  obtain ⟨ht, mi, tk, wi, pw, ps, sa⟩ := h
  simp only at *
  unfold hcells
  simp only
  rw [← hn]
  have hsz : (ByteArray.mk tk.toArray).size = l := hl.symm
  have Hris : Hid (∀ w', Below w.heap.size w w' → n ≤ 1000000 → Calls Tryd.prog 29 #[.slice ao n cap] w' fun r w'' => r = .returned (.bool R) ∧ Below w'.heap.size w' w'') := Lib.hid (fun w' hb h6 => by
    have := rise_any ao cap ps w' (hL.old hb) (by omega)
    rw [← hn, ← hR] at this; exact this)
  clear hl hL hn hR
  have f5 : (n : Int) ≤ 5 := by omega
  have f5' : n ≤ 5 := by omega
  have fht1 : 1 ≤ ht := by omega
  have fht2 : ht ≤ 1073741824 := by omega
  have fmi1 : 0 ≤ mi := by omega
  have fmi2 : mi ≤ 63 := by omega
  have ftk1 : 1 ≤ (l : Int) := by omega
  have ftk3 : 0 < l := by omega
  have ftk4 : l ≠ 0 := by omega
  have e1 : 8 < (l : Int) := by omega
  have e2 : 8 < l := by omega
  have hb0 : Below w.heap.size w (w.alloc (.cells #[.int .i64 ht, .int .i64 mi, .string ⟨tk.toArray⟩, .int .i64 wi, .int .u64 (pw : Int), .slice ao n cap, .int .i64 sa] 25)) := (Below.refl _ w).alloc (Nat.le_refl _) _
  clear g0 g1 g2 g3 g4 _g5 g6
  go_enter Tryd.func10, Tryd.ntmps10
  go_wp2_with fail
  go_ret
  exact ⟨rfl, hb0⟩
set_option maxRecDepth 20000 in
set_option maxHeartbeats 2000000 in
theorem rchk_wi1 (h : Hd (List UInt8)) (ao : Option Addr) (cap : Nat) (w : World) (hL : Rd encS w ao h.ps) (l n : Nat) (hl : l = h.tk.length) (hn : n = h.ps.length) (R : Bool) (hR : R = rs h.ps (n - 1)) (g0 : ¬ 5 < n) (g1 : ¬ h.ht < 1) (g2 : ¬ 1073741824 < h.ht) (g3 : ¬ h.mi < 0) (g4 : ¬ 64 ≤ h.mi) (g5 : ¬ l < 1) (g6 : ¬ 8 < l) (g7 : h.wi < 1) :
    Calls Tryd.prog 10 #[.agg (hcells h ao cap)] w fun r w' => r = .returned (.int .i64 1) ∧ Below w.heap.size w w' := by
  obtain ⟨ht, mi, tk, wi, pw, ps, sa⟩ := h
  simp only at *
  unfold hcells
  simp only
  rw [← hn]
  have hsz : (ByteArray.mk tk.toArray).size = l := hl.symm
  have Hris : Hid (∀ w', Below w.heap.size w w' → n ≤ 1000000 → Calls Tryd.prog 29 #[.slice ao n cap] w' fun r w'' => r = .returned (.bool R) ∧ Below w'.heap.size w' w'') := Lib.hid (fun w' hb h6 => by
    have := rise_any ao cap ps w' (hL.old hb) (by omega)
    rw [← hn, ← hR] at this; exact this)
  clear hl hL hn hR
  have f5 : (n : Int) ≤ 5 := by omega
  have f5' : n ≤ 5 := by omega
  have fht1 : 1 ≤ ht := by omega
  have fht2 : ht ≤ 1073741824 := by omega
  have fmi1 : 0 ≤ mi := by omega
  have fmi2 : mi ≤ 63 := by omega
  have ftk1 : 1 ≤ (l : Int) := by omega
  have ftk3 : 0 < l := by omega
  have ftk4 : l ≠ 0 := by omega
  have ftk2 : (l : Int) ≤ 8 := by omega
  have ftk5 : l ≤ 8 := by omega
  have e1 : wi < 1 := by omega
  have hb0 : Below w.heap.size w (w.alloc (.cells #[.int .i64 ht, .int .i64 mi, .string ⟨tk.toArray⟩, .int .i64 wi, .int .u64 (pw : Int), .slice ao n cap, .int .i64 sa] 25)) := (Below.refl _ w).alloc (Nat.le_refl _) _
  clear g0 g1 g2 g3 g4 g5 g6 g7
  go_enter Tryd.func10, Tryd.ntmps10
  go_wp2_with fail
  go_ret
  exact ⟨rfl, hb0⟩
set_option maxRecDepth 20000 in
set_option maxHeartbeats 2000000 in
theorem rchk_wi2 (h : Hd (List UInt8)) (ao : Option Addr) (cap : Nat) (w : World) (hL : Rd encS w ao h.ps) (l n : Nat) (hl : l = h.tk.length) (hn : n = h.ps.length) (R : Bool) (hR : R = rs h.ps (n - 1)) (g0 : ¬ 5 < n) (g1 : ¬ h.ht < 1) (g2 : ¬ 1073741824 < h.ht) (g3 : ¬ h.mi < 0) (g4 : ¬ 64 ≤ h.mi) (g5 : ¬ l < 1) (g6 : ¬ 8 < l) (g7 : ¬ h.wi < 1) (g8 : 15 < h.wi) :
    Calls Tryd.prog 10 #[.agg (hcells h ao cap)] w fun r w' => r = .returned (.int .i64 1) ∧ Below w.heap.size w w' := by
  obtain ⟨ht, mi, tk, wi, pw, ps, sa⟩ := h
  simp only at *
  unfold hcells
  simp only
  rw [← hn]
  have hsz : (ByteArray.mk tk.toArray).size = l := hl.symm
  have Hris : Hid (∀ w', Below w.heap.size w w' → n ≤ 1000000 → Calls Tryd.prog 29 #[.slice ao n cap] w' fun r w'' => r = .returned (.bool R) ∧ Below w'.heap.size w' w'') := Lib.hid (fun w' hb h6 => by
    have := rise_any ao cap ps w' (hL.old hb) (by omega)
    rw [← hn, ← hR] at this; exact this)
  clear hl hL hn hR
  have f5 : (n : Int) ≤ 5 := by omega
  have f5' : n ≤ 5 := by omega
  have fht1 : 1 ≤ ht := by omega
  have fht2 : ht ≤ 1073741824 := by omega
  have fmi1 : 0 ≤ mi := by omega
  have fmi2 : mi ≤ 63 := by omega
  have ftk1 : 1 ≤ (l : Int) := by omega
  have ftk3 : 0 < l := by omega
  have ftk4 : l ≠ 0 := by omega
  have ftk2 : (l : Int) ≤ 8 := by omega
  have ftk5 : l ≤ 8 := by omega
  have fwi1 : 1 ≤ wi := by omega
  have e1 : 15 < wi := by omega
  have hb0 : Below w.heap.size w (w.alloc (.cells #[.int .i64 ht, .int .i64 mi, .string ⟨tk.toArray⟩, .int .i64 wi, .int .u64 (pw : Int), .slice ao n cap, .int .i64 sa] 25)) := (Below.refl _ w).alloc (Nat.le_refl _) _
  clear g0 g1 g2 g3 g4 g5 g6 g7 g8
  go_enter Tryd.func10, Tryd.ntmps10
  go_wp2_with fail
  go_ret
  exact ⟨rfl, hb0⟩
set_option maxRecDepth 20000 in
set_option maxHeartbeats 2000000 in
theorem rchk_sa1 (h : Hd (List UInt8)) (ao : Option Addr) (cap : Nat) (w : World) (hL : Rd encS w ao h.ps) (l n : Nat) (hl : l = h.tk.length) (hn : n = h.ps.length) (R : Bool) (hR : R = rs h.ps (n - 1)) (g0 : ¬ 5 < n) (g1 : ¬ h.ht < 1) (g2 : ¬ 1073741824 < h.ht) (g3 : ¬ h.mi < 0) (g4 : ¬ 64 ≤ h.mi) (g5 : ¬ l < 1) (g6 : ¬ 8 < l) (g7 : ¬ h.wi < 1) (g8 : ¬ 15 < h.wi) (g9 : h.sa < 0) :
    Calls Tryd.prog 10 #[.agg (hcells h ao cap)] w fun r w' => r = .returned (.int .i64 1) ∧ Below w.heap.size w w' := by
  obtain ⟨ht, mi, tk, wi, pw, ps, sa⟩ := h
  simp only at *
  unfold hcells
  simp only
  rw [← hn]
  have hsz : (ByteArray.mk tk.toArray).size = l := hl.symm
  have Hris : Hid (∀ w', Below w.heap.size w w' → n ≤ 1000000 → Calls Tryd.prog 29 #[.slice ao n cap] w' fun r w'' => r = .returned (.bool R) ∧ Below w'.heap.size w' w'') := Lib.hid (fun w' hb h6 => by
    have := rise_any ao cap ps w' (hL.old hb) (by omega)
    rw [← hn, ← hR] at this; exact this)
  clear hl hL hn hR
  have f5 : (n : Int) ≤ 5 := by omega
  have f5' : n ≤ 5 := by omega
  have fht1 : 1 ≤ ht := by omega
  have fht2 : ht ≤ 1073741824 := by omega
  have fmi1 : 0 ≤ mi := by omega
  have fmi2 : mi ≤ 63 := by omega
  have ftk1 : 1 ≤ (l : Int) := by omega
  have ftk3 : 0 < l := by omega
  have ftk4 : l ≠ 0 := by omega
  have ftk2 : (l : Int) ≤ 8 := by omega
  have ftk5 : l ≤ 8 := by omega
  have fwi1 : 1 ≤ wi := by omega
  have fwi2 : wi ≤ 15 := by omega
  have e1 : sa < 0 := by omega
  have hb0 : Below w.heap.size w (w.alloc (.cells #[.int .i64 ht, .int .i64 mi, .string ⟨tk.toArray⟩, .int .i64 wi, .int .u64 (pw : Int), .slice ao n cap, .int .i64 sa] 25)) := (Below.refl _ w).alloc (Nat.le_refl _) _
  clear g0 g1 g2 g3 g4 g5 g6 g7 g8 g9
  go_enter Tryd.func10, Tryd.ntmps10
  go_wp2_with fail
  go_ret
  exact ⟨rfl, hb0⟩
set_option maxRecDepth 20000 in
set_option maxHeartbeats 2000000 in
theorem rchk_sa2 (h : Hd (List UInt8)) (ao : Option Addr) (cap : Nat) (w : World) (hL : Rd encS w ao h.ps) (l n : Nat) (hl : l = h.tk.length) (hn : n = h.ps.length) (R : Bool) (hR : R = rs h.ps (n - 1)) (g0 : ¬ 5 < n) (g1 : ¬ h.ht < 1) (g2 : ¬ 1073741824 < h.ht) (g3 : ¬ h.mi < 0) (g4 : ¬ 64 ≤ h.mi) (g5 : ¬ l < 1) (g6 : ¬ 8 < l) (g7 : ¬ h.wi < 1) (g8 : ¬ 15 < h.wi) (g9 : ¬ h.sa < 0) (g10 : 1073741824 < h.sa) :
    Calls Tryd.prog 10 #[.agg (hcells h ao cap)] w fun r w' => r = .returned (.int .i64 1) ∧ Below w.heap.size w w' := by
  obtain ⟨ht, mi, tk, wi, pw, ps, sa⟩ := h
  simp only at *
  unfold hcells
  simp only
  rw [← hn]
  have hsz : (ByteArray.mk tk.toArray).size = l := hl.symm
  have Hris : Hid (∀ w', Below w.heap.size w w' → n ≤ 1000000 → Calls Tryd.prog 29 #[.slice ao n cap] w' fun r w'' => r = .returned (.bool R) ∧ Below w'.heap.size w' w'') := Lib.hid (fun w' hb h6 => by
    have := rise_any ao cap ps w' (hL.old hb) (by omega)
    rw [← hn, ← hR] at this; exact this)
  clear hl hL hn hR
  have f5 : (n : Int) ≤ 5 := by omega
  have f5' : n ≤ 5 := by omega
  have fht1 : 1 ≤ ht := by omega
  have fht2 : ht ≤ 1073741824 := by omega
  have fmi1 : 0 ≤ mi := by omega
  have fmi2 : mi ≤ 63 := by omega
  have ftk1 : 1 ≤ (l : Int) := by omega
  have ftk3 : 0 < l := by omega
  have ftk4 : l ≠ 0 := by omega
  have ftk2 : (l : Int) ≤ 8 := by omega
  have ftk5 : l ≤ 8 := by omega
  have fwi1 : 1 ≤ wi := by omega
  have fwi2 : wi ≤ 15 := by omega
  have fsa1 : 0 ≤ sa := by omega
  have e1 : 1073741824 < sa := by omega
  have hb0 : Below w.heap.size w (w.alloc (.cells #[.int .i64 ht, .int .i64 mi, .string ⟨tk.toArray⟩, .int .i64 wi, .int .u64 (pw : Int), .slice ao n cap, .int .i64 sa] 25)) := (Below.refl _ w).alloc (Nat.le_refl _) _
  clear g0 g1 g2 g3 g4 g5 g6 g7 g8 g9 g10
  go_enter Tryd.func10, Tryd.ntmps10
  go_wp2_with fail
  go_ret
  exact ⟨rfl, hb0⟩
set_option maxRecDepth 20000 in
set_option maxHeartbeats 2000000 in
theorem rchk_pw1 (h : Hd (List UInt8)) (ao : Option Addr) (cap : Nat) (w : World) (hL : Rd encS w ao h.ps) (l n : Nat) (hl : l = h.tk.length) (hn : n = h.ps.length) (R : Bool) (hR : R = rs h.ps (n - 1)) (g0 : ¬ 5 < n) (g1 : ¬ h.ht < 1) (g2 : ¬ 1073741824 < h.ht) (g3 : ¬ h.mi < 0) (g4 : ¬ 64 ≤ h.mi) (g5 : ¬ l < 1) (g6 : ¬ 8 < l) (g7 : ¬ h.wi < 1) (g8 : ¬ 15 < h.wi) (g9 : ¬ h.sa < 0) (g10 : ¬ 1073741824 < h.sa) (g11 : h.pw < 2) :
    Calls Tryd.prog 10 #[.agg (hcells h ao cap)] w fun r w' => r = .returned (.int .i64 1) ∧ Below w.heap.size w w' := by
  obtain ⟨ht, mi, tk, wi, pw, ps, sa⟩ := h
  simp only at *
  unfold hcells
  simp only
  rw [← hn]
  have hsz : (ByteArray.mk tk.toArray).size = l := hl.symm
  have Hris : Hid (∀ w', Below w.heap.size w w' → n ≤ 1000000 → Calls Tryd.prog 29 #[.slice ao n cap] w' fun r w'' => r = .returned (.bool R) ∧ Below w'.heap.size w' w'') := Lib.hid (fun w' hb h6 => by
    have := rise_any ao cap ps w' (hL.old hb) (by omega)
    rw [← hn, ← hR] at this; exact this)
  clear hl hL hn hR
  have f5 : (n : Int) ≤ 5 := by omega
  have f5' : n ≤ 5 := by omega
  have fht1 : 1 ≤ ht := by omega
  have fht2 : ht ≤ 1073741824 := by omega
  have fmi1 : 0 ≤ mi := by omega
  have fmi2 : mi ≤ 63 := by omega
  have ftk1 : 1 ≤ (l : Int) := by omega
  have ftk3 : 0 < l := by omega
  have ftk4 : l ≠ 0 := by omega
  have ftk2 : (l : Int) ≤ 8 := by omega
  have ftk5 : l ≤ 8 := by omega
  have fwi1 : 1 ≤ wi := by omega
  have fwi2 : wi ≤ 15 := by omega
  have fsa1 : 0 ≤ sa := by omega
  have fsa2 : sa ≤ 1073741824 := by omega
  have e1 : (pw : Int) < 2 := by omega
  have hb0 : Below w.heap.size w (w.alloc (.cells #[.int .i64 ht, .int .i64 mi, .string ⟨tk.toArray⟩, .int .i64 wi, .int .u64 (pw : Int), .slice ao n cap, .int .i64 sa] 25)) := (Below.refl _ w).alloc (Nat.le_refl _) _
  clear g0 g1 g2 g3 g4 g5 g6 g7 g8 g9 g10 g11
  go_enter Tryd.func10, Tryd.ntmps10
  go_wp2_with fail
  go_ret
  exact ⟨rfl, hb0⟩
set_option maxRecDepth 20000 in
set_option maxHeartbeats 2000000 in
theorem rchk_pw2 (h : Hd (List UInt8)) (ao : Option Addr) (cap : Nat) (w : World) (hL : Rd encS w ao h.ps) (l n : Nat) (hl : l = h.tk.length) (hn : n = h.ps.length) (R : Bool) (hR : R = rs h.ps (n - 1)) (g0 : ¬ 5 < n) (g1 : ¬ h.ht < 1) (g2 : ¬ 1073741824 < h.ht) (g3 : ¬ h.mi < 0) (g4 : ¬ 64 ≤ h.mi) (g5 : ¬ l < 1) (g6 : ¬ 8 < l) (g7 : ¬ h.wi < 1) (g8 : ¬ 15 < h.wi) (g9 : ¬ h.sa < 0) (g10 : ¬ 1073741824 < h.sa) (g11 : ¬ h.pw < 2) (g12 : 4611686018427387904 < h.pw) :
    Calls Tryd.prog 10 #[.agg (hcells h ao cap)] w fun r w' => r = .returned (.int .i64 1) ∧ Below w.heap.size w w' := by
  obtain ⟨ht, mi, tk, wi, pw, ps, sa⟩ := h
  simp only at *
  unfold hcells
  simp only
  rw [← hn]
  have hsz : (ByteArray.mk tk.toArray).size = l := hl.symm
  have Hris : Hid (∀ w', Below w.heap.size w w' → n ≤ 1000000 → Calls Tryd.prog 29 #[.slice ao n cap] w' fun r w'' => r = .returned (.bool R) ∧ Below w'.heap.size w' w'') := Lib.hid (fun w' hb h6 => by
    have := rise_any ao cap ps w' (hL.old hb) (by omega)
    rw [← hn, ← hR] at this; exact this)
  clear hl hL hn hR
  have f5 : (n : Int) ≤ 5 := by omega
  have f5' : n ≤ 5 := by omega
  have fht1 : 1 ≤ ht := by omega
  have fht2 : ht ≤ 1073741824 := by omega
  have fmi1 : 0 ≤ mi := by omega
  have fmi2 : mi ≤ 63 := by omega
  have ftk1 : 1 ≤ (l : Int) := by omega
  have ftk3 : 0 < l := by omega
  have ftk4 : l ≠ 0 := by omega
  have ftk2 : (l : Int) ≤ 8 := by omega
  have ftk5 : l ≤ 8 := by omega
  have fwi1 : 1 ≤ wi := by omega
  have fwi2 : wi ≤ 15 := by omega
  have fsa1 : 0 ≤ sa := by omega
  have fsa2 : sa ≤ 1073741824 := by omega
  have fpw1 : 2 ≤ (pw : Int) := by omega
  have e1 : 4611686018427387904 < (pw : Int) := by omega
  have hb0 : Below w.heap.size w (w.alloc (.cells #[.int .i64 ht, .int .i64 mi, .string ⟨tk.toArray⟩, .int .i64 wi, .int .u64 (pw : Int), .slice ao n cap, .int .i64 sa] 25)) := (Below.refl _ w).alloc (Nat.le_refl _) _
  clear g0 g1 g2 g3 g4 g5 g6 g7 g8 g9 g10 g11 g12
  go_enter Tryd.func10, Tryd.ntmps10
  go_wp2_with fail
  go_ret
  exact ⟨rfl, hb0⟩
set_option maxRecDepth 20000 in
set_option maxHeartbeats 2000000 in
theorem rchk_ps1 (h : Hd (List UInt8)) (ao : Option Addr) (cap : Nat) (w : World) (hL : Rd encS w ao h.ps) (l n : Nat) (hl : l = h.tk.length) (hn : n = h.ps.length) (R : Bool) (hR : R = rs h.ps (n - 1)) (g0 : ¬ 5 < n) (g1 : ¬ h.ht < 1) (g2 : ¬ 1073741824 < h.ht) (g3 : ¬ h.mi < 0) (g4 : ¬ 64 ≤ h.mi) (g5 : ¬ l < 1) (g6 : ¬ 8 < l) (g7 : ¬ h.wi < 1) (g8 : ¬ 15 < h.wi) (g9 : ¬ h.sa < 0) (g10 : ¬ 1073741824 < h.sa) (g11 : ¬ h.pw < 2) (g12 : ¬ 4611686018427387904 < h.pw) (g13 : n < 1) :
    Calls Tryd.prog 10 #[.agg (hcells h ao cap)] w fun r w' => r = .returned (.int .i64 1) ∧ Below w.heap.size w w' := by
  obtain ⟨ht, mi, tk, wi, pw, ps, sa⟩ := h
  simp only at *
  unfold hcells
  simp only
  rw [← hn]
  have hsz : (ByteArray.mk tk.toArray).size = l := hl.symm
  have Hris : Hid (∀ w', Below w.heap.size w w' → n ≤ 1000000 → Calls Tryd.prog 29 #[.slice ao n cap] w' fun r w'' => r = .returned (.bool R) ∧ Below w'.heap.size w' w'') := Lib.hid (fun w' hb h6 => by
    have := rise_any ao cap ps w' (hL.old hb) (by omega)
    rw [← hn, ← hR] at this; exact this)
  clear hl hL hn hR
  have f5 : (n : Int) ≤ 5 := by omega
  have f5' : n ≤ 5 := by omega
  have fht1 : 1 ≤ ht := by omega
  have fht2 : ht ≤ 1073741824 := by omega
  have fmi1 : 0 ≤ mi := by omega
  have fmi2 : mi ≤ 63 := by omega
  have ftk1 : 1 ≤ (l : Int) := by omega
  have ftk3 : 0 < l := by omega
  have ftk4 : l ≠ 0 := by omega
  have ftk2 : (l : Int) ≤ 8 := by omega
  have ftk5 : l ≤ 8 := by omega
  have fwi1 : 1 ≤ wi := by omega
  have fwi2 : wi ≤ 15 := by omega
  have fsa1 : 0 ≤ sa := by omega
  have fsa2 : sa ≤ 1073741824 := by omega
  have fpw1 : 2 ≤ (pw : Int) := by omega
  have fpw2 : (pw : Int) ≤ 4611686018427387904 := by omega
  have e1 : ((n : Int) == 0) = true := by rw [beq_iff_eq]; omega
  have hb0 : Below w.heap.size w (w.alloc (.cells #[.int .i64 ht, .int .i64 mi, .string ⟨tk.toArray⟩, .int .i64 wi, .int .u64 (pw : Int), .slice ao n cap, .int .i64 sa] 25)) := (Below.refl _ w).alloc (Nat.le_refl _) _
  clear g0 g1 g2 g3 g4 g5 g6 g7 g8 g9 g10 g11 g12 g13
  go_enter Tryd.func10, Tryd.ntmps10
  go_wp2_with fail
  go_ret
  exact ⟨rfl, hb0⟩
set_option maxRecDepth 20000 in
set_option maxHeartbeats 2000000 in
theorem rchk_ps2 (h : Hd (List UInt8)) (ao : Option Addr) (cap : Nat) (w : World) (hL : Rd encS w ao h.ps) (l n : Nat) (hl : l = h.tk.length) (hn : n = h.ps.length) (R : Bool) (hR : R = rs h.ps (n - 1)) (g0 : ¬ 5 < n) (g1 : ¬ h.ht < 1) (g2 : ¬ 1073741824 < h.ht) (g3 : ¬ h.mi < 0) (g4 : ¬ 64 ≤ h.mi) (g5 : ¬ l < 1) (g6 : ¬ 8 < l) (g7 : ¬ h.wi < 1) (g8 : ¬ 15 < h.wi) (g9 : ¬ h.sa < 0) (g10 : ¬ 1073741824 < h.sa) (g11 : ¬ h.pw < 2) (g12 : ¬ 4611686018427387904 < h.pw) (g13 : ¬ n < 1) (g14 : R = false) :
    Calls Tryd.prog 10 #[.agg (hcells h ao cap)] w fun r w' => r = .returned (.int .i64 1) ∧ Below w.heap.size w w' := by
  obtain ⟨ht, mi, tk, wi, pw, ps, sa⟩ := h
  simp only at *
  unfold hcells
  simp only
  rw [← hn]
  have hsz : (ByteArray.mk tk.toArray).size = l := hl.symm
  have Hris : Hid (∀ w', Below w.heap.size w w' → n ≤ 1000000 → Calls Tryd.prog 29 #[.slice ao n cap] w' fun r w'' => r = .returned (.bool R) ∧ Below w'.heap.size w' w'') := Lib.hid (fun w' hb h6 => by
    have := rise_any ao cap ps w' (hL.old hb) (by omega)
    rw [← hn, ← hR] at this; exact this)
  clear hl hL hn hR
  have f5 : (n : Int) ≤ 5 := by omega
  have f5' : n ≤ 5 := by omega
  have fht1 : 1 ≤ ht := by omega
  have fht2 : ht ≤ 1073741824 := by omega
  have fmi1 : 0 ≤ mi := by omega
  have fmi2 : mi ≤ 63 := by omega
  have ftk1 : 1 ≤ (l : Int) := by omega
  have ftk3 : 0 < l := by omega
  have ftk4 : l ≠ 0 := by omega
  have ftk2 : (l : Int) ≤ 8 := by omega
  have ftk5 : l ≤ 8 := by omega
  have fwi1 : 1 ≤ wi := by omega
  have fwi2 : wi ≤ 15 := by omega
  have fsa1 : 0 ≤ sa := by omega
  have fsa2 : sa ≤ 1073741824 := by omega
  have fpw1 : 2 ≤ (pw : Int) := by omega
  have fpw2 : (pw : Int) ≤ 4611686018427387904 := by omega
  have fps1 : ((n : Int) == 0) = false := by rw [beq_eq_false_iff_ne]; omega
  subst g14
  have hb0 : Below w.heap.size w (w.alloc (.cells #[.int .i64 ht, .int .i64 mi, .string ⟨tk.toArray⟩, .int .i64 wi, .int .u64 (pw : Int), .slice ao n cap, .int .i64 sa] 25)) := (Below.refl _ w).alloc (Nat.le_refl _) _
  clear g0 g1 g2 g3 g4 g5 g6 g7 g8 g9 g10 g11 g12 g13
  have Hr := Hris.out _ hb0 (by omega)
  have HB0 := Lib.hid hb0
  clear hb0
  go_enter Tryd.func10, Tryd.ntmps10
  go_wp2_with fail
  refine Hr.mono ?_
  rintro r w1 ⟨rfl, hb1⟩
  have hB1 := Lib.hid (HB0.out.trans (hb1.mono HB0.out.size))
  clear hb1 Hr
  go_wp2_with fail
  go_ret
  exact ⟨rfl, hB1.out⟩
set_option maxRecDepth 20000 in
set_option maxHeartbeats 2000000 in
theorem rchk_ok (h : Hd (List UInt8)) (ao : Option Addr) (cap : Nat) (w : World) (hL : Rd encS w ao h.ps) (l n : Nat) (hl : l = h.tk.length) (hn : n = h.ps.length) (R : Bool) (hR : R = rs h.ps (n - 1)) (g0 : ¬ 5 < n) (g1 : ¬ h.ht < 1) (g2 : ¬ 1073741824 < h.ht) (g3 : ¬ h.mi < 0) (g4 : ¬ 64 ≤ h.mi) (g5 : ¬ l < 1) (g6 : ¬ 8 < l) (g7 : ¬ h.wi < 1) (g8 : ¬ 15 < h.wi) (g9 : ¬ h.sa < 0) (g10 : ¬ 1073741824 < h.sa) (g11 : ¬ h.pw < 2) (g12 : ¬ 4611686018427387904 < h.pw) (g13 : ¬ n < 1) (g14 : R = true) :
    Calls Tryd.prog 10 #[.agg (hcells h ao cap)] w fun r w' => r = .returned (.int .i64 0) ∧ Below w.heap.size w w' := by
  obtain ⟨ht, mi, tk, wi, pw, ps, sa⟩ := h
  simp only at *
  unfold hcells
  simp only
  rw [← hn]
  have hsz : (ByteArray.mk tk.toArray).size = l := hl.symm
  have Hris : Hid (∀ w', Below w.heap.size w w' → n ≤ 1000000 → Calls Tryd.prog 29 #[.slice ao n cap] w' fun r w'' => r = .returned (.bool R) ∧ Below w'.heap.size w' w'') := Lib.hid (fun w' hb h6 => by
    have := rise_any ao cap ps w' (hL.old hb) (by omega)
    rw [← hn, ← hR] at this; exact this)
  clear hl hL hn hR
  have f5 : (n : Int) ≤ 5 := by omega
  have f5' : n ≤ 5 := by omega
  have fht1 : 1 ≤ ht := by omega
  have fht2 : ht ≤ 1073741824 := by omega
  have fmi1 : 0 ≤ mi := by omega
  have fmi2 : mi ≤ 63 := by omega
  have ftk1 : 1 ≤ (l : Int) := by omega
  have ftk3 : 0 < l := by omega
  have ftk4 : l ≠ 0 := by omega
  have ftk2 : (l : Int) ≤ 8 := by omega
  have ftk5 : l ≤ 8 := by omega
  have fwi1 : 1 ≤ wi := by omega
  have fwi2 : wi ≤ 15 := by omega
  have fsa1 : 0 ≤ sa := by omega
  have fsa2 : sa ≤ 1073741824 := by omega
  have fpw1 : 2 ≤ (pw : Int) := by omega
  have fpw2 : (pw : Int) ≤ 4611686018427387904 := by omega
  have fps1 : ((n : Int) == 0) = false := by rw [beq_eq_false_iff_ne]; omega
  subst g14
  have hb0 : Below w.heap.size w (w.alloc (.cells #[.int .i64 ht, .int .i64 mi, .string ⟨tk.toArray⟩, .int .i64 wi, .int .u64 (pw : Int), .slice ao n cap, .int .i64 sa] 25)) := (Below.refl _ w).alloc (Nat.le_refl _) _
  clear g0 g1 g2 g3 g4 g5 g6 g7 g8 g9 g10 g11 g12 g13
  have Hr := Hris.out _ hb0 (by omega)
  have HB0 := Lib.hid hb0
  clear hb0
  go_enter Tryd.func10, Tryd.ntmps10
  go_wp2_with fail
  refine Hr.mono ?_
  rintro r w1 ⟨rfl, hb1⟩
  have hB1 := Lib.hid (HB0.out.trans (hb1.mono HB0.out.size))
  clear hb1 Hr
  go_wp2_with fail
  go_ret
  exact ⟨rfl, hB1.out⟩
theorem rcheck_any (h : Hd (List UInt8)) (ao : Option Addr) (cap : Nat) (w : World) (hL : Rd encS w ao h.ps) :
    Calls Tryd.prog 10 #[.agg (hcells h ao cap)] w fun r w' => r = .returned (.int .i64 (chk h (rs h.ps (h.ps.length - 1)))) ∧ Below w.heap.size w w' := by
  obtain ⟨l, hl⟩ : ∃ l, l = h.tk.length := ⟨_, rfl⟩
  obtain ⟨n, hn⟩ : ∃ n, n = h.ps.length := ⟨_, rfl⟩
  obtain ⟨R, hR⟩ : ∃ R, R = rs h.ps (n - 1) := ⟨_, rfl⟩
  rw [← hn, ← hR]
  unfold chk
  rw [← hl, ← hn]
  by_cases g0 : 5 < n
  · rw [if_pos g0]; exact rchk_big h ao cap w hL l n hl hn R hR g0
  rw [if_neg g0]
  by_cases g1 : h.ht < 1
  · rw [if_pos (by simp [g1])]; exact rchk_ht1 h ao cap w hL l n hl hn R hR g0 g1
  by_cases g2 : 1073741824 < h.ht
  · rw [if_pos (by simp [g2])]; exact rchk_ht2 h ao cap w hL l n hl hn R hR g0 g1 g2
  by_cases g3 : h.mi < 0
  · rw [if_pos (by simp [g3])]; exact rchk_mi1 h ao cap w hL l n hl hn R hR g0 g1 g2 g3
  by_cases g4 : 64 ≤ h.mi
  · rw [if_pos (by simp [g4])]; exact rchk_mi2 h ao cap w hL l n hl hn R hR g0 g1 g2 g3 g4
  by_cases g5 : l < 1
  · rw [if_pos (by simp [g5])]; exact rchk_tk1 h ao cap w hL l n hl hn R hR g0 g1 g2 g3 g4 g5
  by_cases g6 : 8 < l
  · rw [if_pos (by simp [g6])]; exact rchk_tk2 h ao cap w hL l n hl hn R hR g0 g1 g2 g3 g4 g5 g6
  by_cases g7 : h.wi < 1
  · rw [if_pos (by simp [g7])]; exact rchk_wi1 h ao cap w hL l n hl hn R hR g0 g1 g2 g3 g4 g5 g6 g7
  by_cases g8 : 15 < h.wi
  · rw [if_pos (by simp [g8])]; exact rchk_wi2 h ao cap w hL l n hl hn R hR g0 g1 g2 g3 g4 g5 g6 g7 g8
  by_cases g9 : h.sa < 0
  · rw [if_pos (by simp [g9])]; exact rchk_sa1 h ao cap w hL l n hl hn R hR g0 g1 g2 g3 g4 g5 g6 g7 g8 g9
  by_cases g10 : 1073741824 < h.sa
  · rw [if_pos (by simp [g10])]; exact rchk_sa2 h ao cap w hL l n hl hn R hR g0 g1 g2 g3 g4 g5 g6 g7 g8 g9 g10
  by_cases g11 : h.pw < 2
  · rw [if_pos (by simp [g11])]; exact rchk_pw1 h ao cap w hL l n hl hn R hR g0 g1 g2 g3 g4 g5 g6 g7 g8 g9 g10 g11
  by_cases g12 : 4611686018427387904 < h.pw
  · rw [if_pos (by simp [g12])]; exact rchk_pw2 h ao cap w hL l n hl hn R hR g0 g1 g2 g3 g4 g5 g6 g7 g8 g9 g10 g11 g12
  by_cases g13 : n < 1
  · rw [if_pos (by simp [g13])]; exact rchk_ps1 h ao cap w hL l n hl hn R hR g0 g1 g2 g3 g4 g5 g6 g7 g8 g9 g10 g11 g12 g13
  by_cases g14 : R = false
  · rw [if_pos (by simp [g14])]; exact rchk_ps2 h ao cap w hL l n hl hn R hR g0 g1 g2 g3 g4 g5 g6 g7 g8 g9 g10 g11 g12 g13 g14
  rw [Bool.not_eq_false] at g14
  rw [if_neg (by rintro (x | x | x | x | x | x | x) <;> rcases x with x | x <;> first | exact absurd x (by assumption) | (have g := g14; rw [x] at g; cases g))]
  exact rchk_ok h ao cap w hL l n hl hn R hR g0 g1 g2 g3 g4 g5 g6 g7 g8 g9 g10 g11 g12 g13 g14
end Go.Proofs.YtiegakeacghnfaaDoor

namespace Go.Proofs.YtiegakeacghnfaaDoor
open Go.RowKit

def nmOf (s : List UInt8) : Nm := ⟨idL s, idL_len s⟩
def ownH (h : Hd (List UInt8)) : Hd Nm := ⟨h.ht, h.mi, h.tk, h.wi, h.pw, h.ps.map nmOf, h.sa⟩
/-- A header at g, a place for a result at r. -/
structure HvSt (W : World) (r g : Nat) (T : TypeId) (C : Array Value) (w : World) : Prop where
  box : w.heap[g]? = some (.cells C T (0, 0))
  m : Below W.heap.size W w
  lo : W.heap.size ≤ r
  lo2 : W.heap.size ≤ g
  ne : r ≠ g
  res : ∃ Z : Array Value, Z.size = 7 ∧ w.heap[r]? = some (.cells Z T (0, 0))
theorem HvSt.put {W w : World} {r g : Nat} {T : TypeId} {C : Array Value} (h : HvSt W r g T C w) (k : Nat) (v : Value) : HvSt W r g T (C.setIfInBounds k v) (w.setCell ⟨g, k, none⟩ v) := by
  have h1 := h.lo
  have h3 := h.lo2
  have h2 := h.ne
  obtain ⟨Z, hz, hZ⟩ := h.res
  refine ⟨heap_setCell_same w g k C T v h.box, ?_, h1, h3, h2, Z, hz, ?_⟩
  · exact h.m.trans (((Mod.refl (· = g) w).setCell (p := ⟨g, k, none⟩) (fun _ => rfl) v).to_below h.m.size (by intro i hi e; omega))
  · rw [Below.heap_setCell _ _ _ _ (by simp only; omega)]; exact hZ
theorem HvSt.cell {W w : World} {r g : Nat} {T : TypeId} {C : Array Value} (h : HvSt W r g T C w) (k : Nat) : w.cell? ⟨g, k, none⟩ = C[k]? := cell_of_row w g k C T (0, 0) h.box
theorem HvSt.froz {W w : World} {r g : Nat} {T : TypeId} {C : Array Value} (h : HvSt W r g T C w) (k : Nat) : w.frozen? ⟨g, k, none⟩ = false := frozen_of_row w g k C T h.box
theorem HvSt.lt {W w : World} {r g : Nat} {T : TypeId} {C : Array Value} (h : HvSt W r g T C w) : g < w.heap.size := (Array.getElem?_eq_some_iff.1 h.box).1
/-- Of what is old only rows above g turn. -/
theorem HvSt.kept {W w w' : World} {r g : Nat} {T : TypeId} {C : Array Value} {S : Nat → Prop} (h : HvSt W r g T C w) (hm : Mod S w w') (hS : ∀ i, S i → g < i ∧ r < i) : HvSt W r g T C w' := by
  obtain ⟨Z, hz, hZ⟩ := h.res
  have h1 := h.lo
  have h3 := h.lo2
  have h2 := h.ne
  exact ⟨(hm.block g h.lt (fun e => by have := hS g e; omega)).trans h.box, h.m.trans (hm.to_below h.m.size (fun i hi e => by have := hS i e; omega)), h1, h3, h2, Z, hz, (hm.block r (Array.getElem?_eq_some_iff.1 hZ).1 (fun e => by have := hS r e; omega)).trans hZ⟩
theorem HvSt.grow {W w w' : World} {r g : Nat} {T : TypeId} {C : Array Value} (h : HvSt W r g T C w) (hb : Below w.heap.size w w') : HvSt W r g T C w' := h.kept (Mod.of_below hb) (fun i hi => ⟨Nat.lt_of_lt_of_le h.lt hi, by obtain ⟨Z, _, hZ⟩ := h.res; exact Nat.lt_of_lt_of_le (Array.getElem?_eq_some_iff.1 hZ).1 hi⟩)

set_option maxRecDepth 20000 in
set_option maxHeartbeats 4000000 in
theorem own_any (h : Hd (List UInt8)) (ao : Option Addr) (cap : Nat) (w : World) (hL : Rd encS w ao h.ps) (hn : h.ps.length ≤ 1000000) :
    Calls Tryd.prog 8 #[.agg (hcells h ao cap)] w fun r w' => ∃ q c, r = .returned (.agg (hcells (ownH h) q c)) ∧ Rw encN 39 w' q c (ownH h).ps ∧ Below w.heap.size w w' ∧ ∀ a, q = some a → w.heap.size ≤ a.block := by
  obtain ⟨ht, mi, tk, wi, pw, ps, sa⟩ := h
  unfold ownH
  unfold hcells
  simp only at hL hn ⊢
  rw [List.length_map]
  obtain ⟨n, hnp⟩ : ∃ n, n = ps.length := ⟨_, rfl⟩
  rw [← hnp] at hn ⊢
  have HL := Lib.hid hL
  obtain ⟨W0, hW0⟩ : ∃ W0, W0 = (w.alloc (.cells #[.int .i64 ht, .int .i64 mi, .string ⟨tk.toArray⟩, .int .i64 wi, .int .u64 (pw : Int), .slice ao n cap, .int .i64 sa] 25)).alloc (.cells #[.int .i64 0, .int .i64 0, .string ⟨#[]⟩, .int .i64 0, .int .u64 0, .slice none 0 0, .int .i64 0] 30) := ⟨_, rfl⟩
  have s0 : W0.heap.size = w.heap.size + 2 := by rw [hW0]; simp
  have b0 : Below w.heap.size w W0 := by rw [hW0]; exact ((Below.refl _ w).alloc (Nat.le_refl _) _).alloc (by simp) _
  have bx0 : W0.heap[w.heap.size]? = some (.cells #[.int .i64 ht, .int .i64 mi, .string ⟨tk.toArray⟩, .int .i64 wi, .int .u64 (pw : Int), .slice ao n cap, .int .i64 sa] 25 (0, 0)) := by rw [hW0, Below.heap_alloc _ _ _ (by simp)]; exact heap_alloc_new w _
  have rs0 : W0.heap[w.heap.size + 1]? = some (.cells #[.int .i64 0, .int .i64 0, .string ⟨#[]⟩, .int .i64 0, .int .u64 0, .slice none 0 0, .int .i64 0] 30 (0, 0)) := by rw [hW0]; have := heap_alloc_new (w.alloc (.cells #[.int .i64 ht, .int .i64 mi, .string ⟨tk.toArray⟩, .int .i64 wi, .int .u64 (pw : Int), .slice ao n cap, .int .i64 sa] 25)) (.cells #[.int .i64 0, .int .i64 0, .string ⟨#[]⟩, .int .i64 0, .int .u64 0, .slice none 0 0, .int .i64 0] 30); simpa using this
  obtain ⟨W3, hW3⟩ : ∃ W3, W3 = W0.alloc (.cells #[.int .i64 ht, .int .i64 mi, .string ⟨tk.toArray⟩, .int .i64 wi, .int .u64 (pw : Int), .slice none 0 0, .int .i64 sa] 30) := ⟨_, rfl⟩
  have b3 : Below W0.heap.size W0 W3 := by rw [hW3]; exact (Below.refl _ _).alloc (Nat.le_refl _) _
  obtain ⟨g, hg⟩ : ∃ g, g = w.heap.size + 1 + 1 := ⟨_, rfl⟩
  have st : HvSt w (w.heap.size + 1) g 30 #[.int .i64 ht, .int .i64 mi, .string ⟨tk.toArray⟩, .int .i64 wi, .int .u64 (pw : Int), .slice none 0 0, .int .i64 sa] W3 := by
    refine ⟨?_, b0.trans (b3.mono b0.size), by omega, by omega, by omega, #[.int .i64 0, .int .i64 0, .string ⟨#[]⟩, .int .i64 0, .int .u64 0, .slice none 0 0, .int .i64 0], rfl, (b3.block _ (by omega)).trans rs0⟩
    rw [hg, hW3, show w.heap.size + 1 + 1 = W0.heap.size by omega]; exact heap_alloc_new W0 _
  rw [hW0] at hW3
  have ST := Lib.hid st
  have HW3 := Lib.hid hW3
  have Hg := Lib.hid hg
  have Hnp := Lib.hid hnp
  clear hL hnp hW0 s0 b0 bx0 rs0 hW3 b3 hg st
  go_enter Tryd.func8, Tryd.ntmps8
  go_wp2_with fail
  rw [← HW3.out, ← Hg.out]
  go_loopw [22] (fun s22 wr => ∃ k q c, k ≤ n ∧ s22 = .int .i64 (k : Int) ∧ Hid (HvSt w (w.heap.size + 1) g 30 #[.int .i64 ht, .int .i64 mi, .string ⟨tk.toArray⟩, .int .i64 wi, .int .u64 (pw : Int), .slice q k c, .int .i64 sa] wr ∧ Rw encN 39 wr q c ((ps.map nmOf).take k) ∧ ∀ a, q = some a → g < a.block)) (fun i _ => n - (intOf i).toNat)
  case atStart => exact ⟨0, none, 0, Nat.zero_le _, rfl, Lib.hid ⟨ST.out, Rw.empty _ _, fun a e => by cases e⟩⟩
  case round =>
    clear ST
    obtain ⟨k, q, c, hk, rfl, hst⟩ := hrel
    by_cases hlt : k < n
    · obtain ⟨st0, rw0, fr0⟩ := hst.out
      clear hst
      have hkp : k < ps.length := by rw [← Hnp.out]; exact hlt
      obtain ⟨bs, off, rfl, hbs, cx⟩ := (HL.out.old st0.m).str k hkp
      have hnx : (ps.map nmOf).take (k + 1) = (ps.map nmOf).take k ++ [nmOf ps[k]] := by rw [List.take_succ_eq_append_getElem (by simpa using hkp), List.getElem_map]
      have hDl : ((ps.map nmOf).take k).length = k := by rw [List.length_take, List.length_map]; omega
      obtain ⟨xx, hx⟩ : ∃ x, x = ps[k] := ⟨_, rfl⟩
      rw [← hx] at cx hnx
      obtain ⟨nm, hnm⟩ : ∃ nm : Nm, nm = nmOf xx := ⟨_, rfl⟩
      have hname : Hid (∀ w, Calls Tryd.prog 19 #[.string ⟨xx.toArray⟩] w fun r w' => r = .returned (.agg (vals nm.1).toArray) ∧ Below w.heap.size w w') := Lib.hid (fun w => by rw [hnm]; exact idof_any xx w)
      rw [← hnm] at hnx
      have Hnx := Lib.hid hnx
      clear hnm hnx hx
      generalize (ps.map nmOf).take k = D at rw0 hDl Hnx
      have HDl := Lib.hid hDl
      have Hst := Lib.hid st0
      have Hrw := Lib.hid rw0
      have Hfr := Lib.hid fr0
      have i0 : (0 : Int) ≤ k := by omega
      have i1 : (k : Int) < n := by omega
      clear hDl st0 rw0 fr0 hkp
      go_wp2_with fail
      clear cx
      have HG0 : Hid ((fun (j : Nat) (x : Value) (w1 : World) => (j ≤ 3 → HvSt w (w.heap.size + 1) g 30 #[.int .i64 ht, .int .i64 mi, .string ⟨tk.toArray⟩, .int .i64 wi, .int .u64 (pw : Int), .slice q k c, .int .i64 sa] w1) ∧ (j ≤ 2 → Rw encN 39 w1 q c D) ∧ (j = 2 → ∃ p, x = .slice (some ⟨p, 0, none⟩) 1 1 ∧ Rd encN w1 (some ⟨p, 0, none⟩) [nm]) ∧ (j = 3 → ∃ q' c', x = .slice q' (k + 1) c' ∧ Rw encN 39 w1 q' c' (D ++ [nm]) ∧ ∀ a, q' = some a → g < a.block) ∧ (j = 4 → ∃ q' c', HvSt w (w.heap.size + 1) g 30 #[.int .i64 ht, .int .i64 mi, .string ⟨tk.toArray⟩, .int .i64 wi, .int .u64 (pw : Int), .slice q' (k + 1) c', .int .i64 sa] w1 ∧ Rw encN 39 w1 q' c' (D ++ [nm]) ∧ ∀ a, q' = some a → g < a.block)) 0 undef wr.drew) := Lib.hid ⟨fun _ => Hst.out.grow ((Below.refl _ _).drew), fun _ => Hrw.out.old ((Below.refl _ _).drew), (fun h => absurd h (by omega)), (fun h => absurd h (by omega)), (fun h => absurd h (by omega))⟩
      clear Hst Hrw
      refine wp_region_chain (fun t v => match t with
        | 26 => v = .pointer (some ⟨g, 5, none⟩)
        | 27 => v = .slice q k c
        | 28 => v = .string ⟨xx.toArray⟩
        | 29 => v = .agg (vals nm.1).toArray
        | 32 => v = .pointer (some ⟨g, 5, none⟩)
        | _ => True) (fun (j : Nat) (x : Value) (w1 : World) => (j ≤ 3 → HvSt w (w.heap.size + 1) g 30 #[.int .i64 ht, .int .i64 mi, .string ⟨tk.toArray⟩, .int .i64 wi, .int .u64 (pw : Int), .slice q k c, .int .i64 sa] w1) ∧ (j ≤ 2 → Rw encN 39 w1 q c D) ∧ (j = 2 → ∃ p, x = .slice (some ⟨p, 0, none⟩) 1 1 ∧ Rd encN w1 (some ⟨p, 0, none⟩) [nm]) ∧ (j = 3 → ∃ q' c', x = .slice q' (k + 1) c' ∧ Rw encN 39 w1 q' c' (D ++ [nm]) ∧ ∀ a, q' = some a → g < a.block) ∧ (j = 4 → ∃ q' c', HvSt w (w.heap.size + 1) g 30 #[.int .i64 ht, .int .i64 mi, .string ⟨tk.toArray⟩, .int .i64 wi, .int .u64 (pw : Int), .slice q' (k + 1) c', .int .i64 sa] w1 ∧ Rw encN 39 w1 q' c' (D ++ [nm]) ∧ ∀ a, q' = some a → g < a.block)) [3, 4, 5, 7] 35 (by kernel_rfl) (by decide +kernel) rfl (by decide +kernel) (by decide) (by decide) HG0.out (by
        refine OweAllC.cons (owesC_val 2 (by decide +kernel) (by decide) rfl rfl fun k' a w1 x hk ha hG hV => ?_) ?_
        · skip
          have h3 := ha.outer 3 (by decide +kernel)
          simp only [Act.eval] at h3
          exact ⟨.pointer (some ⟨g, 5, none⟩), wanted_free rfl, by simp [execOp, go_sem, h3], rfl⟩
        refine OweAllC.cons (owesC_val 2 (by decide +kernel) (by decide) rfl rfl fun k' a w1 x hk ha hG hV => ?_) ?_
        · skip
          have h26 : a.tmps.getD 26 undef = .pointer (some ⟨g, 5, none⟩) := hV.get 26 (by decide +kernel)
          have cc : w1.cell? ⟨g, 5, none⟩ = some (.slice q k c) := (hG.1 (by omega)).cell 5
          exact ⟨.slice q k c, wanted_free rfl, by simp [execOp, go_sem, h26, cc], rfl⟩
        refine OweAllC.cons (owesC_val 0 (by decide +kernel) (by decide) rfl rfl fun k' a w1 x hk ha hG hV => ?_) ?_
        · skip
          have h5 := ha.outer 5 (by decide +kernel)
          simp only [Act.eval] at h5
          exact ⟨.string ⟨xx.toArray⟩, wanted_free rfl, by simp [execOp, go_sem, h5], rfl⟩
        refine OweAllC.cons (owesC_call 0 rfl rfl rfl 19 fun a w1 x ha hG hx hV => ?_) ?_
        · skip
          have h28 : a.tmps.getD 28 undef = .string ⟨xx.toArray⟩ := hV.get 28 (by decide +kernel)
          refine ⟨#[.string ⟨xx.toArray⟩], wanted_free rfl, by simp [go_sem, h28], ?_⟩
          have st1 := hG.1 (by omega)
          have r1 := hG.2.1 (by omega)
          refine (hname.out w1).mono ?_
          rintro r u2 ⟨rfl, hb⟩
          exact ⟨_, rfl, rfl, (fun _ => st1.grow hb), (fun _ => r1.old hb), (fun h => absurd h (by omega)), (fun h => absurd h (by omega)), (fun h => absurd h (by omega))⟩
        refine OweAllC.cons (owesC_mem 1 rfl rfl rfl fun a w1 x ha hG hx hV => ?_) ?_
        · skip
          have h29 : a.tmps.getD 29 undef = .agg (vals nm.1).toArray := hV.get 29 (by decide +kernel)
          have g29 : a.tmps[29]?.getD undef = .agg (vals nm.1).toArray := by simpa using h29
          have st1 := hG.1 (by omega)
          have r1 := hG.2.1 (by omega)
          have hb : Below w1.heap.size w1 (w1.alloc (.cells (vals nm.1).toArray 39)) := (Below.refl _ _).alloc (Nat.le_refl _) _
          have hr : Rd encN (w1.alloc (.cells (vals nm.1).toArray 39)) (some ⟨w1.heap.size, 0, none⟩) [nm] := by have := Rd.made encN w1 39 [nm] (by simp [maxLen]); rw [enc_one] at this; exact this
          exact ⟨_, _, wanted_free rfl, build_name (.tmp 29) rfl nm.1 nm.2 h29, trivial, (fun _ => st1.grow hb), (fun _ => r1.old hb), (fun _ => ⟨_, rfl, hr⟩), (fun h => absurd h (by omega)), (fun h => absurd h (by omega))⟩
        refine OweAllC.cons (owesC_law 2 rfl rfl fun a w1 x ha hG hx hV => ?_) ?_
        · skip
          have h27 : a.tmps.getD 27 undef = .slice q k c := hV.get 27 (by decide +kernel)
          have h30 := hx 1 4 _ 30 rfl rfl rfl rfl
          have st1 := hG.1 (by omega)
          have r1 := hG.2.1 (by omega)
          obtain ⟨p, rfl, hr⟩ := hG.2.2.1 rfl
          refine ⟨wanted_free rfl, fun K hK => ?_⟩
          refine wp_pushR1 encN (.tmp 27) (.tmp 30) 28 39 _ 32 rfl Tryd.underlying28 info_id (id_size (s := zid) rfl) (by decide) q c k D HDl.out h27 r1 (some ⟨p, 0, none⟩) 1 nm h30 hr (by omega) ?_
          rintro q' c' w' ⟨hR, hM, hor⟩
          have hfr : ∀ a, q' = some a → g < a.block := by intro a e; rcases hor a e with h | h; exact Hfr.out a h; have := st1.lt; omega
          have st2 := st1.kept hM (by rintro i ⟨a, e, rfl⟩; have := Hfr.out a e; have := Hg.out; omega)
          exact hK _ _ (fun t ht => by cases ht; trivial) ⟨(fun _ => st2), (fun h => absurd h (by omega)), (fun h => absurd h (by omega)), (fun _ => ⟨q', c', rfl, hR, hfr⟩), (fun h => absurd h (by omega))⟩
        refine OweAllC.cons (owesC_val 3 (by decide +kernel) (by decide) rfl rfl fun k' a w1 x hk ha hG hV => ?_) ?_
        · skip
          have h3 := ha.outer 3 (by decide +kernel)
          simp only [Act.eval] at h3
          exact ⟨.pointer (some ⟨g, 5, none⟩), wanted_free rfl, by simp [execOp, go_sem, h3], rfl⟩
        refine OweAllC.cons (owesC_store 3 rfl rfl rfl fun a w1 x ha hG hx hV => ?_) ?_
        · skip
          have h32 : a.tmps.getD 32 undef = .pointer (some ⟨g, 5, none⟩) := hV.get 32 (by decide +kernel)
          have h31 := hx 2 5 _ 31 rfl rfl rfl rfl
          simp only [Act.eval] at h31
          have st1 := hG.1 (by omega)
          obtain ⟨q', c', rfl, hR, hfr⟩ := hG.2.2.2.1 rfl
          have cc : w1.cell? ⟨g, 5, none⟩ = some (.slice q k c) := st1.cell 5
          have cf := st1.froz 5
          have hR2 : Rw encN 39 (w1.setCell ⟨g, 5, none⟩ (.slice q' (k + 1) c')) q' c' (D ++ [nm]) := hR.kept ((Mod.refl (· = g) w1).setCell (p := ⟨g, 5, none⟩) (fun _ => rfl) _) (fun a e h => by have := hfr a e; omega)
          exact ⟨w1.setCell ⟨g, 5, none⟩ (.slice q' (k + 1) c'), wanted_free rfl, by simp [execOp, go_sem, h32, h31, cc, cf], (fun h => absurd h (by omega)), (fun h => absurd h (by omega)), (fun h => absurd h (by omega)), (fun h => absurd h (by omega)), (fun _ => ⟨q', c', st1.put 5 _, hR2, hfr⟩)⟩
        exact OweAllC.nil
        ) ?_
      intro f wz xz hG hx hv
      first | (rename_i hK; refine hK _ _ ?_; clear hK) | (rename_i hK _; refine hK _ _ ?_; clear hK) | (rename_i hK _ _; refine hK _ _ ?_; clear hK) | (rename_i hK _ _ _; refine hK _ _ ?_; clear hK)
      clear hv hx
      simp only [dsts, puts, List.filterMap_cons, List.filterMap_nil, List.foldl_cons, List.foldl_nil, Act.put, List.setIfInBounds_toArray, List.set_cons_succ, List.set_cons_zero]
      obtain ⟨q', c', st5, rw5, fr5⟩ : ∃ q' c', HvSt w (w.heap.size + 1) g 30 #[.int .i64 ht, .int .i64 mi, .string ⟨tk.toArray⟩, .int .i64 wi, .int .u64 (pw : Int), .slice q' (k + 1) c', .int .i64 sa] wz ∧ Rw encN 39 wz q' c' (D ++ [nm]) ∧ ∀ a, q' = some a → g < a.block := hG.2.2.2.2 rfl
      clear hG HG0
      have S5 : Hid (HvSt w (w.heap.size + 1) g 30 #[.int .i64 ht, .int .i64 mi, .string ⟨tk.toArray⟩, .int .i64 wi, .int .u64 (pw : Int), .slice q' (k + 1) c', .int .i64 sa] wz ∧ Rw encN 39 wz q' c' (D ++ [nm]) ∧ ∀ a, q' = some a → g < a.block) := Lib.hid ⟨st5, rw5, fr5⟩
      clear st5 rw5 fr5
      go_wp2_with fail
      go_roundw
      case rel => exact ⟨k + 1, q', c', by omega, by go_num, Lib.hid (by rw [Hnx.out]; exact S5.out)⟩
      case measure => simp [intOf]; omega
    · obtain rfl : k = n := by omega
      obtain ⟨st0, rw0, fr0⟩ := hst.out
      clear hst
      rw [List.take_of_length_le (by rw [List.length_map, ← Hnp.out]; exact Nat.le_refl _)] at rw0
      have box := st0.box
      obtain ⟨Z, hZs, hZ⟩ := st0.res
      obtain ⟨Y, hY⟩ : ∃ Y : Array Value, Y = #[.int .i64 ht, .int .i64 mi, .string ⟨tk.toArray⟩, .int .i64 wi, .int .u64 (pw : Int), .slice q k c, .int .i64 sa] := ⟨_, rfl⟩
      rw [← hY] at box
      have hYs : Y.size = 7 := by rw [hY]; rfl
      have q3 : (Tryd.prog.info? 30).map (·.size) = some Y.size := by rw [hYs]; exact hinfo
      have q2 : Z.size = Y.size := by rw [hZs, hYs]
      have q4 : ∀ v ∈ Y.toList, v.oneCell' = true := by
        rw [hY]; intro v hv
        simp only [List.mem_cons, List.not_mem_nil, or_false] at hv
        rcases hv with rfl | rfl | rfl | rfl | rfl | rfl | rfl <;> rfl
      have L0 := Lib.hid (setRow_heap wr (w.heap.size + 1) Z Y 30 (0, 0) hZ)
      have hlo := st0.lo
      have hne := st0.ne
      have LM : Hid (Below w.heap.size w (wr.setRow (w.heap.size + 1) Y)) := Lib.hid (st0.m.trans (((Mod.refl (fun _ => False) wr).setRow (g := w.heap.size + 1) Y).to_below st0.m.size (by rintro i hi (h | h) <;> first | exact h | omega)))
      have LR : Hid (Rw encN 39 (wr.setRow (w.heap.size + 1) Y) q c (ps.map nmOf)) := Lib.hid (rw0.kept ((Mod.refl (fun _ => False) wr).setRow (g := w.heap.size + 1) Y) (fun a e h => by have := fr0 a e; have := Hg.out; rcases h with h | h; exact h; omega))
      have Hfr := Lib.hid (fun a (e : q = some a) => by have := fr0 a e; have := Hg.out; (show w.heap.size ≤ a.block); omega)
      have HY := Lib.hid hY
      clear st0 hY rw0 fr0
      go_wp2_with (first | (refine wpList_load_row rfl 30 (.tmp 3) rfl g rfl 30 Y (0, 0) _ box Tryd.underlying30 rfl q3 ?_) | (refine wpList_store_row rfl rfl 30 (.tmp 2) (.tmp 34) rfl (w.heap.size + 1) rfl 30 Z Y rfl hZ q2 q3 q4 ?_))
      exact bodyPost_ret (v := .agg Y) (results_cell_row Tryd.results8 _ _ (w.heap.size + 1) 30 Y (0, 0) _ rfl L0.out Tryd.underlying30 rfl q3) rfl ⟨q, c, by rw [HY.out], LR.out, LM.out, Hfr.out⟩
end Go.Proofs.YtiegakeacghnfaaDoor

namespace Go.Proofs.YtiegakeacghnfaaDoor
open Go.RowKit

theorem rhinfo : (Tryd.prog.info? 25).map (·.size) = some 7 := by kernel_rfl
theorem info_strH : (Tryd.prog.info? 9).map (fun i => (i.zero, i.size, i.bytes)) = some (some (.string ⟨#[]⟩), 1, 16) := by kernel_rfl
def fewH (h : Hd (List UInt8)) : Hd (List UInt8) := ⟨h.ht, h.mi, h.tk.take 10, h.wi, h.pw, (h.ps.take 7).map idL, h.sa⟩

set_option maxRecDepth 20000 in
set_option maxHeartbeats 4000000 in
theorem few_any (h : Hd (List UInt8)) (ao : Option Addr) (cap : Nat) (w : World) (hL : Rd encS w ao h.ps) (hk : (h.tk.length : Int) ≤ 9223372036854775807) :
    Calls Tryd.prog 7 #[.agg (hcells h ao cap)] w fun r w' => ∃ q c, r = .returned (.agg (hcells (fewH h) q c)) ∧ Rw encS 9 w' q c (fewH h).ps ∧ Below w.heap.size w w' ∧ ∀ a, q = some a → w.heap.size ≤ a.block := by
  obtain ⟨ht, mi, tk, wi, pw, ps, sa⟩ := h
  unfold fewH
  unfold hcells
  simp only at hL hk ⊢
  obtain ⟨n, hnp⟩ : ∃ n, n = ps.length := ⟨_, rfl⟩
  rw [← hnp]
  have HL := Lib.hid hL
  obtain ⟨W0, hW0⟩ : ∃ W0, W0 = (w.alloc (.cells #[.int .i64 ht, .int .i64 mi, .string ⟨tk.toArray⟩, .int .i64 wi, .int .u64 (pw : Int), .slice ao n cap, .int .i64 sa] 25)).alloc (.cells #[.int .i64 0, .int .i64 0, .string ⟨#[]⟩, .int .i64 0, .int .u64 0, .slice none 0 0, .int .i64 0] 25) := ⟨_, rfl⟩
  have b0 : Below w.heap.size w W0 := by rw [hW0]; exact ((Below.refl _ w).alloc (Nat.le_refl _) _).alloc (by simp) _
  have bx0 : W0.heap[w.heap.size]? = some (.cells #[.int .i64 ht, .int .i64 mi, .string ⟨tk.toArray⟩, .int .i64 wi, .int .u64 (pw : Int), .slice ao n cap, .int .i64 sa] 25 (0, 0)) := by rw [hW0, Below.heap_alloc _ _ _ (by simp)]; exact heap_alloc_new w _
  have rs0 : W0.heap[w.heap.size + 1]? = some (.cells #[.int .i64 0, .int .i64 0, .string ⟨#[]⟩, .int .i64 0, .int .u64 0, .slice none 0 0, .int .i64 0] 25 (0, 0)) := by rw [hW0]; have := heap_alloc_new (w.alloc (.cells #[.int .i64 ht, .int .i64 mi, .string ⟨tk.toArray⟩, .int .i64 wi, .int .u64 (pw : Int), .slice ao n cap, .int .i64 sa] 25)) (.cells #[.int .i64 0, .int .i64 0, .string ⟨#[]⟩, .int .i64 0, .int .u64 0, .slice none 0 0, .int .i64 0] 25); simpa using this
  have st : HvSt w (w.heap.size + 1) w.heap.size 25 #[.int .i64 ht, .int .i64 mi, .string ⟨tk.toArray⟩, .int .i64 wi, .int .u64 (pw : Int), .slice ao n cap, .int .i64 sa] W0 := ⟨bx0, b0, by omega, by omega, by omega, #[.int .i64 0, .int .i64 0, .string ⟨#[]⟩, .int .i64 0, .int .u64 0, .slice none 0 0, .int .i64 0], rfl, rs0⟩
  have hcut : Hid (∀ w, Calls Tryd.prog 25 #[.string ⟨tk.toArray⟩, .int .i64 10] w fun r w' => r = .returned (.string ⟨(tk.take 10).toArray⟩) ∧ w = w') := Lib.hid (fun w => cut_any tk 10 w hk (by omega))
  obtain ⟨tk2, htk⟩ : ∃ t, t = tk.take 10 := ⟨_, rfl⟩
  obtain ⟨P7, hP7⟩ : ∃ P, P = (ps.take 7).map idL := ⟨_, rfl⟩
  rw [← htk] at hcut ⊢
  rw [← hP7]
  have HP7 := Lib.hid hP7
  clear hP7
  have HW0 := Lib.hid hW0
  have Hnp := Lib.hid hnp
  clear hL hnp hW0 b0 bx0 rs0 htk hk
  go_enter Tryd.func7, Tryd.ntmps7
  go_wp2_with fail
  rw [← HW0.out]
  refine (hcut.out W0).mono ?_
  rintro r w1 ⟨rfl, rfl⟩
  have c2 : W0.cell? ⟨w.heap.size, 2, none⟩ = some (.string ⟨tk.toArray⟩) := st.cell 2
  have f2 := st.froz 2
  have st2 : HvSt w (w.heap.size + 1) w.heap.size 25 #[.int .i64 ht, .int .i64 mi, .string ⟨tk2.toArray⟩, .int .i64 wi, .int .u64 (pw : Int), .slice ao n cap, .int .i64 sa] (W0.setCell ⟨w.heap.size, 2, none⟩ (.string ⟨tk2.toArray⟩)) := st.put 2 _
  have ST := Lib.hid st2
  clear st st2 hcut
  go_wp2_with fail
  clear c2 f2
  go_loopw [3, 4] (fun s3 s4 wr => ∃ k q c, k ≤ n ∧ k ≤ 7 ∧ s3 = .slice q k c ∧ s4 = .int .i64 (k : Int) ∧ Hid (HvSt w (w.heap.size + 1) w.heap.size 25 #[.int .i64 ht, .int .i64 mi, .string ⟨tk2.toArray⟩, .int .i64 wi, .int .u64 (pw : Int), .slice ao n cap, .int .i64 sa] wr ∧ Rw encS 9 wr q c ((ps.map idL).take k) ∧ ∀ a, q = some a → w.heap.size + 1 < a.block)) (fun _ i _ => 7 - (intOf i).toNat)
  case atStart => exact ⟨0, none, 0, Nat.zero_le _, by omega, rfl, rfl, Lib.hid ⟨ST.out, Rw.empty _ _, fun a e => by cases e⟩⟩
  case round =>
    clear ST
    obtain ⟨k, q, c, hk, hk7, rfl, rfl, hst⟩ := hrel
    by_cases hlt : k < n
    · by_cases hl7 : k < 7
      · obtain ⟨st0, rw0, fr0⟩ := hst.out
        clear hst
        have hkp : k < ps.length := by rw [← Hnp.out]; exact hlt
        obtain ⟨bs, off, rfl, hbs, cx⟩ := (HL.out.old st0.m).str k hkp
        have c5 : wr.cell? ⟨w.heap.size, 5, none⟩ = some (.slice (some ⟨bs, off, none⟩) n cap) := st0.cell 5
        have hnx : (ps.map idL).take (k + 1) = (ps.map idL).take k ++ [idL ps[k]] := by rw [List.take_succ_eq_append_getElem (by simpa using hkp), List.getElem_map]
        have hDl : ((ps.map idL).take k).length = k := by rw [List.length_take, List.length_map]; omega
        obtain ⟨xx, hx⟩ : ∃ x, x = ps[k] := ⟨_, rfl⟩
        rw [← hx] at cx hnx
        have hyl := idL_len xx
        have hidof : Hid (∀ w, Calls Tryd.prog 19 #[.string ⟨xx.toArray⟩] w fun r w' => r = .returned (.agg (vals (idL xx)).toArray) ∧ Below w.heap.size w w') := Lib.hid (fun w => idof_any xx w)
        generalize idL xx = y at hnx hyl hidof
        generalize (ps.map idL).take k = D at rw0 hDl hnx
        have Hnx := Lib.hid hnx
        have HDl := Lib.hid hDl
        have Hst := Lib.hid st0
        have Hrw := Lib.hid rw0
        have Hfr := Lib.hid fr0
        have Hyl := Lib.hid hyl
        have i0 : (0 : Int) ≤ k := by omega
        have i1 : (k : Int) < n := by omega
        have i7 : (k : Int) < 7 := by omega
        clear hnx hDl st0 rw0 fr0 hkp hx hyl
        go_wp2_with fail
        refine (hidof.out wr).mono ?_
        rintro r w2 ⟨rfl, hb2⟩
        clear cx c5 hidof
        have hz := zid_run
        have q2 := zid_len.trans (id_size Hyl.out).symm
        have q3 := id_info Hyl.out
        have q4 := id_one y
        have hI := IdAt.stored (w := w2) (A := (vals zid).toArray) Hyl.out
        have hBz := stored_below (w := w2) (A := (vals zid).toArray) (C := (vals y).toArray) (T := 39)
        have htx := Lib.hid hI.text
        have HB := Lib.hid (hb2.trans (hBz.mono hb2.size))
        clear hI hBz hb2
        generalize (vals zid).toArray = ZA at hz q2 htx HB
        go_upto_region 7 with (refine wpList_store_row rfl rfl 39 (.tmp 5) (.tmp 26) rfl w2.heap.size rfl 39 ZA (vals y).toArray rfl (heap_alloc_new _ _) q2 q3 q4 ?_)
        have htc := htx.out
        generalize (w2.alloc (.cells ZA 39)).setRow w2.heap.size (vals y).toArray = W3 at htc HB ⊢
        clear htx hz q2 q3 q4
        have hY : Rd encS (W3.alloc (.cells #[.string ⟨y.toArray⟩] 9)) (some ⟨W3.heap.size, 0, none⟩) [y] := Rd.made encS W3 9 [y] (by simp [maxLen])
        have hb3 := HB.out.trans (((Below.refl _ W3).alloc (Nat.le_refl _) (.cells #[.string ⟨y.toArray⟩] 9)).mono HB.out.size)
        have st4 := Lib.hid (Hst.out.grow hb3)
        have rw4 := Hrw.out.old hb3
        clear hb3 Hst Hrw
        go_wp2_with (at_builtin; refine wpList_pushR encS rfl _ _ 23 9 (.string ⟨#[]⟩) 16 rfl Tryd.underlying23 info_strH rfl (by decide) q c k D HDl.out rfl rw4 (some ⟨W3.heap.size, 0, none⟩) 1 1 [y] rfl rfl hY (by omega) ?_; intro q' c' W5 hP)
        have S5 : Hid (HvSt w (w.heap.size + 1) w.heap.size 25 #[.int .i64 ht, .int .i64 mi, .string ⟨tk2.toArray⟩, .int .i64 wi, .int .u64 (pw : Int), .slice (some ⟨bs, off, none⟩) n cap, .int .i64 sa] W5 ∧ Rw encS 9 W5 q' c' (D ++ [y]) ∧ ∀ a, q' = some a → w.heap.size + 1 < a.block) := Lib.hid (by
          obtain ⟨hR, hM, hor⟩ := hP
          refine ⟨st4.out.kept hM (by rintro i ⟨a, e, rfl⟩; have := Hfr.out a e; omega), hR, ?_⟩
          intro a e
          rcases hor a e with h | h
          · exact Hfr.out a h
          · obtain ⟨Z, _, hZ⟩ := st4.out.res
            exact Nat.lt_of_lt_of_le (Array.getElem?_eq_some_iff.1 hZ).1 h)
        clear hP hY rw4 st4 htc
        go_wp2_with fail
        go_roundw
        case rel => exact ⟨k + 1, q', c', by omega, by omega, rfl, by go_num, Lib.hid (by rw [Hnx.out]; exact S5.out)⟩
        case measure => simp [intOf]; omega
      · have i1 : (k : Int) < n := by omega
        have i7 : ¬ (k : Int) < 7 := by omega
        obtain ⟨st0, rw0, fr0⟩ := hst.out
        clear hst
        have c5 : wr.cell? ⟨w.heap.size, 5, none⟩ = some (.slice ao n cap) := st0.cell 5
        have f5 := st0.froz 5
        have st3 : HvSt w (w.heap.size + 1) w.heap.size 25 #[.int .i64 ht, .int .i64 mi, .string ⟨tk2.toArray⟩, .int .i64 wi, .int .u64 (pw : Int), .slice q k c, .int .i64 sa] (wr.setCell ⟨w.heap.size, 5, none⟩ (.slice q k c)) := st0.put 5 _
        have rw3 : Rw encS 9 (wr.setCell ⟨w.heap.size, 5, none⟩ (.slice q k c)) q c ((ps.map idL).take k) := rw0.kept ((Mod.refl (· = w.heap.size) wr).setCell (p := ⟨w.heap.size, 5, none⟩) (fun _ => rfl) _) (fun a e h => by have := fr0 a e; omega)
        obtain ⟨W9, hW9⟩ : ∃ W, W = wr.setCell ⟨w.heap.size, 5, none⟩ (.slice q k c) := ⟨_, rfl⟩
        rw [← hW9] at st3 rw3
        have box := st3.box
        obtain ⟨Z, hZs, hZ⟩ := st3.res
        obtain ⟨Y, hY⟩ : ∃ Y : Array Value, Y = #[.int .i64 ht, .int .i64 mi, .string ⟨tk2.toArray⟩, .int .i64 wi, .int .u64 (pw : Int), .slice q k c, .int .i64 sa] := ⟨_, rfl⟩
        rw [← hY] at box
        have hYs : Y.size = 7 := by rw [hY]; rfl
        have q3 : (Tryd.prog.info? 25).map (·.size) = some Y.size := by rw [hYs]; exact rhinfo
        have q2 : Z.size = Y.size := by rw [hZs, hYs]
        have q4 : ∀ v ∈ Y.toList, v.oneCell' = true := by
          rw [hY]; intro v hv
          simp only [List.mem_cons, List.not_mem_nil, or_false] at hv
          rcases hv with rfl | rfl | rfl | rfl | rfl | rfl | rfl <;> rfl
        have L0 := Lib.hid (setRow_heap W9 (w.heap.size + 1) Z Y 25 (0, 0) hZ)
        have LM : Hid (Below w.heap.size w (W9.setRow (w.heap.size + 1) Y)) := Lib.hid (st3.m.trans (((Mod.refl (fun _ => False) W9).setRow (g := w.heap.size + 1) Y).to_below st3.m.size (by rintro i hi (h | h) <;> first | exact h | omega)))
        have LR : Hid (Rw encS 9 (W9.setRow (w.heap.size + 1) Y) q c ((ps.map idL).take k)) := Lib.hid (rw3.kept ((Mod.refl (fun _ => False) W9).setRow (g := w.heap.size + 1) Y) (fun a e h => by have := fr0 a e; rcases h with h | h; exact h; omega))
        have Hfr := Lib.hid (fun a (e : q = some a) => by have := fr0 a e; (show w.heap.size ≤ a.block); omega)
        have HY := Lib.hid hY
        have hke : Hid ((ps.map idL).take k = P7 ∧ k = P7.length) := Lib.hid (by rw [HP7.out, List.length_map, List.map_take]; have e := Hnp.out; refine ⟨?_, by rw [List.length_take]; omega⟩; by_cases h7 : k = 7; rw [h7]; rw [List.take_of_length_le (by rw [List.length_map]; omega), List.take_of_length_le (by rw [List.length_map]; omega)])
        have HW9 := Lib.hid hW9
        clear st0 st3 hY rw0 rw3 fr0 hW9
        go_wp2_with (first | (rw [← HW9.out]; refine wpList_load_row rfl 25 (.tmp 1) rfl w.heap.size rfl 25 Y (0, 0) _ box Tryd.underlying25 rfl q3 ?_) | (refine wpList_store_row rfl rfl 25 (.tmp 2) (.tmp 34) rfl (w.heap.size + 1) rfl 25 Z Y rfl hZ q2 q3 q4 ?_))
        exact bodyPost_ret (v := .agg Y) (results_cell_row Tryd.results7 _ _ (w.heap.size + 1) 25 Y (0, 0) _ rfl L0.out Tryd.underlying25 rfl q3) rfl ⟨q, c, by rw [HY.out, ← hke.out.2], by rw [← hke.out.1]; exact LR.out, LM.out, Hfr.out⟩
    · have i1 : ¬ (k : Int) < n := by omega
      obtain ⟨st0, rw0, fr0⟩ := hst.out
      clear hst
      have c5 : wr.cell? ⟨w.heap.size, 5, none⟩ = some (.slice ao n cap) := st0.cell 5
      have f5 := st0.froz 5
      have st3 : HvSt w (w.heap.size + 1) w.heap.size 25 #[.int .i64 ht, .int .i64 mi, .string ⟨tk2.toArray⟩, .int .i64 wi, .int .u64 (pw : Int), .slice q k c, .int .i64 sa] (wr.setCell ⟨w.heap.size, 5, none⟩ (.slice q k c)) := st0.put 5 _
      have rw3 : Rw encS 9 (wr.setCell ⟨w.heap.size, 5, none⟩ (.slice q k c)) q c ((ps.map idL).take k) := rw0.kept ((Mod.refl (· = w.heap.size) wr).setCell (p := ⟨w.heap.size, 5, none⟩) (fun _ => rfl) _) (fun a e h => by have := fr0 a e; omega)
      obtain ⟨W9, hW9⟩ : ∃ W, W = wr.setCell ⟨w.heap.size, 5, none⟩ (.slice q k c) := ⟨_, rfl⟩
      rw [← hW9] at st3 rw3
      have box := st3.box
      obtain ⟨Z, hZs, hZ⟩ := st3.res
      obtain ⟨Y, hY⟩ : ∃ Y : Array Value, Y = #[.int .i64 ht, .int .i64 mi, .string ⟨tk2.toArray⟩, .int .i64 wi, .int .u64 (pw : Int), .slice q k c, .int .i64 sa] := ⟨_, rfl⟩
      rw [← hY] at box
      have hYs : Y.size = 7 := by rw [hY]; rfl
      have q3 : (Tryd.prog.info? 25).map (·.size) = some Y.size := by rw [hYs]; exact rhinfo
      have q2 : Z.size = Y.size := by rw [hZs, hYs]
      have q4 : ∀ v ∈ Y.toList, v.oneCell' = true := by
        rw [hY]; intro v hv
        simp only [List.mem_cons, List.not_mem_nil, or_false] at hv
        rcases hv with rfl | rfl | rfl | rfl | rfl | rfl | rfl <;> rfl
      have L0 := Lib.hid (setRow_heap W9 (w.heap.size + 1) Z Y 25 (0, 0) hZ)
      have LM : Hid (Below w.heap.size w (W9.setRow (w.heap.size + 1) Y)) := Lib.hid (st3.m.trans (((Mod.refl (fun _ => False) W9).setRow (g := w.heap.size + 1) Y).to_below st3.m.size (by rintro i hi (h | h) <;> first | exact h | omega)))
      have LR : Hid (Rw encS 9 (W9.setRow (w.heap.size + 1) Y) q c ((ps.map idL).take k)) := Lib.hid (rw3.kept ((Mod.refl (fun _ => False) W9).setRow (g := w.heap.size + 1) Y) (fun a e h => by have := fr0 a e; rcases h with h | h; exact h; omega))
      have Hfr := Lib.hid (fun a (e : q = some a) => by have := fr0 a e; (show w.heap.size ≤ a.block); omega)
      have HY := Lib.hid hY
      have hke : Hid ((ps.map idL).take k = P7 ∧ k = P7.length) := Lib.hid (by rw [HP7.out, List.length_map, List.map_take]; have e := Hnp.out; refine ⟨?_, by rw [List.length_take]; omega⟩; by_cases h7 : k = 7; rw [h7]; rw [List.take_of_length_le (by rw [List.length_map]; omega), List.take_of_length_le (by rw [List.length_map]; omega)])
      have HW9 := Lib.hid hW9
      clear st0 st3 hY rw0 rw3 fr0 hW9
      go_wp2_with (first | (rw [← HW9.out]; refine wpList_load_row rfl 25 (.tmp 1) rfl w.heap.size rfl 25 Y (0, 0) _ box Tryd.underlying25 rfl q3 ?_) | (refine wpList_store_row rfl rfl 25 (.tmp 2) (.tmp 34) rfl (w.heap.size + 1) rfl 25 Z Y rfl hZ q2 q3 q4 ?_))
      exact bodyPost_ret (v := .agg Y) (results_cell_row Tryd.results7 _ _ (w.heap.size + 1) 25 Y (0, 0) _ rfl L0.out Tryd.underlying25 rfl q3) rfl ⟨q, c, by rw [HY.out, ← hke.out.2], by rw [← hke.out.1]; exact LR.out, LM.out, Hfr.out⟩
end Go.Proofs.YtiegakeacghnfaaDoor

namespace Go.Proofs.YtiegakeacghnfaaDoor
open Go.RowKit

theorem id_neq (x y : List UInt8) (hx : x.length = 32) (hy : y.length = 32) (w : World) : (binOp .neq 39 (.agg (vals x).toArray) (.agg (vals y).toArray)).run Tryd.prog w = .ok (.bool (!(x == y))) w := by
  have h := id_eql x y hx hy w
  simp only [binOp, Sem.run_bind] at h ⊢
  cases hr : (Op.equal 39 (.agg (vals x).toArray) (.agg (vals y).toArray)).run Tryd.prog w with
  | ok b w1 =>
    rw [hr] at h
    simp only [Result.andThen_ok, Sem.run_pure, Result.ok.injEq, Value.bool.injEq] at h ⊢
    exact ⟨by rw [h.1], h.2⟩
  | _ => rw [hr] at h; simp [Result.andThen] at h
open Classical in
noncomputable def sameB (H : Hd Nm) (X : Hd (List UInt8)) : Bool := decide (H = ownH X)
theorem sameB_iff (H : Hd Nm) (X : Hd (List UInt8)) : sameB H X = true ↔ H = ownH X := by unfold sameB; exact @decide_eq_true_iff _ (Classical.propDecidable _)
theorem Hd.ext_iff' {α : Type} (a b : Hd α) : a = b ↔ a.ht = b.ht ∧ a.mi = b.mi ∧ a.tk = b.tk ∧ a.wi = b.wi ∧ a.pw = b.pw ∧ a.sa = b.sa ∧ a.ps = b.ps := by
  cases a; cases b; simp only [Hd.mk.injEq]
  exact ⟨fun ⟨a, b, c, d, e, f, g⟩ => ⟨a, b, c, d, e, g, f⟩, fun ⟨a, b, c, d, e, f, g⟩ => ⟨a, b, c, d, e, g, f⟩⟩
theorem names_eq (L : List Nm) (M : List (List UInt8)) : L = M.map nmOf ↔ L.map (·.1) = M.map idL := by
  constructor
  · rintro rfl; rw [List.map_map]; rfl
  · intro h
    induction L generalizing M with
    | nil => cases M with
      | nil => rfl
      | cons a m => simp at h
    | cons x l ih => cases M with
      | nil => simp at h
      | cons a m =>
        simp only [List.map_cons, List.cons.injEq] at h ⊢
        exact ⟨Subtype.ext h.1, ih m h.2⟩

set_option maxRecDepth 20000 in
set_option maxHeartbeats 2000000 in
theorem same_ht (ht mi wi sa : Int) (tk : List UInt8) (pw : Nat) (ht' : Int) (mi' : Int) (tk' : List UInt8) (wi' : Int) (pw' : Nat) (sa' : Int) (q ao : Option Addr) (n m c cap : Nat) (w : World) (hne : ht ≠ ht') :
    Calls Tryd.prog 15 #[.agg #[.int .i64 ht, .int .i64 mi, .string ⟨tk.toArray⟩, .int .i64 wi, .int .u64 (pw : Int), .slice q n c, .int .i64 sa], .agg #[.int .i64 ht', .int .i64 mi', .string ⟨tk'.toArray⟩, .int .i64 wi', .int .u64 (pw' : Int), .slice ao m cap, .int .i64 sa']] w fun r w' => r = .returned (.bool false) ∧ Below w.heap.size w w' := by
  have x1 : (ht == ht') = false := beq_eq_false_iff_ne.2 hne
  have x2 : (ht != ht') = true := by rw [bne_iff_ne]; exact hne
  have hb : Below w.heap.size w ((w.alloc (.cells #[.int .i64 ht, .int .i64 mi, .string ⟨tk.toArray⟩, .int .i64 wi, .int .u64 (pw : Int), .slice q n c, .int .i64 sa] 30)).alloc (.cells #[.int .i64 ht', .int .i64 mi', .string ⟨tk'.toArray⟩, .int .i64 wi', .int .u64 (pw' : Int), .slice ao m cap, .int .i64 sa'] 25)) := ((Below.refl _ w).alloc (Nat.le_refl _) _).alloc (by simp) _
  clear hne
  go_enter Tryd.func15, Tryd.ntmps15
  go_wp2_with fail
  go_ret
  exact ⟨rfl, hb⟩
set_option maxRecDepth 20000 in
set_option maxHeartbeats 2000000 in
theorem same_mi (ht mi wi sa : Int) (tk : List UInt8) (pw : Nat) (mi' : Int) (tk' : List UInt8) (wi' : Int) (pw' : Nat) (sa' : Int) (q ao : Option Addr) (n m c cap : Nat) (w : World) (hne : mi ≠ mi') :
    Calls Tryd.prog 15 #[.agg #[.int .i64 ht, .int .i64 mi, .string ⟨tk.toArray⟩, .int .i64 wi, .int .u64 (pw : Int), .slice q n c, .int .i64 sa], .agg #[.int .i64 ht, .int .i64 mi', .string ⟨tk'.toArray⟩, .int .i64 wi', .int .u64 (pw' : Int), .slice ao m cap, .int .i64 sa']] w fun r w' => r = .returned (.bool false) ∧ Below w.heap.size w w' := by
  have x1 : (mi == mi') = false := beq_eq_false_iff_ne.2 hne
  have x2 : (mi != mi') = true := by rw [bne_iff_ne]; exact hne
  have hb : Below w.heap.size w ((w.alloc (.cells #[.int .i64 ht, .int .i64 mi, .string ⟨tk.toArray⟩, .int .i64 wi, .int .u64 (pw : Int), .slice q n c, .int .i64 sa] 30)).alloc (.cells #[.int .i64 ht, .int .i64 mi', .string ⟨tk'.toArray⟩, .int .i64 wi', .int .u64 (pw' : Int), .slice ao m cap, .int .i64 sa'] 25)) := ((Below.refl _ w).alloc (Nat.le_refl _) _).alloc (by simp) _
  clear hne
  go_enter Tryd.func15, Tryd.ntmps15
  go_wp2_with fail
  go_ret
  exact ⟨rfl, hb⟩
set_option maxRecDepth 20000 in
set_option maxHeartbeats 2000000 in
theorem same_tk (ht mi wi sa : Int) (tk : List UInt8) (pw : Nat) (tk' : List UInt8) (wi' : Int) (pw' : Nat) (sa' : Int) (q ao : Option Addr) (n m c cap : Nat) (w : World) (hne : tk ≠ tk') :
    Calls Tryd.prog 15 #[.agg #[.int .i64 ht, .int .i64 mi, .string ⟨tk.toArray⟩, .int .i64 wi, .int .u64 (pw : Int), .slice q n c, .int .i64 sa], .agg #[.int .i64 ht, .int .i64 mi, .string ⟨tk'.toArray⟩, .int .i64 wi', .int .u64 (pw' : Int), .slice ao m cap, .int .i64 sa']] w fun r w' => r = .returned (.bool false) ∧ Below w.heap.size w w' := by
  have x1 : (tk == tk') = false := beq_eq_false_iff_ne.2 hne
  have x2 : (tk != tk') = true := by simp [hne]
  have hb : Below w.heap.size w ((w.alloc (.cells #[.int .i64 ht, .int .i64 mi, .string ⟨tk.toArray⟩, .int .i64 wi, .int .u64 (pw : Int), .slice q n c, .int .i64 sa] 30)).alloc (.cells #[.int .i64 ht, .int .i64 mi, .string ⟨tk'.toArray⟩, .int .i64 wi', .int .u64 (pw' : Int), .slice ao m cap, .int .i64 sa'] 25)) := ((Below.refl _ w).alloc (Nat.le_refl _) _).alloc (by simp) _
  clear hne
  go_enter Tryd.func15, Tryd.ntmps15
  go_wp2_with fail
  go_ret
  exact ⟨rfl, hb⟩
set_option maxRecDepth 20000 in
set_option maxHeartbeats 2000000 in
theorem same_wi (ht mi wi sa : Int) (tk : List UInt8) (pw : Nat) (wi' : Int) (pw' : Nat) (sa' : Int) (q ao : Option Addr) (n m c cap : Nat) (w : World) (hne : wi ≠ wi') :
    Calls Tryd.prog 15 #[.agg #[.int .i64 ht, .int .i64 mi, .string ⟨tk.toArray⟩, .int .i64 wi, .int .u64 (pw : Int), .slice q n c, .int .i64 sa], .agg #[.int .i64 ht, .int .i64 mi, .string ⟨tk.toArray⟩, .int .i64 wi', .int .u64 (pw' : Int), .slice ao m cap, .int .i64 sa']] w fun r w' => r = .returned (.bool false) ∧ Below w.heap.size w w' := by
  have x1 : (wi == wi') = false := beq_eq_false_iff_ne.2 hne
  have x2 : (wi != wi') = true := by rw [bne_iff_ne]; exact hne
  have hb : Below w.heap.size w ((w.alloc (.cells #[.int .i64 ht, .int .i64 mi, .string ⟨tk.toArray⟩, .int .i64 wi, .int .u64 (pw : Int), .slice q n c, .int .i64 sa] 30)).alloc (.cells #[.int .i64 ht, .int .i64 mi, .string ⟨tk.toArray⟩, .int .i64 wi', .int .u64 (pw' : Int), .slice ao m cap, .int .i64 sa'] 25)) := ((Below.refl _ w).alloc (Nat.le_refl _) _).alloc (by simp) _
  clear hne
  go_enter Tryd.func15, Tryd.ntmps15
  go_wp2_with fail
  go_ret
  exact ⟨rfl, hb⟩
set_option maxRecDepth 20000 in
set_option maxHeartbeats 2000000 in
theorem same_pw (ht mi wi sa : Int) (tk : List UInt8) (pw : Nat) (pw' : Nat) (sa' : Int) (q ao : Option Addr) (n m c cap : Nat) (w : World) (hne : pw ≠ pw') :
    Calls Tryd.prog 15 #[.agg #[.int .i64 ht, .int .i64 mi, .string ⟨tk.toArray⟩, .int .i64 wi, .int .u64 (pw : Int), .slice q n c, .int .i64 sa], .agg #[.int .i64 ht, .int .i64 mi, .string ⟨tk.toArray⟩, .int .i64 wi, .int .u64 (pw' : Int), .slice ao m cap, .int .i64 sa']] w fun r w' => r = .returned (.bool false) ∧ Below w.heap.size w w' := by
  have x1 : ((pw : Int) == (pw' : Int)) = false := beq_eq_false_iff_ne.2 (by omega)
  have x2 : ((pw : Int) != (pw' : Int)) = true := by rw [bne_iff_ne]; omega
  have hb : Below w.heap.size w ((w.alloc (.cells #[.int .i64 ht, .int .i64 mi, .string ⟨tk.toArray⟩, .int .i64 wi, .int .u64 (pw : Int), .slice q n c, .int .i64 sa] 30)).alloc (.cells #[.int .i64 ht, .int .i64 mi, .string ⟨tk.toArray⟩, .int .i64 wi, .int .u64 (pw' : Int), .slice ao m cap, .int .i64 sa'] 25)) := ((Below.refl _ w).alloc (Nat.le_refl _) _).alloc (by simp) _
  clear hne
  go_enter Tryd.func15, Tryd.ntmps15
  go_wp2_with fail
  go_ret
  exact ⟨rfl, hb⟩
set_option maxRecDepth 20000 in
set_option maxHeartbeats 2000000 in
theorem same_sa (ht mi wi sa : Int) (tk : List UInt8) (pw : Nat) (sa' : Int) (q ao : Option Addr) (n m c cap : Nat) (w : World) (hne : sa ≠ sa') :
    Calls Tryd.prog 15 #[.agg #[.int .i64 ht, .int .i64 mi, .string ⟨tk.toArray⟩, .int .i64 wi, .int .u64 (pw : Int), .slice q n c, .int .i64 sa], .agg #[.int .i64 ht, .int .i64 mi, .string ⟨tk.toArray⟩, .int .i64 wi, .int .u64 (pw : Int), .slice ao m cap, .int .i64 sa']] w fun r w' => r = .returned (.bool false) ∧ Below w.heap.size w w' := by
  have x1 : (sa == sa') = false := beq_eq_false_iff_ne.2 hne
  have x2 : (sa != sa') = true := by rw [bne_iff_ne]; exact hne
  have hb : Below w.heap.size w ((w.alloc (.cells #[.int .i64 ht, .int .i64 mi, .string ⟨tk.toArray⟩, .int .i64 wi, .int .u64 (pw : Int), .slice q n c, .int .i64 sa] 30)).alloc (.cells #[.int .i64 ht, .int .i64 mi, .string ⟨tk.toArray⟩, .int .i64 wi, .int .u64 (pw : Int), .slice ao m cap, .int .i64 sa'] 25)) := ((Below.refl _ w).alloc (Nat.le_refl _) _).alloc (by simp) _
  clear hne
  go_enter Tryd.func15, Tryd.ntmps15
  go_wp2_with fail
  go_ret
  exact ⟨rfl, hb⟩
set_option maxRecDepth 20000 in
set_option maxHeartbeats 2000000 in
theorem same_n (ht mi wi sa : Int) (tk : List UInt8) (pw : Nat) (q ao : Option Addr) (n m c cap : Nat) (w : World) (hne : n ≠ m) :
    Calls Tryd.prog 15 #[.agg #[.int .i64 ht, .int .i64 mi, .string ⟨tk.toArray⟩, .int .i64 wi, .int .u64 (pw : Int), .slice q n c, .int .i64 sa], .agg #[.int .i64 ht, .int .i64 mi, .string ⟨tk.toArray⟩, .int .i64 wi, .int .u64 (pw : Int), .slice ao m cap, .int .i64 sa]] w fun r w' => r = .returned (.bool false) ∧ Below w.heap.size w w' := by
  have x1 : ((n : Int) == (m : Int)) = false := beq_eq_false_iff_ne.2 (by omega)
  have x2 : ((n : Int) != (m : Int)) = true := by rw [bne_iff_ne]; omega
  have hb : Below w.heap.size w ((w.alloc (.cells #[.int .i64 ht, .int .i64 mi, .string ⟨tk.toArray⟩, .int .i64 wi, .int .u64 (pw : Int), .slice q n c, .int .i64 sa] 30)).alloc (.cells #[.int .i64 ht, .int .i64 mi, .string ⟨tk.toArray⟩, .int .i64 wi, .int .u64 (pw : Int), .slice ao m cap, .int .i64 sa] 25)) := ((Below.refl _ w).alloc (Nat.le_refl _) _).alloc (by simp) _
  clear hne
  go_enter Tryd.func15, Tryd.ntmps15
  go_wp2_with fail
  go_ret
  exact ⟨rfl, hb⟩
set_option maxRecDepth 20000 in
set_option maxHeartbeats 4000000 in
theorem same_names (ht mi wi sa : Int) (tk : List UInt8) (pw : Nat) (ps : List Nm) (ss : List (List UInt8)) (q ao : Option Addr) (n c cap : Nat) (w : World) (hn : n = ps.length) (hm : n = ss.length) (hQ : Rd encN w q ps) (hL : Rd encS w ao ss) (hn9 : n ≤ 1000000) (RR : Bool) (hRR : RR = decide (ps.map (·.1) = ss.map idL)) :
    Calls Tryd.prog 15 #[.agg #[.int .i64 ht, .int .i64 mi, .string ⟨tk.toArray⟩, .int .i64 wi, .int .u64 (pw : Int), .slice q n c, .int .i64 sa], .agg #[.int .i64 ht, .int .i64 mi, .string ⟨tk.toArray⟩, .int .i64 wi, .int .u64 (pw : Int), .slice ao n cap, .int .i64 sa]] w fun r w' => r = .returned (.bool RR) ∧ Below w.heap.size w w' := by
  obtain ⟨W2, hW2⟩ : ∃ W, W = (w.alloc (.cells #[.int .i64 ht, .int .i64 mi, .string ⟨tk.toArray⟩, .int .i64 wi, .int .u64 (pw : Int), .slice q n c, .int .i64 sa] 30)).alloc (.cells #[.int .i64 ht, .int .i64 mi, .string ⟨tk.toArray⟩, .int .i64 wi, .int .u64 (pw : Int), .slice ao n cap, .int .i64 sa] 25) := ⟨_, rfl⟩
  have hb2 : Below w.heap.size w W2 := by rw [hW2]; exact ((Below.refl _ w).alloc (Nat.le_refl _) _).alloc (by simp) _
  have bx : W2.heap[w.heap.size]? = some (.cells #[.int .i64 ht, .int .i64 mi, .string ⟨tk.toArray⟩, .int .i64 wi, .int .u64 (pw : Int), .slice q n c, .int .i64 sa] 30 (0, 0)) := by rw [hW2, Below.heap_alloc _ _ _ (by simp)]; exact heap_alloc_new w _
  have hQ2 := Lib.hid (hQ.old hb2)
  have hL2 := Lib.hid (hL.old hb2)
  have Hbx : Hid (∀ w', Below W2.heap.size W2 w' → w'.cell? ⟨w.heap.size, 5, none⟩ = some (.slice q n c)) := Lib.hid (fun w' hb => cell_of_row w' w.heap.size 5 #[.int .i64 ht, .int .i64 mi, .string ⟨tk.toArray⟩, .int .i64 wi, .int .u64 (pw : Int), .slice q n c, .int .i64 sa] 30 (0, 0) ((hb.block _ (Array.getElem?_eq_some_iff.1 bx).1).trans bx))
  have Hb2 := Lib.hid hb2
  have HW2 := Lib.hid hW2
  have Hn := Lib.hid hn
  have Hm := Lib.hid hm
  have HRR := Lib.hid hRR
  clear hQ hL hb2 bx hW2 hn hm hRR
  go_enter Tryd.func15, Tryd.ntmps15
  go_wp2_with fail
  rw [← HW2.out]
  go_loopw [59] (fun s59 wr => ∃ k : Nat, k ≤ n ∧ s59 = .int .i64 (k : Int) ∧ Hid ((ps.map (·.1)).take k = (ss.map idL).take k) ∧ Hid (Below W2.heap.size W2 wr)) (fun i _ => n - (intOf i).toNat)
  case atStart => exact ⟨0, by omega, rfl, Lib.hid rfl, Lib.hid (Below.refl _ _)⟩
  case round =>
    obtain ⟨k, hk, rfl, heq, HB⟩ := hrel
    by_cases hlt : k < n
    · have h1 : k < ps.length := by rw [← Hn.out]; exact hlt
      have h2 : k < ss.length := by rw [← Hm.out]; exact hlt
      obtain ⟨bs, off, rfl, hbs, c1⟩ := (hQ2.out.old HB.out) k h1
      obtain ⟨bs', off', rfl, hbs', cx⟩ := (hL2.out.old HB.out).str k h2
      have C1 : Hid (∀ w', Below wr.heap.size wr w' → ∀ i u, (encN.f ps[k])[i]? = some u → w'.cell? ⟨bs, off + k * 32 + i, none⟩ = some u) := Lib.hid (fun w' hb i u hu => (World.cell?_of_block (hb.block bs hbs)).trans (c1 i u hu))
      obtain ⟨y, hy⟩ : ∃ y, y = ps[k] := ⟨_, rfl⟩
      obtain ⟨xx, hx⟩ : ∃ x, x = ss[k] := ⟨_, rfl⟩
      rw [← hy] at C1
      rw [← hx] at cx
      have hyl := y.2
      have hnl := idL_len xx
      have Hsu : Hid ((ps.map (·.1)).take (k + 1) = (ps.map (·.1)).take k ++ [y.1] ∧ (ss.map idL).take (k + 1) = (ss.map idL).take k ++ [idL xx]) := Lib.hid ⟨by rw [List.take_succ_eq_append_getElem (by simpa using h1), List.getElem_map, hy], by rw [List.take_succ_eq_append_getElem (by simpa using h2), List.getElem_map, hx]⟩
      have hidof : Hid (∀ w, Calls Tryd.prog 19 #[.string ⟨xx.toArray⟩] w fun r w' => r = .returned (.agg (vals (idL xx)).toArray) ∧ Below w.heap.size w w') := Lib.hid (fun w => idof_any xx w)
      generalize idL xx = nb at hnl Hsu hidof
      obtain ⟨D, hD⟩ : ∃ D, D = (y.1 == nb) := ⟨_, rfl⟩
      have Hne : Hid (∀ w, (binOp .neq 39 (.agg (vals y.1).toArray) (.agg (vals nb).toArray)).run Tryd.prog w = .ok (.bool (!D)) w) := Lib.hid (fun w => by rw [hD]; exact id_neq y.1 nb hyl hnl w)
      have HD := Lib.hid hD
      have Hbx2 : Hid (∀ w', Below wr.heap.size wr w' → w'.cell? ⟨w.heap.size, 5, none⟩ = some (.slice (some ⟨bs, off, none⟩) n c)) := Lib.hid (fun w' hb => Hbx.out w' (HB.out.trans (hb.mono HB.out.size)))
      have i0 : (0 : Int) ≤ k := by omega
      have i1 : (k : Int) < n := by omega
      clear hy hx c1 hyl hnl hD h1 h2
      go_wp2_with fail
      clear cx
      obtain ⟨g2, hg2⟩ : ∃ g, g = w.heap.size := ⟨_, rfl⟩
      rw [← hg2] at Hbx2 ⊢
      have Hg2 := Lib.hid hg2
      clear hg2
      refine wp_region_puts (fun t v w => VK (match t with
        | 64 => .eq (.pointer (some ⟨g2, 5, none⟩))
        | 65 => .eq (.slice (some ⟨bs, off, none⟩) n c)
        | 66 => .eq (.int .i64 (k : Int))
        | 67 => .eq (.pointer (some ⟨bs, off + k * 32, none⟩))
        | 68 => .eq (.agg (vals y.1).toArray)
        | 69 => .eq (.string ⟨xx.toArray⟩)
        | 70 => .eq (.agg (vals nb).toArray)
        | 71 => .eq (.bool (!D))
        | _ => .any) v w) (fun w' => Below wr.heap.size wr w') 73 (by kernel_rfl) (by decide +kernel) rfl (Below.refl _ _).drew (by
        refine OweAll.cons (owesK rfl rfl fun a w1 ha hG hV => ?_) ?_
        · skip
          have h2 := ha.outer 2 (by decide +kernel)
          simp only [Act.eval] at h2
          exact ⟨.pointer (some ⟨g2, 5, none⟩), w1, wanted_free rfl, by simp [execOp, go_sem, h2], Below.refl _ _, rfl⟩
        refine OweAll.cons (owesK rfl rfl fun a w1 ha hG hV => ?_) ?_
        · skip
          have h64 : a.tmps.getD 64 undef = .pointer (some ⟨g2, 5, none⟩) := hV.get 64 (by decide +kernel)
          have cc := Hbx2.out w1 hG
          exact ⟨.slice (some ⟨bs, off, none⟩) n c, w1, wanted_free rfl, by simp [execOp, go_sem, h64, cc], Below.refl _ _, rfl⟩
        refine OweAll.cons (owesK rfl rfl fun a w1 ha hG hV => ?_) ?_
        · skip
          have h5 := ha.outer 5 (by decide +kernel)
          simp only [Act.eval] at h5
          exact ⟨.int .i64 (k : Int), w1, wanted_free rfl, by simp [execOp, go_sem, h5], Below.refl _ _, rfl⟩
        refine OweAll.cons (owesK rfl rfl fun a w1 ha hG hV => ?_) ?_
        · skip
          have h65 : a.tmps.getD 65 undef = .slice (some ⟨bs, off, none⟩) n c := hV.get 65 (by decide +kernel)
          have h66 : a.tmps.getD 66 undef = .int .i64 (k : Int) := hV.get 66 (by decide +kernel)
          exact ⟨.pointer (some ⟨bs, off + k * 32, none⟩), w1, wanted_free rfl, by simp [execOp, go_sem, h65, h66, i0, i1], Below.refl _ _, rfl⟩
        refine OweAll.cons (owesK rfl rfl fun a w1 ha hG hV => ?_) ?_
        · skip
          have h67 : a.tmps.getD 67 undef = .pointer (some ⟨bs, off + k * 32, none⟩) := hV.get 67 (by decide +kernel)
          exact ⟨.agg (vals y.1).toArray, w1, wanted_free rfl, exec_load_mid (.tmp 67) rfl bs (off + k * 32) h67 y (C1.out w1 hG), Below.refl _ _, rfl⟩
        refine OweAll.cons (owesK rfl rfl fun a w1 ha hG hV => ?_) ?_
        · skip
          have h6 := ha.outer 6 (by decide +kernel)
          simp only [Act.eval] at h6
          exact ⟨.string ⟨xx.toArray⟩, w1, wanted_free rfl, by simp [execOp, go_sem, h6], Below.refl _ _, rfl⟩
        refine OweAll.cons (owesK_call rfl rfl 19 fun a w1 ha hG hV => ?_) ?_
        · skip
          have h69 : a.tmps.getD 69 undef = .string ⟨xx.toArray⟩ := hV.get 69 (by decide +kernel)
          refine ⟨#[.string ⟨xx.toArray⟩], wanted_free rfl, by simp [go_sem, h69], ?_⟩
          refine (hidof.out w1).mono ?_
          rintro r u2 ⟨rfl, hb⟩; exact ⟨_, rfl, rfl, hb⟩
        refine OweAll.cons (owesK rfl rfl fun a w1 ha hG hV => ?_) ?_
        · skip
          have h68 : a.tmps.getD 68 undef = .agg (vals y.1).toArray := hV.get 68 (by decide +kernel)
          have h70 : a.tmps.getD 70 undef = .agg (vals nb).toArray := hV.get 70 (by decide +kernel)
          exact ⟨.bool (!D), w1, wanted_free rfl, by simp [execOp, go_sem, h68, h70, Hne.out], Below.refl _ _, rfl⟩
        exact OweAll.nil
        ) ?_
      intro f wz hG hv
      have e71 : f 71 = .bool (!D) := hv 7 _ 71 rfl rfl
      rename_i hK
      refine hK _ _ ?_
      clear hK hv
      simp only [dsts, puts, List.filterMap_cons, List.filterMap_nil, List.foldl_cons, List.foldl_nil, Act.put, List.setIfInBounds_toArray, List.set_cons_succ, List.set_cons_zero, e71]
      clear e71
      have HG := Lib.hid (HB.out.trans (hG.mono HB.out.size))
      clear hG
      rw [Hg2.out]
      cases D with
      | true =>
        go_wp2_with fail
        go_roundw
        case rel => exact ⟨k + 1, by omega, by go_num, Lib.hid (by rw [Hsu.out.1, Hsu.out.2, heq.out, eq_of_beq HD.out.symm]), HG⟩
        case measure => simp [intOf]; omega
      | false =>
        have hfin : Hid (RR = false) := Lib.hid (by
          rw [HRR.out, decide_eq_false_iff_not]
          intro e
          have e1 := Hsu.out.1
          rw [e, Hsu.out.2] at e1
          have := List.append_cancel_left e1
          simp only [List.cons.injEq, and_true] at this
          have h := HD.out
          rw [this] at h
          simp at h)
        have hfb := Lib.hid (Hb2.out.trans (HG.out.mono Hb2.out.size))
        go_wp2_with fail
        go_ret
        exact ⟨by rw [hfin.out]; rfl, hfb.out⟩
    · have hfin : Hid (RR = true) := Lib.hid (by
        rw [HRR.out, decide_eq_true_iff]
        have h := heq.out
        have e : k = n := by omega
        rw [e, List.take_of_length_le (by rw [List.length_map, ← Hn.out]; exact Nat.le_refl _), List.take_of_length_le (by rw [List.length_map, ← Hm.out]; exact Nat.le_refl _)] at h
        exact h)
      have hfb := Lib.hid (Hb2.out.trans (HB.out.mono Hb2.out.size))
      go_wp2_with fail
      go_ret
      exact ⟨by rw [hfin.out]; rfl, hfb.out⟩
theorem same_any (H : Hd Nm) (X : Hd (List UInt8)) (q ao : Option Addr) (c cap : Nat) (w : World) (hQ : Rd encN w q H.ps) (hL : Rd encS w ao X.ps) (hn : H.ps.length ≤ 1000000) :
    Calls Tryd.prog 15 #[.agg (hcells H q c), .agg (hcells X ao cap)] w fun r w' => r = .returned (.bool (sameB H X)) ∧ Below w.heap.size w w' := by
  have no : ¬ H = ownH X → sameB H X = false := fun h => by rw [Bool.eq_false_iff]; exact fun e => h ((sameB_iff H X).1 e)
  have hi := Hd.ext_iff' H (ownH X)
  obtain ⟨ht, mi, tk, wi, pw, ps, sa⟩ := H
  obtain ⟨ht', mi', tk', wi', pw', ss, sa'⟩ := X
  simp only [ownH] at hi
  simp only at hQ hL hn
  unfold hcells
  simp only
  by_cases e_ht : ht = ht'
  case neg => rw [no (fun e => e_ht (by have := hi.1 e; simp_all))]; exact same_ht ht mi wi sa tk pw ht' mi' tk' wi' pw' sa' q ao ps.length ss.length c cap w e_ht
  subst e_ht
  by_cases e_mi : mi = mi'
  case neg => rw [no (fun e => e_mi (by have := hi.1 e; simp_all))]; exact same_mi ht mi wi sa tk pw mi' tk' wi' pw' sa' q ao ps.length ss.length c cap w e_mi
  subst e_mi
  by_cases e_tk : tk = tk'
  case neg => rw [no (fun e => e_tk (by have := hi.1 e; simp_all))]; exact same_tk ht mi wi sa tk pw tk' wi' pw' sa' q ao ps.length ss.length c cap w e_tk
  subst e_tk
  by_cases e_wi : wi = wi'
  case neg => rw [no (fun e => e_wi (by have := hi.1 e; simp_all))]; exact same_wi ht mi wi sa tk pw wi' pw' sa' q ao ps.length ss.length c cap w e_wi
  subst e_wi
  by_cases e_pw : pw = pw'
  case neg => rw [no (fun e => e_pw (by have := hi.1 e; simp_all))]; exact same_pw ht mi wi sa tk pw pw' sa' q ao ps.length ss.length c cap w e_pw
  subst e_pw
  by_cases e_sa : sa = sa'
  case neg => rw [no (fun e => e_sa (by have := hi.1 e; simp_all))]; exact same_sa ht mi wi sa tk pw sa' q ao ps.length ss.length c cap w e_sa
  subst e_sa
  by_cases el : ps.length = ss.length
  case neg => rw [no (fun e => el (by have := hi.1 e; rw [this.2.2.2.2.2.2, List.length_map]))]; exact same_n ht mi wi sa tk pw q ao ps.length ss.length c cap w el
  have := same_names ht mi wi sa tk pw ps ss q ao ps.length c cap w rfl el hQ hL hn (sameB ⟨ht, mi, tk, wi, pw, ps, sa⟩ ⟨ht, mi, tk, wi, pw, ss, sa⟩) (by
    rw [Bool.eq_iff_iff, sameB_iff, decide_eq_true_iff, ← names_eq]
    exact ⟨fun h => (hi.1 h).2.2.2.2.2.2, fun h => hi.2 ⟨rfl, rfl, rfl, rfl, rfl, rfl, h⟩⟩)
  rw [← el]
  exact this
end Go.Proofs.YtiegakeacghnfaaDoor

namespace Go.Proofs.YtiegakeacghnfaaDoor
open Go.RowKit

theorem wpList_load_rowG {P : Program} {ops : Array Oper} {rest : List Oper} {o : Oper} {a : Act} {w : World} {Q : Exit → Act → World → Prop} (hw : Region.wanted o (yielded ops a.tmps) = true) (ty : TypeId) (x : Operand) (ho : o.op = .load ty x)
    (g : Nat) (hx : a.eval x = .pointer (some ⟨g, 0, none⟩)) (t : TypeId) (cs : Array Value) (fr : Nat × Nat) (d : TypeDesc) (hg : w.heap[g]? = some (.cells cs t fr))
    (hu : P.underlying ty = some d) (hd : (match d with | .struct _ | .array _ _ => true | _ => false) = true) (hi : (P.info? ty).map (·.size) = some cs.size)
    (h : wpList P ops Q rest (a.put o.dst (.agg cs)) w) : wpList P ops Q (o :: rest) a w :=
  wpList_step fun _ hK => by rw [if_pos hw]; exact wp_load_row ty x ho g hx t cs fr d hg hu hd hi (hK _ _ h)
theorem exec_store_row {P : Program} {o : Oper} {a : Act} {w : World} (ty : TypeId) (x y : Operand) (ho : o.op = .store ty x y)
    (g : Nat) (hx : a.eval x = .pointer (some ⟨g, 0, none⟩)) (t : TypeId) (old cs : Array Value) (hy : a.eval y = .agg cs) (hg : w.heap[g]? = some (.cells old t (0, 0))) (hsz : old.size = cs.size)
    (hi : (P.info? ty).map (·.size) = some cs.size) (h1 : ∀ v ∈ cs.toList, v.oneCell' = true) : (execOp a.eval o).run P w = .ok .skip (w.setRow g cs) := by
  have hst := run_storeCells_at P g 0 t cs.toList 0 old w hg (by simp; omega) h1
  have e : (old.toList.take (0 + 0) ++ cs.toList ++ old.toList.drop (0 + 0 + cs.toList.length)).toArray = cs := by
    have : old.toList.drop (0 + 0 + cs.toList.length) = [] := List.drop_eq_nil_of_le (by simp; omega)
    rw [this]; simp
  rw [e] at hst
  cases hq : P.info? ty with
  | none => simp [hq] at hi
  | some i =>
    have hs : i.size = cs.size := by simpa [hq] using hi
    have hv : (storeVar ty ⟨g, 0, none⟩ (.agg cs)).run P w = .ok () (w.setRow g cs) := by
      simp [storeVar, sizeOf, typeInfo, hq, hs, Value.cells, hst]
    unfold execOp
    simp only [ho, hx, hy, Instr.storeAt, Instr.sureAddr, Sem.run_bind, Sem.run_pure, Result.andThen_ok, hv]
theorem hcells_size {α : Type} (h : Hd α) (q : Option Addr) (c : Nat) : (hcells h q c).size = 7 := rfl
theorem hcells_oneA {α : Type} (h : Hd α) (q : Option Addr) (c : Nat) : ∀ v ∈ (hcells h q c).toList, v.oneCell' = true := by
  unfold hcells; intro v hv
  simp only [List.mem_cons, List.not_mem_nil, or_false] at hv
  rcases hv with rfl | rfl | rfl | rfl | rfl | rfl | rfl <;> rfl
end Go.Proofs.YtiegakeacghnfaaDoor

namespace Go.Proofs.YtiegakeacghnfaaDoor
open Go.RowKit

/-- Is the j-th another than the one ahead of it? -/
def kp (L : List Nm) : Nat → Bool
  | 0 => true
  | j + 1 => !((L[j + 1]?.map (·.1)) == (L[j]?.map (·.1)))
theorem kp_succ (L : List Nm) (j : Nat) (h : j + 1 < L.length) : kp L (j + 1) = !(L[j + 1].1 == L[j].1) := by
  show (!((L[j + 1]?.map (·.1)) == (L[j]?.map (·.1)))) = _
  rw [List.getElem?_eq_getElem h, List.getElem?_eq_getElem (by omega)]
  simp
/-- Of the first n those that are. -/
def cpt (L : List Nm) : Nat → List Nm
  | 0 => []
  | n + 1 => if kp L n then cpt L n ++ (L[n]?).toList else cpt L n
theorem cpt_keep {L : List Nm} {n : Nat} (h : n < L.length) (hk : kp L n = true) : cpt L (n + 1) = cpt L n ++ [L[n]] := by
  rw [cpt, if_pos hk, List.getElem?_eq_getElem h]; rfl
theorem cpt_skip {L : List Nm} {n : Nat} (hk : kp L n = false) : cpt L (n + 1) = cpt L n := by
  rw [cpt, if_neg (by rw [hk]; decide)]
theorem cpt_len (L : List Nm) (n : Nat) (h : n ≤ L.length) : (cpt L n).length ≤ n := by
  induction n with
  | zero => exact Nat.le_refl _
  | succ n ih =>
    have := ih (by omega)
    cases hk : kp L n with
    | true => rw [cpt_keep (by omega) hk, List.length_append]; simp; omega
    | false => rw [cpt_skip hk]; omega
theorem cpt_all {L : List Nm} {n : Nat} (hn : n ≤ L.length) (h : ∀ j, j < n → kp L j = true) : cpt L n = L.take n := by
  induction n with
  | zero => simp [cpt]
  | succ n ih => rw [cpt_keep (by omega) (h n (by omega)), ih (by omega) (fun j hj => h j (by omega)), ← List.take_succ_eq_append_getElem (by omega)]

section
variable {α : Type} {E : Enc α}
theorem Rw.parts {T : TypeId} {w : World} {g cap : Nat} {M : List α} (h : Rw E T w (some ⟨g, 0, none⟩) cap M) :
    ∃ cur : Array Value, w.heap[g]? = some (.cells cur T (0, 0)) ∧ cur.size = cap * E.k ∧ M.length ≤ cap ∧ cap ≤ maxLen ∧ ∃ R, cur.toList = E.all M ++ R := by
  rcases h.shape with ⟨e, _⟩ | ⟨g', e, hl, h1, h2, cur, hh, h3, h4⟩
  · cases e
  · cases e
    exact ⟨cur, hh, h3, h1, h2, cur.toList.drop (M.length * E.k), by rw [← h4, List.take_append_drop]⟩
/-- One is set. -/
theorem Rw.setAt {T : TypeId} {w : World} {g cap : Nat} {M : List α} (h : Rw E T w (some ⟨g, 0, none⟩) cap M) (i : Nat) (hi : i < M.length) (x : α) :
    ∃ cur : Array Value, w.heap[g]? = some (.cells cur T (0, 0)) ∧ i * E.k + E.k ≤ cur.size ∧
      Rw E T (w.setRow g (cur.toList.take (i * E.k) ++ E.f x ++ cur.toList.drop (i * E.k + E.k)).toArray) (some ⟨g, 0, none⟩) cap (M.set i x) := by
  obtain ⟨cur, hh, h3, h1, h2, R, hR⟩ := h.parts
  have hik : i * E.k + E.k ≤ M.length * E.k := by have := Nat.mul_le_mul_right E.k (show i + 1 ≤ M.length from hi); rwa [Nat.add_mul, Nat.one_mul] at this
  have hlen : (E.all M ++ R).length = cap * E.k := by rw [← hR, Array.length_toList, h3]
  have hM : M = M.take i ++ M[i] :: M.drop (i + 1) := by rw [← List.drop_eq_getElem_cons hi, List.take_append_drop]
  have hA : (E.all (M.take i)).length = i * E.k := by rw [E.all_len, List.length_take, Nat.min_eq_left (by omega)]
  have hall : E.all M = E.all (M.take i) ++ (E.f M[i] ++ E.all (M.drop (i + 1))) := by
    conv => lhs; rw [hM]
    rw [E.all_app]; rfl
  have hset : E.all (M.set i x) = E.all (M.take i) ++ (E.f x ++ E.all (M.drop (i + 1))) := by
    rw [List.set_eq_take_append_cons_drop, if_pos hi, E.all_app]; rfl
  have hnew : cur.toList.take (i * E.k) ++ E.f x ++ cur.toList.drop (i * E.k + E.k) = E.all (M.set i x) ++ R := by
    rw [hR, hall, hset]
    rw [List.append_assoc (E.all (M.take i)), List.append_assoc (E.f M[i]), List.take_left' hA, ← List.drop_drop, List.drop_left' hA, List.drop_left' (E.len _)]
    simp
  refine ⟨cur, hh, by rw [h3]; have := Nat.mul_le_mul_right E.k h1; omega, ?_⟩
  rw [hnew]
  refine Rw.of_row (setRow_heap w g cur _ T (0, 0) hh) (by rw [List.length_set]; exact h1) h2 ?_ ?_
  · rw [List.size_toArray, ← hlen, List.length_append, List.length_append, E.all_len, E.all_len, List.length_set]
  · rw [List.toList_toArray, List.take_left' (by rw [E.all_len])]
/-- The end is overwritten. -/
theorem Rw.clearAt {T : TypeId} {w : World} {g cap : Nat} {M : List α} (h : Rw E T w (some ⟨g, 0, none⟩) cap M) (i : Nat) (hi : i ≤ M.length) (Z : List Value) (hZ : Z.length = (M.length - i) * E.k) :
    ∃ cur : Array Value, w.heap[g]? = some (.cells cur T (0, 0)) ∧ i * E.k + Z.length ≤ cur.size ∧
      Rw E T (w.setRow g (cur.toList.take (i * E.k) ++ Z ++ cur.toList.drop (i * E.k + Z.length)).toArray) (some ⟨g, 0, none⟩) cap (M.take i) := by
  obtain ⟨cur, hh, h3, h1, h2, R, hR⟩ := h.parts
  have hik : i * E.k + Z.length = M.length * E.k := by rw [hZ, ← Nat.add_mul]; congr 1; omega
  have hlen : (E.all M ++ R).length = cap * E.k := by rw [← hR, Array.length_toList, h3]
  have hA : (E.all (M.take i)).length = i * E.k := by rw [E.all_len, List.length_take, Nat.min_eq_left (by omega)]
  have hall : E.all M = E.all (M.take i) ++ E.all (M.drop i) := by rw [← E.all_app, List.take_append_drop]
  have hm := Nat.mul_le_mul_right E.k h1
  have htk : cur.toList.take (i * E.k) = E.all (M.take i) := by rw [hR, hall, List.append_assoc, List.take_left' hA]
  refine ⟨cur, hh, by rw [h3]; omega, ?_⟩
  refine Rw.of_row (setRow_heap w g cur _ T (0, 0) hh) (by rw [List.length_take]; omega) h2 ?_ ?_
  · rw [List.size_toArray, List.length_append, List.length_append, List.length_take, List.length_drop, Array.length_toList, h3]; omega
  · rw [List.toList_toArray, htk, List.append_assoc, List.take_left' (by rw [hA, List.length_take, Nat.min_eq_left hi])]
end
theorem exec_store_at {P : Program} {o : Oper} {a : Act} {w : World} (ty : TypeId) (x y : Operand) (ho : o.op = .store ty x y)
    (g off : Nat) (hx : a.eval x = .pointer (some ⟨g, off, none⟩)) (t : TypeId) (old : Array Value) (vs : List Value) (hy : a.eval y = .agg vs.toArray) (hg : w.heap[g]? = some (.cells old t (0, 0))) (hsz : off + vs.length ≤ old.size)
    (hi : (P.info? ty).map (·.size) = some vs.length) (h1 : ∀ v ∈ vs, v.oneCell' = true) : (execOp a.eval o).run P w = .ok .skip (w.setRow g (old.toList.take off ++ vs ++ old.toList.drop (off + vs.length)).toArray) := by
  have hst := run_storeCells_at P g off t vs 0 old w hg (by omega) h1
  rw [Nat.add_zero] at hst
  cases hq : P.info? ty with
  | none => simp [hq] at hi
  | some i =>
    have hs : i.size = vs.length := by simpa [hq] using hi
    have hv : (storeVar ty ⟨g, off, none⟩ (.agg vs.toArray)).run P w = .ok () (w.setRow g (old.toList.take off ++ vs ++ old.toList.drop (off + vs.length)).toArray) := by
      simp [storeVar, sizeOf, typeInfo, hq, hs, Value.cells, hst]
    unfold execOp
    simp only [ho, hx, hy, Instr.storeAt, Instr.sureAddr, Sem.run_bind, Sem.run_pure, Result.andThen_ok, hv]
theorem wpList_skip {P : Program} {ops : Array Oper} {rest : List Oper} {o : Oper} {a : Act} {w w' : World} {Q : Exit → Act → World → Prop} (hgd : o.guard = none) (hdst : o.dst = none) (hr : (execOp a.eval o).run P w = .ok .skip w') (h : wpList P ops Q rest a w') : wpList P ops Q (o :: rest) a w := by
  refine wpList_plain hgd fun K hK => ?_
  unfold Oper.wp
  rw [hr]
  exact hK _ _ (by rw [hdst]; exact h)
/-- clear of a slice of names. -/
theorem clear_names (g off n c : Nat) (w : World) (cur : Array Value) (hg : w.heap[g]? = some (.cells cur 39 (0, 0))) (hn : 0 < n) (hsz : off + n * 32 ≤ cur.size) : ∃ Z : List Value, Z.length = n * 32 ∧ ∀ ty,
    (Builtin.clear_ #[28] ty #[.slice (some ⟨g, off, none⟩) n c]).run Tryd.prog w = .ok (.tuple #[]) (w.setRow g (cur.toList.take off ++ Z ++ cur.toList.drop (off + Z.length)).toArray) := by
  obtain ⟨m, rfl⟩ : ∃ m, n = m + 1 := ⟨n - 1, by omega⟩
  refine ⟨(Builtin.zeroCells (vals zid).toArray (m + 1)).toList, ?_, fun ty => ?_⟩
  · simp [Builtin.zeroCells, vals_len, zid]
  have hl : (Builtin.zeroCells (vals zid).toArray (m + 1)).toList.length = (m + 1) * 32 := by simp [Builtin.zeroCells, vals_len, zid]
  have h1 : ∀ v ∈ (Builtin.zeroCells (vals zid).toArray (m + 1)).toList, v.oneCell' = true := by
    intro v hv
    simp [Builtin.zeroCells] at hv
    obtain ⟨j, hj, rfl⟩ := hv
    cases hq : (vals zid)[j % (vals zid).length]? with
    | none => rfl
    | some u => exact vals_one _ _ (List.mem_of_getElem? hq)
  have hst := run_storeCells_at Tryd.prog g off 39 _ 0 cur w hg (by rw [hl]; omega) h1
  rw [Nat.add_zero] at hst
  have hz := zid_run
  generalize vals zid = V at hst hz ⊢
  simp [Builtin.clear_, run_underlying (Tryd.underlying28), hz, Value.cells, hst]
end Go.Proofs.YtiegakeacghnfaaDoor

namespace Go.Proofs.YtiegakeacghnfaaDoor
open Go.RowKit

theorem mid_len {L C : List Nm} (h : C.length ≤ L.length) : (C ++ L.drop C.length).length = L.length := by simp; omega
theorem mid_get {L C : List Nm} (j : Nat) (h : C.length ≤ j) (hj : j < L.length) (hj2 : j < (C ++ L.drop C.length).length) : (C ++ L.drop C.length)[j] = L[j] := by
  rw [List.getElem_append_right h, List.getElem_drop]; congr 1; omega
theorem mid_set {L C : List Nm} (x : Nm) (h : C.length < L.length) : (C ++ L.drop C.length).set C.length x = (C ++ [x]) ++ L.drop (C ++ [x]).length := by
  rw [List.set_append_right _ _ (Nat.le_refl _), Nat.sub_self, List.drop_eq_getElem_cons h, List.set_cons_zero]; simp
theorem Rw.at {T : TypeId} {w : World} {g cap : Nat} {M : List Nm} (h : Rw encN T w (some ⟨g, 0, none⟩) cap M) (j : Nat) (hj : j < M.length) (o : Nat) (ho : o = j * 32) :
    ∀ i u, (encN.f M[j])[i]? = some u → w.cell? ⟨g, o + i, none⟩ = some u := by
  obtain ⟨b, off, e, _, hc⟩ := h.rd j hj
  cases e
  intro i u hu
  have := hc i u hu
  rw [ho]; simpa [encN] using this

/-- Fewer than two. -/
theorem compact_few (p : Option Addr) (n cap : Nat) (w : World) (h : n < 2) : Calls Tryd.prog 45 #[.slice p n cap] w fun r w' => r = .returned (.slice p n cap) ∧ w' = w := by
  have h1 : (n : Int) < 2 := by omega
  clear h
  go_enter Tryd.func45, Tryd.ntmps45
  go_wp2_with fail
  go_ret
  exact ⟨rfl, rfl⟩

set_option maxRecDepth 20000 in
set_option maxHeartbeats 4000000 in
theorem compact_any (g cap : Nat) (L : List Nm) (w : World) (hL : Rw encN 39 w (some ⟨g, 0, none⟩) cap L) (hn : L.length ≤ 1000000) (h2 : 2 ≤ L.length) :
    Calls Tryd.prog 45 #[.slice (some ⟨g, 0, none⟩) L.length cap] w fun r w' => r = .returned (.slice (some ⟨g, 0, none⟩) (cpt L L.length).length cap) ∧ Rw encN 39 w' (some ⟨g, 0, none⟩) cap (cpt L L.length) ∧ Mod (fun i => i = g) w w' := by
  have hcap := hL.cap_le
  obtain ⟨n, hnL⟩ : ∃ n, n = L.length := ⟨_, rfl⟩
  obtain ⟨o, ho⟩ : ∃ o, o = 0 := ⟨_, rfl⟩
  rw [← hnL] at hn h2 hcap ⊢
  have Hn := Lib.hid hnL
  have HL := Lib.hid hL
  have Ho := Lib.hid ho
  have HM := Lib.hid (Mod.refl (fun i => i = g) w)
  obtain ⟨F, hF⟩ : ∃ F : Ending → World → Prop, F = fun r w' => r = .returned (.slice (some ⟨g, 0, none⟩) (cpt L n).length cap) ∧ Rw encN 39 w' (some ⟨g, 0, none⟩) cap (cpt L n) ∧ Mod (fun i => i = g) w w' := ⟨_, rfl⟩
  have HF := Lib.hid hF
  show Calls _ _ _ _ (fun r w' => r = .returned (.slice (some ⟨g, 0, none⟩) (cpt L n).length cap) ∧ Rw encN 39 w' (some ⟨g, 0, none⟩) cap (cpt L n) ∧ Mod (fun i => i = g) w w')
  rw [← hF, ← ho]
  clear hnL hL ho hF
  have i2 : ¬ (n : Int) < 2 := by omega
  go_enter Tryd.func45, Tryd.ntmps45
  go_wp2_with fail
  go_loopw [3] (fun s3 wr => ∃ k : Nat, k + 1 ≤ n ∧ s3 = .int .i64 ((k : Int) + 1) ∧ Hid (∀ j, j < k + 1 → kp L j = true) ∧ Hid (Rw encN 39 wr (some ⟨g, 0, none⟩) cap L ∧ Mod (fun i => i = g) w wr)) (fun i _ => n + 1 - (intOf i).toNat)
  case atStart => exact ⟨0, by omega, by go_num, Lib.hid (fun j hj => by obtain rfl : j = 0 := (by omega); rfl), Lib.hid ⟨HL.out, HM.out⟩⟩
  case round =>
    clear HL HM
    obtain ⟨k, hk, rfl, hkp, HB⟩ := hrel
    by_cases hlt : k + 1 < n
    · have h1 : k < L.length := by rw [← Hn.out]; omega
      have h3 : k + 1 < L.length := by rw [← Hn.out]; omega
      have c1 := HB.out.1.at k h1 (o + k * 32) (by rw [Ho.out, Nat.zero_add])
      have c2 := HB.out.1.at (k + 1) h3 (o + (k + 1) * 32) (by rw [Ho.out, Nat.zero_add])
      have hgl : g < wr.heap.size := HB.out.1.lt
      have hkk := kp_succ L k h3
      obtain ⟨y, hy⟩ : ∃ y, y = L[k] := ⟨_, rfl⟩
      obtain ⟨x, hx⟩ : ∃ x, x = L[k + 1] := ⟨_, rfl⟩
      rw [← hy] at c1 hkk
      rw [← hx] at c2 hkk
      have C1 : Hid (∀ w', Below wr.heap.size wr w' → ∀ i u, (encN.f y)[i]? = some u → w'.cell? ⟨g, o + k * 32 + i, none⟩ = some u) := Lib.hid (fun w' hb i u hu => (World.cell?_of_block (hb.block g hgl)).trans (c1 i u hu))
      have C2 : Hid (∀ w', Below wr.heap.size wr w' → ∀ i u, (encN.f x)[i]? = some u → w'.cell? ⟨g, o + (k + 1) * 32 + i, none⟩ = some u) := Lib.hid (fun w' hb i u hu => (World.cell?_of_block (hb.block g hgl)).trans (c2 i u hu))
      obtain ⟨D, hD⟩ : ∃ D, D = (x.1 == y.1) := ⟨_, rfl⟩
      have Heq : Hid (∀ w, (binOp .eql 39 (.agg (vals x.1).toArray) (.agg (vals y.1).toArray)).run Tryd.prog w = .ok (.bool D) w) := Lib.hid (fun w => by rw [hD]; exact id_eql x.1 y.1 x.2 y.2 w)
      rw [← hD] at hkk
      have Hkk := Lib.hid hkk
      have Hlt := Lib.hid hlt
      have i0 : (0 : Int) ≤ k := by omega
      have i1 : (k : Int) < n := by omega
      have i3 : (k : Int) + 1 < n := by omega
      have e1 : IntKind.i64.wrap ((k : Int) + 1 - 1) = (k : Int) := by rw [IntWalk.i64_in _ (by omega)]; omega
      have e0 : IntKind.i64.wrap (k : Int) = (k : Int) := IntWalk.i64_in _ (by omega)
      have e2 : ((k : Int) + 1).toNat = k + 1 := by omega
      have e3 : (0 : Int) ≤ (k : Int) + 1 := by omega
      clear hy hx c1 c2 hkk hD h1 h3 hlt
      go_wp2_with fail
      refine wp_region_puts (fun t v w => VK (match t with
        | 16 => .eq (.slice (some ⟨g, o, none⟩) n cap)
        | 17 => .eq (.int .i64 ((k : Int) + 1))
        | 18 => .eq (.pointer (some ⟨g, o + (k + 1) * 32, none⟩))
        | 19 => .eq (.agg (vals x.1).toArray)
        | 20 => .eq (.slice (some ⟨g, o, none⟩) n cap)
        | 21 => .eq (.int .i64 ((k : Int) + 1))
        | 22 => .eq (.int .i64 (k : Int))
        | 23 => .eq (.pointer (some ⟨g, o + k * 32, none⟩))
        | 24 => .eq (.agg (vals y.1).toArray)
        | 25 => .eq (.bool D)
        | _ => .any) v w) (fun w' => Below wr.heap.size wr w') 61 (by kernel_rfl) (by decide +kernel) rfl (Below.refl _ _).drew (by
        refine OweAll.cons (owesK rfl rfl fun a w1 ha hG hV => ?_) ?_
        · skip
          have h0 := ha.outer 0 (by decide +kernel)
          simp only [Act.eval] at h0
          exact ⟨.slice (some ⟨g, o, none⟩) n cap, w1, wanted_free rfl, by simp [execOp, go_sem, h0], Below.refl _ _, rfl⟩
        refine OweAll.cons (owesK rfl rfl fun a w1 ha hG hV => ?_) ?_
        · skip
          have h3 := ha.outer 3 (by decide +kernel)
          simp only [Act.eval] at h3
          exact ⟨.int .i64 ((k : Int) + 1), w1, wanted_free rfl, by simp [execOp, go_sem, h3], Below.refl _ _, rfl⟩
        refine OweAll.cons (owesK rfl rfl fun a w1 ha hG hV => ?_) ?_
        · skip
          have h16 : a.tmps.getD 16 undef = .slice (some ⟨g, o, none⟩) n cap := hV.get 16 (by decide +kernel)
          have h17 : a.tmps.getD 17 undef = .int .i64 ((k : Int) + 1) := hV.get 17 (by decide +kernel)
          exact ⟨.pointer (some ⟨g, o + (k + 1) * 32, none⟩), w1, wanted_free rfl, by simp [execOp, go_sem, h16, h17, e2, e3, i3], Below.refl _ _, rfl⟩
        refine OweAll.cons (owesK rfl rfl fun a w1 ha hG hV => ?_) ?_
        · skip
          have h18 : a.tmps.getD 18 undef = .pointer (some ⟨g, o + (k + 1) * 32, none⟩) := hV.get 18 (by decide +kernel)
          exact ⟨.agg (vals x.1).toArray, w1, wanted_free rfl, exec_load_mid (.tmp 18) rfl g (o + (k + 1) * 32) h18 x (C2.out w1 hG), Below.refl _ _, rfl⟩
        refine OweAll.cons (owesK rfl rfl fun a w1 ha hG hV => ?_) ?_
        · skip
          have h0 := ha.outer 0 (by decide +kernel)
          simp only [Act.eval] at h0
          exact ⟨.slice (some ⟨g, o, none⟩) n cap, w1, wanted_free rfl, by simp [execOp, go_sem, h0], Below.refl _ _, rfl⟩
        refine OweAll.cons (owesK rfl rfl fun a w1 ha hG hV => ?_) ?_
        · skip
          have h3 := ha.outer 3 (by decide +kernel)
          simp only [Act.eval] at h3
          exact ⟨.int .i64 ((k : Int) + 1), w1, wanted_free rfl, by simp [execOp, go_sem, h3], Below.refl _ _, rfl⟩
        refine OweAll.cons (owesK rfl rfl fun a w1 ha hG hV => ?_) ?_
        · skip
          have h21 : a.tmps.getD 21 undef = .int .i64 ((k : Int) + 1) := hV.get 21 (by decide +kernel)
          exact ⟨.int .i64 (k : Int), w1, wanted_free rfl, by simp [execOp, go_sem, h21, e0], Below.refl _ _, rfl⟩
        refine OweAll.cons (owesK rfl rfl fun a w1 ha hG hV => ?_) ?_
        · skip
          have h20 : a.tmps.getD 20 undef = .slice (some ⟨g, o, none⟩) n cap := hV.get 20 (by decide +kernel)
          have h22 : a.tmps.getD 22 undef = .int .i64 (k : Int) := hV.get 22 (by decide +kernel)
          exact ⟨.pointer (some ⟨g, o + k * 32, none⟩), w1, wanted_free rfl, by simp [execOp, go_sem, h20, h22, i0, i1], Below.refl _ _, rfl⟩
        refine OweAll.cons (owesK rfl rfl fun a w1 ha hG hV => ?_) ?_
        · skip
          have h23 : a.tmps.getD 23 undef = .pointer (some ⟨g, o + k * 32, none⟩) := hV.get 23 (by decide +kernel)
          exact ⟨.agg (vals y.1).toArray, w1, wanted_free rfl, exec_load_mid (.tmp 23) rfl g (o + k * 32) h23 y (C1.out w1 hG), Below.refl _ _, rfl⟩
        refine OweAll.cons (owesK rfl rfl fun a w1 ha hG hV => ?_) ?_
        · skip
          have h19 : a.tmps.getD 19 undef = .agg (vals x.1).toArray := hV.get 19 (by decide +kernel)
          have h24 : a.tmps.getD 24 undef = .agg (vals y.1).toArray := hV.get 24 (by decide +kernel)
          exact ⟨.bool D, w1, wanted_free rfl, by simp [execOp, go_sem, h19, h24, Heq.out], Below.refl _ _, rfl⟩
        exact OweAll.nil
        ) ?_
      intro f wz hG hv
      have e25 : f 25 = .bool D := hv 9 _ 25 rfl rfl
      rename_i hK
      refine hK _ _ ?_
      clear hK hv
      simp only [dsts, puts, List.filterMap_cons, List.filterMap_nil, List.foldl_cons, List.foldl_nil, Act.put, List.setIfInBounds_toArray, List.set_cons_succ, List.set_cons_zero, e25]
      clear e25
      have HG : Hid (Rw encN 39 wz (some ⟨g, 0, none⟩) cap L ∧ Mod (fun i => i = g) w wz) := Lib.hid ⟨HB.out.1.old hG, HB.out.2.trans (Mod.of_below hG) (fun i hi h => by have := HB.out.2.size; omega)⟩
      clear hG HB
      have hkl := Hlt.out
      cases D with
      | false =>
        have hnx : Hid (∀ j, j < k + 1 + 1 → kp L j = true) := Lib.hid (fun j hj => by
          by_cases e : j = k + 1
          · rw [e]; exact Hkk.out
          · exact hkp.out j (by omega))
        go_wp2_with fail
        go_roundw
        case rel => exact ⟨k + 1, by omega, by go_num, hnx, HG⟩
        case measure => simp [intOf]; omega
      | true =>
        have C0 : Hid (cpt L (k + 1 + 0 + 1) = L.take (k + 1) ∧ (L.take (k + 1)).length = k + 1) := Lib.hid ⟨by
          rw [Nat.add_zero, cpt_skip Hkk.out, cpt_all (by have := Hn.out; omega) hkp.out], by rw [List.length_take]; have := Hn.out; omega⟩
        go_wp2_with fail
        clear C1 C2 hkp Heq Hkk i0 i1 e0 e1 hgl
        obtain ⟨o4, ho4⟩ : ∃ o4, o4 = o + (k + 1) * 32 := ⟨_, rfl⟩
        obtain ⟨n4, hn4⟩ : ∃ n4, n4 = n - (k + 1) := ⟨_, rfl⟩
        obtain ⟨c4, hc4⟩ : ∃ c4, c4 = cap - (k + 1) := ⟨_, rfl⟩
        rw [← ho4, ← hn4, ← hc4]
        have Ho4 := Lib.hid ho4
        have Hn4 := Lib.hid hn4
        have Hc4 := Lib.hid hc4
        have n4p : 1 ≤ n4 := by omega
        have c4p : n4 ≤ c4 := by omega
        clear ho4 hn4 hc4
        go_loopw [3, 5] (fun s3 s5 wr => ∃ (m c : Nat) (C : List Nm), m + 1 ≤ n4 ∧ s5 = .int .i64 ((m : Int) + 1) ∧ s3 = .int .i64 (c : Int) ∧ c ≤ k + 1 + m ∧ Hid (C.length = c ∧ C = cpt L (k + 1 + m + 1)) ∧ Hid (Rw encN 39 wr (some ⟨g, 0, none⟩) cap (C ++ L.drop C.length) ∧ Mod (fun i => i = g) w wr)) (fun _ i _ => n4 + 1 - (intOf i).toNat)
        case atStart => exact ⟨0, k + 1, L.take (k + 1), n4p, by go_num, by go_num, by omega, Lib.hid ⟨C0.out.2, C0.out.1.symm⟩, Lib.hid ⟨by rw [C0.out.2, List.take_append_drop]; exact HG.out.1, HG.out.2⟩⟩
        case round =>
          clear HG C0
          obtain ⟨m, c, C, hm, rfl, rfl, hc, HC, HB⟩ := hrel
          have Hcn : Hid (C.length ≤ L.length) := Lib.hid (by rw [HC.out.1, ← Hn.out]; have := Hn4.out; omega)
          by_cases hlm : m + 1 < n4
          · have j1 : k + 1 + m < L.length := by have := Hn4.out; have := Hn.out; omega
            have j2 : k + 1 + m + 1 < L.length := by have := Hn4.out; have := Hn.out; omega
            have hml := mid_len Hcn.out
            have c1 := HB.out.1.at (k + 1 + m) (by rw [hml]; exact j1) (o4 + m * 32) (by rw [Ho4.out, Ho.out]; omega)
            have c2 := HB.out.1.at (k + 1 + m + 1) (by rw [hml]; exact j2) (o4 + (m + 1) * 32) (by rw [Ho4.out, Ho.out]; omega)
            rw [mid_get (k + 1 + m) (by rw [HC.out.1]; exact hc) j1] at c1
            rw [mid_get (k + 1 + m + 1) (by rw [HC.out.1]; omega) j2] at c2
            have hgl : g < wr.heap.size := HB.out.1.lt
            have hkk := kp_succ L (k + 1 + m) j2
            obtain ⟨y, hy⟩ : ∃ y, y = L[k + 1 + m] := ⟨_, rfl⟩
            obtain ⟨x, hx⟩ : ∃ x, x = L[k + 1 + m + 1] := ⟨_, rfl⟩
            rw [← hy] at c1 hkk
            rw [← hx] at c2 hkk
            have C1 : Hid (∀ w', Below wr.heap.size wr w' → ∀ i u, (encN.f y)[i]? = some u → w'.cell? ⟨g, o4 + m * 32 + i, none⟩ = some u) := Lib.hid (fun w' hb i u hu => (World.cell?_of_block (hb.block g hgl)).trans (c1 i u hu))
            have C2 : Hid (∀ w', Below wr.heap.size wr w' → ∀ i u, (encN.f x)[i]? = some u → w'.cell? ⟨g, o4 + (m + 1) * 32 + i, none⟩ = some u) := Lib.hid (fun w' hb i u hu => (World.cell?_of_block (hb.block g hgl)).trans (c2 i u hu))
            obtain ⟨D, hD⟩ : ∃ D, D = (x.1 == y.1) := ⟨_, rfl⟩
            have Hne : Hid (∀ w, (binOp .neq 39 (.agg (vals x.1).toArray) (.agg (vals y.1).toArray)).run Tryd.prog w = .ok (.bool (!D)) w) := Lib.hid (fun w => by rw [hD]; exact id_neq x.1 y.1 x.2 y.2 w)
            rw [← hD] at hkk
            have Hkk := Lib.hid hkk
            have Hx : Hid (∀ h : k + 1 + m + 1 < L.length, L[k + 1 + m + 1] = x) := Lib.hid (fun _ => hx.symm)
            have Hlm := Lib.hid hlm
            have i0 : (0 : Int) ≤ m := by omega
            have i1 : (m : Int) < n4 := by omega
            have i4 : (m : Int) + 1 < n4 := by omega
            have e0 : IntKind.i64.wrap (m : Int) = (m : Int) := IntWalk.i64_in _ (by have := Hn4.out; omega)
            have e4 : ((m : Int) + 1).toNat = m + 1 := by omega
            have e5 : (0 : Int) ≤ (m : Int) + 1 := by omega
            have hkn : k + 1 + m + 1 < n := by have := Hn.out; omega
            clear hy hx c1 c2 hkk hD j1 j2 hml hlm
            go_wp2_with fail
            refine wp_region_puts (fun t v w => VK (match t with
              | 35 => .eq (.slice (some ⟨g, o4, none⟩) n4 c4)
              | 36 => .eq (.int .i64 ((m : Int) + 1))
              | 37 => .eq (.pointer (some ⟨g, o4 + (m + 1) * 32, none⟩))
              | 38 => .eq (.agg (vals x.1).toArray)
              | 39 => .eq (.slice (some ⟨g, o4, none⟩) n4 c4)
              | 40 => .eq (.int .i64 ((m : Int) + 1))
              | 41 => .eq (.int .i64 (m : Int))
              | 42 => .eq (.pointer (some ⟨g, o4 + m * 32, none⟩))
              | 43 => .eq (.agg (vals y.1).toArray)
              | 44 => .eq (.bool (!D))
              | _ => .any) v w) (fun w' => Below wr.heap.size wr w') 61 (by kernel_rfl) (by decide +kernel) rfl (Below.refl _ _).drew (by
              refine OweAll.cons (owesK rfl rfl fun a w1 ha hG hV => ?_) ?_
              · skip
                have h4 := ha.outer 4 (by decide +kernel)
                simp only [Act.eval] at h4
                exact ⟨.slice (some ⟨g, o4, none⟩) n4 c4, w1, wanted_free rfl, by simp [execOp, go_sem, h4], Below.refl _ _, rfl⟩
              refine OweAll.cons (owesK rfl rfl fun a w1 ha hG hV => ?_) ?_
              · skip
                have h5 := ha.outer 5 (by decide +kernel)
                simp only [Act.eval] at h5
                exact ⟨.int .i64 ((m : Int) + 1), w1, wanted_free rfl, by simp [execOp, go_sem, h5], Below.refl _ _, rfl⟩
              refine OweAll.cons (owesK rfl rfl fun a w1 ha hG hV => ?_) ?_
              · skip
                have h35 : a.tmps.getD 35 undef = .slice (some ⟨g, o4, none⟩) n4 c4 := hV.get 35 (by decide +kernel)
                have h36 : a.tmps.getD 36 undef = .int .i64 ((m : Int) + 1) := hV.get 36 (by decide +kernel)
                exact ⟨.pointer (some ⟨g, o4 + (m + 1) * 32, none⟩), w1, wanted_free rfl, by simp [execOp, go_sem, h35, h36, e4, e5, i4], Below.refl _ _, rfl⟩
              refine OweAll.cons (owesK rfl rfl fun a w1 ha hG hV => ?_) ?_
              · skip
                have h37 : a.tmps.getD 37 undef = .pointer (some ⟨g, o4 + (m + 1) * 32, none⟩) := hV.get 37 (by decide +kernel)
                exact ⟨.agg (vals x.1).toArray, w1, wanted_free rfl, exec_load_mid (.tmp 37) rfl g (o4 + (m + 1) * 32) h37 x (C2.out w1 hG), Below.refl _ _, rfl⟩
              refine OweAll.cons (owesK rfl rfl fun a w1 ha hG hV => ?_) ?_
              · skip
                have h4 := ha.outer 4 (by decide +kernel)
                simp only [Act.eval] at h4
                exact ⟨.slice (some ⟨g, o4, none⟩) n4 c4, w1, wanted_free rfl, by simp [execOp, go_sem, h4], Below.refl _ _, rfl⟩
              refine OweAll.cons (owesK rfl rfl fun a w1 ha hG hV => ?_) ?_
              · skip
                have h5 := ha.outer 5 (by decide +kernel)
                simp only [Act.eval] at h5
                exact ⟨.int .i64 ((m : Int) + 1), w1, wanted_free rfl, by simp [execOp, go_sem, h5], Below.refl _ _, rfl⟩
              refine OweAll.cons (owesK rfl rfl fun a w1 ha hG hV => ?_) ?_
              · skip
                have h40 : a.tmps.getD 40 undef = .int .i64 ((m : Int) + 1) := hV.get 40 (by decide +kernel)
                exact ⟨.int .i64 (m : Int), w1, wanted_free rfl, by simp [execOp, go_sem, h40, e0], Below.refl _ _, rfl⟩
              refine OweAll.cons (owesK rfl rfl fun a w1 ha hG hV => ?_) ?_
              · skip
                have h39 : a.tmps.getD 39 undef = .slice (some ⟨g, o4, none⟩) n4 c4 := hV.get 39 (by decide +kernel)
                have h41 : a.tmps.getD 41 undef = .int .i64 (m : Int) := hV.get 41 (by decide +kernel)
                exact ⟨.pointer (some ⟨g, o4 + m * 32, none⟩), w1, wanted_free rfl, by simp [execOp, go_sem, h39, h41, i0, i1], Below.refl _ _, rfl⟩
              refine OweAll.cons (owesK rfl rfl fun a w1 ha hG hV => ?_) ?_
              · skip
                have h42 : a.tmps.getD 42 undef = .pointer (some ⟨g, o4 + m * 32, none⟩) := hV.get 42 (by decide +kernel)
                exact ⟨.agg (vals y.1).toArray, w1, wanted_free rfl, exec_load_mid (.tmp 42) rfl g (o4 + m * 32) h42 y (C1.out w1 hG), Below.refl _ _, rfl⟩
              refine OweAll.cons (owesK rfl rfl fun a w1 ha hG hV => ?_) ?_
              · skip
                have h38 : a.tmps.getD 38 undef = .agg (vals x.1).toArray := hV.get 38 (by decide +kernel)
                have h43 : a.tmps.getD 43 undef = .agg (vals y.1).toArray := hV.get 43 (by decide +kernel)
                exact ⟨.bool (!D), w1, wanted_free rfl, by simp [execOp, go_sem, h38, h43, Hne.out], Below.refl _ _, rfl⟩
              exact OweAll.nil
              ) ?_
            intro f wz hG hv
            have e44 : f 44 = .bool (!D) := hv 9 _ 44 rfl rfl
            rename_i hK
            refine hK _ _ ?_
            clear hK hv
            simp only [dsts, puts, List.filterMap_cons, List.filterMap_nil, List.foldl_cons, List.foldl_nil, Act.put, List.setIfInBounds_toArray, List.set_cons_succ, List.set_cons_zero, e44]
            clear e44
            have HG : Hid (Rw encN 39 wz (some ⟨g, 0, none⟩) cap (C ++ L.drop C.length) ∧ Mod (fun i => i = g) w wz) := Lib.hid ⟨HB.out.1.old hG, HB.out.2.trans (Mod.of_below hG) (fun i hi h => by have := HB.out.2.size; omega)⟩
            have C3 : Hid (∀ i u, (encN.f x)[i]? = some u → wz.cell? ⟨g, o4 + (m + 1) * 32 + i, none⟩ = some u) := Lib.hid (C2.out wz hG)
            clear hG HB C1 C2 Hne
            have hml := Hlm.out
            cases D with
            | true =>
              have hnx : Hid (C = cpt L (k + 1 + (m + 1) + 1)) := Lib.hid (by rw [← Nat.add_assoc, cpt_skip Hkk.out]; exact HC.out.2)
              go_wp2_with fail
              go_roundw
              case rel => exact ⟨m + 1, c, C, by omega, by go_num, rfl, by omega, Lib.hid ⟨HC.out.1, hnx.out⟩, HG⟩
              case measure => simp [intOf]; omega
            | false =>
              have hcL : C.length < L.length := by rw [HC.out.1, ← Hn.out]; omega
              obtain ⟨cur, hh, hsz, hrw⟩ := HG.out.1.setAt C.length (by rw [mid_len Hcn.out]; exact hcL) x
              rw [mid_set x hcL] at hrw
              have HGM := HG.out.2.setRow (g := g) (cur.toList.take (C.length * encN.k) ++ encN.f x ++ cur.toList.drop (C.length * encN.k + encN.k)).toArray
              have hof : o + c * 32 = C.length * 32 := by rw [Ho.out, HC.out.1, Nat.zero_add]
              obtain ⟨W1, hW1⟩ : ∃ W1, W1 = wz.setRow g (cur.toList.take (C.length * encN.k) ++ encN.f x ++ cur.toList.drop (C.length * encN.k + encN.k)).toArray := ⟨_, rfl⟩
              rw [← hW1] at hrw HGM
              have hst : Hid (∀ (oo : Oper) (a : Act), oo.op = .store 39 (.tmp 51) (.tmp 50) → a.eval (.tmp 51) = .pointer (some ⟨g, o + c * 32, none⟩) → a.eval (.tmp 50) = .agg (vals x.1).toArray → (execOp a.eval oo).run Tryd.prog wz = .ok .skip W1) := Lib.hid (fun oo a ho hx hy => by
                rw [hW1]
                have h := exec_store_at (P := Tryd.prog) (w := wz) 39 (.tmp 51) (.tmp 50) ho g (o + c * 32) hx 39 cur (vals x.1) hy hh (by rw [hof, vals_len, x.2]; exact hsz) (by rw [vals_len, x.2]; kernel_rfl) (vals_one x.1)
                rw [hof, vals_len, x.2] at h
                exact h)
              have hnx : Hid (C ++ [x] = cpt L (k + 1 + (m + 1) + 1)) := Lib.hid (by
                have hl : k + 1 + m + 1 < L.length := by rw [← Hn.out]; exact hkn
                rw [← Nat.add_assoc, cpt_keep hl Hkk.out, Hx.out hl, ← HC.out.2])
              have Hw1 := Lib.hid (And.intro hrw (HGM.mono (T := fun i => i = g) (fun i _ h => h.elim id id)))
              have k0 : (0 : Int) ≤ c := by omega
              have k1 : (c : Int) < n := by omega
              clear hh hsz hrw HGM hof hW1 hcL HG
              go_wp2_with (first | (refine wpList_exec rfl (exec_load_mid (.tmp 49) rfl g (o4 + (m + 1) * 32) rfl x C3.out) ?_) | (refine wpList_skip rfl rfl (hst.out _ _ rfl rfl rfl) ?_))
              go_roundw
              case rel => exact ⟨m + 1, c + 1, C ++ [x], by omega, by go_num, by go_num, by omega, Lib.hid ⟨by rw [List.length_append, HC.out.1]; rfl, hnx.out⟩, Hw1⟩
              case measure => simp [intOf]; omega
          · have hend : k + 1 + m + 1 = n := by have := Hn4.out; omega
            have i4 : ¬ (m : Int) + 1 < n4 := by omega
            have hcn : c < n := by omega
            have hmn : (C ++ L.drop C.length).length = n := by rw [mid_len Hcn.out, Hn.out]
            obtain ⟨cur, hh, hrow⟩ : ∃ cur : Array Value, wr.heap[g]? = some (.cells cur 39 (0, 0)) ∧ ∀ Z : List Value, Z.length = (n - c) * 32 → c * 32 + Z.length ≤ cur.size ∧ Rw encN 39 (wr.setRow g (cur.toList.take (c * 32) ++ Z ++ cur.toList.drop (c * 32 + Z.length)).toArray) (some ⟨g, 0, none⟩) cap C := by
              obtain ⟨cur, hh, h3, h4, _, _⟩ := HB.out.1.parts
              refine ⟨cur, hh, fun Z hZ => ?_⟩
              obtain ⟨cur', hh', h5, h6⟩ := HB.out.1.clearAt C.length (by rw [hmn, HC.out.1]; omega) Z (by rw [hmn, HC.out.1]; exact hZ)
              obtain rfl : cur' = cur := by rw [hh] at hh'; cases hh'; rfl
              rw [HC.out.1, List.take_left' HC.out.1] at h6
              rw [HC.out.1] at h5
              exact ⟨h5, h6⟩
            have hz : (List.replicate ((n - c) * 32) undef).length = (n - c) * 32 := List.length_replicate
            have hb := (hrow _ hz).1
            rw [hz] at hb
            obtain ⟨Z, hZ, hcl⟩ := clear_names g (c * 32) (n - c) (cap - c) wr cur hh (by omega) hb
            have hof : o + c * 32 = c * 32 := by rw [Ho.out, Nat.zero_add]
            rw [← hof] at hcl
            obtain ⟨W1, hW1⟩ : ∃ W1, W1 = wr.setRow g (cur.toList.take (c * 32) ++ Z ++ cur.toList.drop (c * 32 + Z.length)).toArray := ⟨_, rfl⟩
            rw [hof, ← hW1] at hcl
            rw [← hof] at hcl
            have Hw1 : Hid (Rw encN 39 W1 (some ⟨g, 0, none⟩) cap C ∧ Mod (fun i => i = g) w W1) := Lib.hid ⟨by rw [hW1]; exact (hrow Z hZ).2, by rw [hW1]; exact (HB.out.2.setRow _).mono (fun i _ h => h.elim id id)⟩
            have hfin : Hid (C = cpt L n) := Lib.hid (by rw [← hend]; exact HC.out.2)
            have k0 : (0 : Int) ≤ c := by omega
            have k1 : (c : Int) ≤ n := by omega
            have k2 : (c : Int) ≤ cap := by omega
            clear hh hrow hz hb hof hW1 hZ hmn HB
            go_wp2_with fail
            rw [HF.out]
            exact ⟨by rw [Ho.out, ← hfin.out, HC.out.1], by rw [← hfin.out]; exact Hw1.out.1, Hw1.out.2⟩
    · have hfin : Hid (cpt L n = L) := Lib.hid (by
        have e : n = k + 1 := by omega
        rw [e, cpt_all (by rw [← Hn.out]; omega) hkp.out, List.take_of_length_le (by rw [← Hn.out]; omega)])
      have i3 : ¬ (k : Int) + 1 < n := by omega
      go_wp2_with fail
      rw [HF.out]
      exact ⟨by rw [Ho.out, hfin.out, ← Hn.out], by rw [hfin.out]; exact HB.out.1, HB.out.2⟩
end Go.Proofs.YtiegakeacghnfaaDoor

namespace Go.Proofs.YtiegakeacghnfaaDoor
open Go.RowKit

def zN : Nm := ⟨zid, rfl⟩
theorem info_name : (Tryd.prog.info? 39).map (fun i => (i.zero, i.size, i.bytes)) = some (some (.agg (vals zid).toArray), 32, 32) := by kernel_rfl
theorem all_rep (n : Nat) : (madeCells (vals zid).toArray (n * 32)).toList = encN.all (List.replicate n zN) := by
  have hzl : (vals zid).length = 32 := by rw [vals_len]; rfl
  apply List.ext_getElem?
  intro t
  by_cases ht : t < n * 32
  · have hd : t / 32 < n := by omega
    have hr : t % 32 < 32 := Nat.mod_lt _ (by decide)
    have he : t / 32 * 32 + t % 32 = t := by omega
    have h := encN.all_get (List.replicate n zN) (t / 32) (t % 32) (by simpa using hd) hr
    rw [show encN.k = 32 from rfl, he] at h
    rw [h, List.getElem_replicate, show encN.f zN = vals zid from rfl]
    generalize vals zid = V at hzl
    simp [madeCells, ht, hzl, hr]
  · have h2 : (encN.all (List.replicate n zN)).length = n * 32 := by rw [encN.all_len, List.length_replicate]; rfl
    rw [List.getElem?_eq_none (by simp [madeCells]; omega), List.getElem?_eq_none (by rw [h2]; omega)]
/-- 'make([]api.ID, n)'. -/
theorem wpList_makeN {ops : Array Oper} {rest : List Oper} {o : Oper} {a : Act} {Q : Exit → Act → World → Prop} {w : World} (hgd : o.guard = none) (l c : Operand) (hop : o.op = Op.makeSlice 28 l c)
    (n : Nat) (L C : Int) (hl : a.eval l = .int .i64 L) (hc : a.eval c = .int .i64 C) (hL : L = (n : Int)) (hC : C = (n : Int)) (hn : n ≤ 1000000)
    (hK : ∀ w', Rw encN 39 w' (some ⟨w.heap.size, 0, none⟩) n (List.replicate n zN) → Below w.heap.size w w' → w.heap.size < w'.heap.size → wpList Tryd.prog ops Q rest (a.put o.dst (.slice (some ⟨w.heap.size, 0, none⟩) n n)) w') :
    wpList Tryd.prog ops Q (o :: rest) a w := by
  obtain ⟨i, hi, hzz⟩ := Option.map_eq_some_iff.1 info_name
  simp only [Prod.mk.injEq] at hzz
  obtain ⟨hz, h1, h2⟩ := hzz
  refine wpList_make_full w hgd l c 28 hop 0 39 i (.agg (vals zid).toArray) 32 Tryd.underlying28 hi hz h1 .i64 .i64 L C n hl hc hL hC (by rw [h2]; omega) (by unfold maxLen; omega) (Nat.zero_le _) ?_
  intro w' hown hgrow
  rw [show (Value.agg (vals zid).toArray).cells = (vals zid).toArray from rfl, all_rep] at hown
  refine hK w' ?_ ((Below.refl _ _).grown hgrow (Nat.le_refl _) (by intro k h; cases h)) ?_
  · unfold Rw; rw [List.length_replicate]; exact hown
  · rcases hown.2 with ⟨h, _⟩ | ⟨g, cap, cur, h, _, hh, _⟩
    · cases h
    · simp only [Value.slice.injEq, Option.some.injEq, Addr.mk.injEq] at h
      obtain ⟨⟨rfl, _⟩, _⟩ := h
      exact (Array.getElem?_eq_some_iff.1 hh).1
theorem ext_bytes (K : List UInt8) (a b : Nat) : (⟨K.toArray⟩ : ByteArray).extract a b = ⟨((K.drop a).take (b - a)).toArray⟩ := by
  apply ByteArray.ext
  simp [List.extract_eq_take_drop]
/-- The i-th 32 bytes. -/
def pc (K : List UInt8) (i : Nat) : Nm := nmOf ((K.drop (i * 32)).take 32)
/-- The pieces of 32 bytes. -/
def pcs (K : List UInt8) : List Nm := (List.range (K.length / 32)).map (pc K)
/-- The first i are written. -/
def mid (K : List UInt8) (m i : Nat) : List Nm := (List.range i).map (pc K) ++ List.replicate (m - i) zN
theorem mid_l (K : List UInt8) (m i : Nat) (h : i ≤ m) : (mid K m i).length = m := by simp [mid]; omega
theorem mid_s (K : List UInt8) (m i : Nat) (h : i < m) : (mid K m i).set i (pc K i) = mid K m (i + 1) := by
  unfold mid
  rw [List.set_append_right _ _ (by simp), List.length_map, List.length_range, Nat.sub_self, show m - i = (m - (i + 1)) + 1 by omega, List.replicate_succ, List.set_cons_zero, List.range_succ, List.map_append, List.append_assoc]
  simp
/-- Are these one to five names, rising? -/
def nmsOk (K : List UInt8) : Bool := decide (K.length % 32 = 0 ∧ 1 ≤ K.length / 32 ∧ K.length / 32 ≤ 5) && rs ((pcs K).map (·.1)) (K.length / 32 - 1)
def NPost (K : List UInt8) (w : World) (r : Ending) (w' : World) : Prop :=
  ∃ q c L, r = .returned (.tuple #[.slice q L.length c, .bool (nmsOk K)]) ∧ L = (if nmsOk K then pcs K else []) ∧ Rw encN 39 w' q c L ∧ (∀ a, q = some a → w.heap.size ≤ a.block) ∧ Below w.heap.size w w'
theorem NPost.no {K : List UInt8} {w w' : World} (h : nmsOk K = false) (hb : Below w.heap.size w w') : NPost K w (.returned (.tuple #[.slice none 0 0, .bool false])) w' :=
  ⟨none, 0, [], by rw [h]; rfl, by rw [h]; rfl, Rw.empty _ _, (fun a e => by cases e), hb⟩
theorem NPost.of {K : List UInt8} {w w' : World} {r : Ending} (h : NPost K w r w') {P : Ending → World → Prop} (hP : P = NPost K w) : P r w' := by rw [hP]; exact h

set_option maxRecDepth 20000 in
set_option maxHeartbeats 4000000 in
theorem hnames_any (K : List UInt8) (w : World) (hK : K.length ≤ 1000000) : Calls Tryd.prog 24 #[.string ⟨K.toArray⟩] w (NPost K w) := by
  obtain ⟨F, hF⟩ : ∃ F, F = NPost K w := ⟨_, rfl⟩
  have HF := Lib.hid hF
  rw [← hF]
  clear hF
  by_cases h1 : K.length % 32 = 0
  · have e1 : (K.length : Int) % 32 = 0 := by omega
    by_cases h2 : 1 ≤ K.length / 32
    · have e2 : ¬ (K.length : Int) / 32 < 1 := by omega
      by_cases h3 : K.length / 32 ≤ 5
      · have e3 : ¬ 5 < (K.length : Int) / 32 := by omega
        obtain ⟨m, hm⟩ : ∃ m, m = K.length / 32 := ⟨_, rfl⟩
        have HM : Hid ((K.length : Int) / 32 = (m : Int)) := Lib.hid (by omega)
        have H5 : Hid (m ≤ 1000000) := Lib.hid (by omega)
        have h5 : m ≤ 5 := by omega
        have Hm := Lib.hid hm
        have Hk : Hid (m * 32 = K.length ∧ nmsOk K = rs ((pcs K).map (·.1)) (m - 1)) := Lib.hid ⟨by omega, by unfold nmsOk; rw [decide_eq_true ⟨h1, h2, h3⟩, Bool.true_and, ← hm]⟩
        clear h1 h2 h3 hm
        go_enter Tryd.func24, Tryd.ntmps24
        go_wp2_with (at_make; refine wpList_makeN rfl _ _ rfl m _ _ rfl rfl HM.out HM.out H5.out ?_; intro w1 hrw hb1 hlt1)
        obtain ⟨g, hg⟩ : ∃ g, g = w.heap.size := ⟨_, rfl⟩
        obtain ⟨o, ho⟩ : ∃ o, o = 0 := ⟨_, rfl⟩
        rw [← hg] at hrw hlt1 ⊢
        rw [show (some (⟨g, 0, none⟩ : Addr)) = some ⟨g, o, none⟩ by rw [ho]]
        have Hg := Lib.hid hg
        have Ho := Lib.hid ho
        have HR1 : Hid (Rw encN 39 w1 (some ⟨g, 0, none⟩) m (mid K m 0) ∧ Below w.heap.size w w1) := Lib.hid ⟨by simpa [mid] using hrw, hb1⟩
        clear hg ho hrw hb1 hlt1
        go_loopw [6, 26] (fun _ s26 wr => ∃ i : Nat, i ≤ m ∧ s26 = .int .i64 (i : Int) ∧ Hid (Rw encN 39 wr (some ⟨g, 0, none⟩) m (mid K m i) ∧ Below w.heap.size w wr)) (fun _ i _ => m - (intOf i).toNat)
        case atStart => exact ⟨0, Nat.zero_le _, rfl, HR1⟩
        case round =>
          clear HR1
          obtain ⟨i, hi, rfl, HB⟩ := hrel
          by_cases hlt : i < m
          · have i0 : (0 : Int) ≤ i := by omega
            have i1 : (i : Int) < m := by omega
            have hk5 : m * 32 = K.length := Hk.out.1
            have e5 : IntKind.i64.wrap ((i : Int) * 32) = (i : Int) * 32 := IntWalk.i64_in _ (by omega)
            have e6 : IntKind.i64.wrap ((i : Int) + 1) = (i : Int) + 1 := IntWalk.i64_in _ (by omega)
            have e7 : IntKind.i64.wrap (((i : Int) + 1) * 32) = ((i : Int) + 1) * 32 := IntWalk.i64_in _ (by omega)
            have e8 : ((i : Int) * 32).toNat = i * 32 := by omega
            have e9 : (((i : Int) + 1) * 32).toNat = (i + 1) * 32 := by omega
            have e10 : (0 : Int) ≤ (i : Int) * 32 := by omega
            have e11 : (i : Int) * 32 ≤ ((i : Int) + 1) * 32 := by omega
            have e12 : ((i : Int) + 1) * 32 ≤ (K.length : Int) := by omega
            have Hlt := Lib.hid hlt
            obtain ⟨x, hx⟩ : ∃ x, x = pc K i := ⟨_, rfl⟩
            have hname : Hid (∀ w, Calls Tryd.prog 46 #[.string ((⟨K.toArray⟩ : ByteArray).extract (i * 32) ((i + 1) * 32))] w fun r w' => r = .returned (.agg (vals x.1).toArray) ∧ Below w.heap.size w w') := Lib.hid (fun w => by
              rw [hx, ext_bytes, show (i + 1) * 32 - i * 32 = 32 by omega]; exact name_any _ w)
            have HST : Hid (∀ w3, Below wr.heap.size wr w3 → ∃ W4, (Rw encN 39 W4 (some ⟨g, 0, none⟩) m (mid K m (i + 1)) ∧ Below w.heap.size w W4) ∧
                ∀ (oo : Oper) (a : Act), oo.op = .store 39 (.tmp 39) (.tmp 38) → a.eval (.tmp 39) = .pointer (some ⟨g, o + i * 32, none⟩) → a.eval (.tmp 38) = .agg (vals x.1).toArray → (execOp a.eval oo).run Tryd.prog w3 = .ok .skip W4) := Lib.hid (fun w3 hb3 => by
              obtain ⟨cur, hh, hsz, hrw⟩ := (HB.out.1.old hb3).setAt i (by rw [mid_l K m i hi]; exact hlt) x
              rw [hx, mid_s K m i hlt] at hrw
              have hm : Below w.heap.size w w3 := HB.out.2.trans (hb3.mono HB.out.2.size)
              refine ⟨_, ⟨hrw, ((Mod.of_below hm).setRow _).to_below (Nat.le_refl _) (by rintro k hk (h | h) <;> (have := Hg.out; omega))⟩, fun oo a h1 h2 h3 => ?_⟩
              have hof : o + i * 32 = i * 32 := by rw [Ho.out, Nat.zero_add]
              rw [hof] at h2
              have h := exec_store_at (P := Tryd.prog) (w := w3) 39 (.tmp 39) (.tmp 38) h1 g (i * 32) h2 39 cur (vals x.1) h3 hh (by rw [vals_len, x.2]; exact hsz) (by rw [vals_len, x.2]; kernel_rfl) (vals_one x.1)
              rw [vals_len, x.2] at h
              rw [← hx]
              exact h)
            clear hk5 hlt hx HB
            go_wp2_with (first | (refine (hname.out _).mono ?_; rintro r w3 ⟨rfl, hb3⟩; obtain ⟨W4, hw4, hst⟩ := HST.out w3 hb3) | (refine wpList_skip rfl rfl (hst _ _ rfl rfl rfl) ?_))
            have HW4 := Lib.hid hw4
            have hlt := Hlt.out
            clear hst hw4 HST hb3
            go_roundw
            case rel => exact ⟨i + 1, by omega, by go_num, HW4⟩
            case measure => simp [intOf]; omega
          · have hend : mid K m i = pcs K := by
              have e : i = m := by omega
              rw [e]; unfold mid pcs; rw [Nat.sub_self, Hm.out]; simp
            have hpl : (pcs K).length = m := by unfold pcs; rw [List.length_map, List.length_range, Hm.out]
            have i1 : ¬ (i : Int) < m := by omega
            obtain ⟨R, hR⟩ : ∃ R, R = rs ((pcs K).map (·.1)) (m - 1) := ⟨_, rfl⟩
            have HW : Hid (Rw encN 39 wr (some ⟨g, 0, none⟩) m (pcs K) ∧ Below w.heap.size w wr) := Lib.hid ⟨by rw [← hend]; exact HB.out.1, HB.out.2⟩
            have hris : Hid (Calls Tryd.prog 28 #[.slice (some ⟨g, o, none⟩) m m] wr fun r w' => r = .returned (.bool R) ∧ Below wr.heap.size wr w') := Lib.hid (by
              have h := rising_any (some ⟨g, 0, none⟩) m (pcs K) wr HW.out.1.rd (by rw [hpl]; exact H5.out)
              rw [hpl, ← hR] at h
              rw [Ho.out]; exact h)
            have HR : Hid (nmsOk K = R) := Lib.hid (by rw [Hk.out.2, hR])
            have Hpl := Lib.hid hpl
            clear hend hpl hR HB
            cases R with
            | true =>
              go_wp2_with (refine hris.out.mono ?_; rintro r w3 ⟨rfl, hb3⟩)
              rw [HF.out]
              exact ⟨some ⟨g, 0, none⟩, m, pcs K, by rw [HR.out, Hpl.out, Ho.out]; rfl, by rw [HR.out]; rfl, HW.out.1.old hb3, (fun a e => by cases e; exact Nat.le_of_eq Hg.out.symm), HW.out.2.trans (hb3.mono HW.out.2.size)⟩
            | false =>
              go_wp2_with (refine hris.out.mono ?_; rintro r w3 ⟨rfl, hb3⟩)
              rw [HF.out]
              exact NPost.no HR.out (HW.out.2.trans (hb3.mono HW.out.2.size))
      · have hno : Hid (nmsOk K = false) := Lib.hid (by unfold nmsOk; rw [decide_eq_false (by omega)]; rfl)
        have e3 : 5 < (K.length : Int) / 32 := by omega
        clear h1 h2 h3
        go_enter Tryd.func24, Tryd.ntmps24
        go_wp2_with fail
        rw [HF.out]
        exact NPost.no hno.out (Below.refl _ _)
    · have hno : Hid (nmsOk K = false) := Lib.hid (by unfold nmsOk; rw [decide_eq_false (by omega)]; rfl)
      have e2 : (K.length : Int) / 32 < 1 := by omega
      clear h1 h2
      go_enter Tryd.func24, Tryd.ntmps24
      go_wp2_with fail
      rw [HF.out]
      exact NPost.no hno.out (Below.refl _ _)
  · have hno : Hid (nmsOk K = false) := Lib.hid (by unfold nmsOk; rw [decide_eq_false (by omega)]; rfl)
    have e1 : ((K.length : Int) % 32 == 0) = false := by simp; omega
    go_enter Tryd.func24, Tryd.ntmps24
    go_wp2_with fail
    rw [HF.out]
    exact NPost.no hno.out (Below.refl _ _)
end Go.Proofs.YtiegakeacghnfaaDoor

namespace Go.Proofs.YtiegakeacghnfaaDoor
open Go.RowKit

theorem cmpB_self (a : List UInt8) : Lib.compareBytes a a = 0 := by
  induction a with
  | nil => rfl
  | cons x l ih => simp [Lib.compareBytes, ih]
theorem cmpB_eq : ∀ (a b : List UInt8), ¬ Lib.compareBytes a b < 0 → ¬ Lib.compareBytes b a < 0 → a = b
  | [], [], _, _ => rfl
  | [], _ :: _, h, _ => absurd (by simp [Lib.compareBytes]) h
  | _ :: _, [], _, h => absurd (by simp [Lib.compareBytes]) h
  | a :: l, b :: m, h1, h2 => by
    simp only [Lib.compareBytes] at h1 h2
    by_cases e : a < b
    · rw [if_pos e] at h1; exact absurd (by decide) h1
    · by_cases e2 : b < a
      · rw [if_pos e2] at h2; exact absurd (by decide) h2
      · rw [if_neg e, if_neg e2] at h1
        rw [if_neg e2, if_neg e] at h2
        have : a = b := UInt8.toNat_inj.1 (by rw [UInt8.lt_iff_toNat_lt] at e e2; omega)
        rw [this, cmpB_eq l m h1 h2]
theorem cmpB_trans : ∀ (a b c : List UInt8), Lib.compareBytes a b < 0 → Lib.compareBytes b c < 0 → Lib.compareBytes a c < 0
  | [], [], _, h, _ => by exact absurd h (by decide)
  | [], _ :: _, [], _, h => by exact absurd h (by simp [Lib.compareBytes])
  | [], _ :: _, _ :: _, _, _ => by simp [Lib.compareBytes]
  | _ :: _, [], _, h, _ => by exact absurd h (by simp [Lib.compareBytes])
  | _ :: _, _ :: _, [], _, h => by exact absurd h (by simp [Lib.compareBytes])
  | a :: l, b :: m, c :: n, h1, h2 => by
    simp only [Lib.compareBytes] at h1 h2 ⊢
    simp only [UInt8.lt_iff_toNat_lt] at h1 h2 ⊢
    by_cases e1 : a.toNat < b.toNat
    · by_cases e2 : b.toNat < c.toNat
      · rw [if_pos (by omega)]; decide
      · rw [if_neg e2] at h2
        by_cases e3 : c.toNat < b.toNat
        · rw [if_pos e3] at h2; exact absurd h2 (by decide)
        · rw [if_pos (by omega)]; decide
    · rw [if_neg e1] at h1
      by_cases e4 : b.toNat < a.toNat
      · rw [if_pos e4] at h1; exact absurd h1 (by decide)
      · rw [if_neg e4] at h1
        by_cases e2 : b.toNat < c.toNat
        · rw [if_pos (by omega)]; decide
        · rw [if_neg e2] at h2
          by_cases e3 : c.toNat < b.toNat
          · rw [if_pos e3] at h2; exact absurd h2 (by decide)
          · rw [if_neg e3] at h2
            rw [if_neg (by omega), if_neg (by omega)]
            exact cmpB_trans l m n h1 h2
/-- One more text, rising, once. -/
def insB (s : List UInt8) : List (List UInt8) → List (List UInt8)
  | [] => [s]
  | t :: r => if Lib.compareBytes s t < 0 then s :: t :: r else if Lib.compareBytes t s < 0 then t :: insB s r else t :: r
/-- A round of the reference's inner loop: what is next, is s done? -/
def insR (s : List UInt8) (st : List (List UInt8) × Bool) (t : List UInt8) : List (List UInt8) × Bool :=
  ((if !st.2 && decide (Lib.compareBytes s t < 0) then st.1 ++ [s] else st.1) ++ [t], st.2 || !decide (Lib.compareBytes t s < 0))
def insE (s : List UInt8) (st : List (List UInt8) × Bool) : List (List UInt8) := if st.2 then st.1 else st.1 ++ [s]
theorem insR_true (s : List UInt8) (l A : List (List UInt8)) : insE s (l.foldl (insR s) (A, true)) = A ++ l := by
  induction l generalizing A with
  | nil => simp [insE]
  | cons t r ih => rw [List.foldl_cons, show insR s (A, true) t = (A ++ [t], true) by simp [insR], ih]; simp
theorem insR_false (s : List UInt8) (l A : List (List UInt8)) : insE s (l.foldl (insR s) (A, false)) = A ++ insB s l := by
  induction l generalizing A with
  | nil => simp [insE, insB]
  | cons t r ih =>
    rw [List.foldl_cons]
    by_cases h1 : Lib.compareBytes s t < 0
    · have h2 : ¬ Lib.compareBytes t s < 0 := fun h => by have := cmpB_trans s t s h1 h; rw [cmpB_self] at this; exact absurd this (by decide)
      rw [show insR s (A, false) t = (A ++ [s] ++ [t], true) by simp [insR, h1, h2], insR_true, insB, if_pos h1]; simp
    · by_cases h2 : Lib.compareBytes t s < 0
      · rw [show insR s (A, false) t = (A ++ [t], false) by simp [insR, h1, h2], ih, insB, if_neg h1, if_pos h2]; simp
      · rw [show insR s (A, false) t = (A ++ [t], true) by simp [insR, h1, h2], insR_true, insB, if_neg h1, if_neg h2]; simp
/-- The reference's Sort. -/
def rsort (L : List (List UInt8)) : List (List UInt8) := L.foldl (fun out s => insB s out) []
theorem rsort_snoc (L : List (List UInt8)) (s : List UInt8) : rsort (L ++ [s]) = insB s (rsort L) := by simp [rsort, List.foldl_append]
end Go.Proofs.YtiegakeacghnfaaDoor

namespace Go.Proofs.YtiegakeacghnfaaDoor
open Go.RowKit

theorem cat_bytes (a b : List UInt8) : (⟨a.toArray⟩ : ByteArray) ++ (⟨b.toArray⟩ : ByteArray) = ⟨(a ++ b).toArray⟩ := by
  apply ByteArray.ext; simp

set_option maxRecDepth 20000 in
set_option maxHeartbeats 4000000 in
theorem rjoin_any (ao : Option Addr) (cap : Nat) (L : List (List UInt8)) (w : World) (hL : Rd encS w ao L) (hn : L.length ≤ 1000000) (hl : L.flatten.length ≤ 1000000000) :
    Calls Tryd.prog 23 #[.slice ao L.length cap] w fun r w' => r = .returned (.string ⟨L.flatten.toArray⟩) ∧ w = w' := by
  obtain ⟨n, hnL⟩ : ∃ n, n = L.length := ⟨_, rfl⟩
  obtain ⟨S, hS⟩ : ∃ S, S = L.flatten := ⟨_, rfl⟩
  rw [← hS] at hl ⊢
  rw [← hnL] at hn ⊢
  have Hn := Lib.hid hnL
  have HS := Lib.hid hS
  have HL := Lib.hid hL
  clear hnL hL hS
  go_enter Tryd.func23, Tryd.ntmps23
  go_wp2_with fail
  go_loopw [3, 5, 8] (fun s3 _ s8 wr => ∃ (k : Nat) (D : List UInt8), k ≤ n ∧ s8 = .int .i64 (k : Int) ∧ s3 = .string ⟨D.toArray⟩ ∧ Hid (D = (L.take k).flatten) ∧ Hid (w = wr)) (fun _ _ i _ => n - (intOf i).toNat)
  case atStart => exact ⟨0, [], Nat.zero_le _, rfl, rfl, Lib.hid rfl, Lib.hid rfl⟩
  case round =>
    obtain ⟨k, D, hk, rfl, rfl, HD, HW⟩ := hrel
    by_cases hlt : k < n
    · have hkL : k < L.length := by rw [← Hn.out]; exact hlt
      have hw := HW.out
      subst hw
      obtain ⟨bs, off, rfl, hbs, cx⟩ := HL.out.str k hkL
      have hnx : L.take (k + 1) = L.take k ++ [L[k]] := List.take_succ_eq_append_getElem hkL
      obtain ⟨x, hx⟩ : ∃ x, x = L[k] := ⟨_, rfl⟩
      rw [← hx] at cx hnx
      have Hnx : Hid (D ++ x = (L.take (k + 1)).flatten) := Lib.hid (by rw [hnx, List.flatten_append, HD.out]; simp)
      have i0 : (0 : Int) ≤ k := by omega
      have i1 : (k : Int) < n := by omega
      have Hlt := Lib.hid hlt
      have hle : D.length + x.length ≤ 1000000000 := by
        have e : S = (L.take (k + 1)).flatten ++ (L.drop (k + 1)).flatten := by rw [HS.out, ← List.flatten_append, List.take_append_drop]
        have e2 := congrArg List.length e
        rw [List.length_append, ← Hnx.out, List.length_append] at e2
        omega
      have hle2 : (D.length : Int) + x.length ≤ 9223372036854775807 := by omega
      have hle3 : D.length + x.length ≤ 9223372036854775807 := by omega
      clear hle
      clear hx hnx hkL hlt
      go_wp2_with fail
      go_roundw
      case rel => exact ⟨k + 1, D ++ x, by have := Hlt.out; omega, by go_num, val_str (cat_bytes D x), Hnx, Lib.hid trivial⟩
      case measure => have := Hlt.out; simp [intOf]; omega
    · have i1 : ¬ (k : Int) < n := by omega
      have e : k = n := by omega
      obtain rfl : D = S := by rw [HD.out, HS.out, e, Hn.out, List.take_length]
      clear e
      go_wp2_with fail
      go_ret
      exact ⟨rfl, HW.out⟩
end Go.Proofs.YtiegakeacghnfaaDoor
