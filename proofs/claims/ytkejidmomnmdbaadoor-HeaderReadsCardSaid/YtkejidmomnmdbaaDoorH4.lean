/- Which headers may be. -/
import Derived.Test.YtkejidmomnmdbaaDoorH3
namespace Go.Proofs.YtkejidmomnmdbaaDoor
open Go.RowKit

/-- A header's fields; its parents of whatever kind. -/
structure Hd (α : Type) where
  ht : Int
  mi : Int
  tk : List UInt8
  wi : Int
  pw : Nat
  ps : List α
  sa : Int
def hcells {α : Type} (h : Hd α) (ao : Option Addr) (cap : Nat) : Array Value := #[.int .i64 h.ht, .int .i64 h.mi, .string ⟨h.tk.toArray⟩, .int .i64 h.wi, .int .u64 (h.pw : Int), .slice ao h.ps.length cap, .int .i64 h.sa]
/-- Which headers may be, but for their parents' order. -/
def chk {α : Type} (h : Hd α) (R : Bool) : Int :=
  if 5 < h.ps.length then 4
  else if (h.ht < 1 ∨ 1073741824 < h.ht) ∨ (h.mi < 0 ∨ 64 ≤ h.mi) ∨ (h.tk.length < 1 ∨ 8 < h.tk.length) ∨ (h.wi < 1 ∨ 15 < h.wi) ∨ (h.pw < 2 ∨ 4611686018427387904 < h.pw) ∨ (h.ps.length < 1 ∨ R = false) ∨ (h.sa < 0 ∨ 1073741824 < h.sa) then 1 else 0
theorem bcellH {W W' : World} (hb : Below W.heap.size W W') : (∀ b o, b < W.heap.size → W'.cell? ⟨b, o, none⟩ = W.cell? ⟨b, o, none⟩) ∧ (∀ b o, b < W.heap.size → W'.frozen? ⟨b, o, none⟩ = W.frozen? ⟨b, o, none⟩) :=
  ⟨fun b o h => hb.cell (p := ⟨b, o, none⟩) h, fun b o h => hb.frozen (p := ⟨b, o, none⟩) h⟩
set_option maxRecDepth 20000 in
set_option maxHeartbeats 2000000 in
theorem hchk_big (h : Hd Nm) (ao : Option Addr) (cap : Nat) (w : World) (hL : Rd encN w ao h.ps) (l n : Nat) (hl : l = h.tk.length) (hn : n = h.ps.length) (R : Bool) (hR : R = rs (h.ps.map (·.1)) (n - 1)) (g0 : 5 < n) :
    Calls Tryd.prog 29 #[.agg (hcells h ao cap)] w fun r w' => r = .returned (.int .i64 4) ∧ Below w.heap.size w w' := by
  obtain ⟨ht, mi, tk, wi, pw, ps, sa⟩ := h
  simp only at *
  unfold hcells
  simp only
  rw [← hn]
  have hsz : (ByteArray.mk tk.toArray).size = l := hl.symm
  have Hris : Hid (∀ w', Below w.heap.size w w' → n ≤ 1000000 → Calls Tryd.prog 95 #[.slice ao n cap] w' fun r w'' => r = .returned (.bool R) ∧ Below w'.heap.size w' w'') := Lib.hid (fun w' hb h6 => by
    have := rising_any ao cap ps w' (hL.old hb) (by omega)
    rw [← hn, ← hR] at this; exact this)
  clear hl hL hn hR
  have f5 : 5 < (n : Int) := by omega
  have hb0 : Below w.heap.size w (w.alloc (.cells #[.int .i64 ht, .int .i64 mi, .string ⟨tk.toArray⟩, .int .i64 wi, .int .u64 (pw : Int), .slice ao n cap, .int .i64 sa] 43)) := (Below.refl _ w).alloc (Nat.le_refl _) _
  clear g0
  go_enter Tryd.func29, Tryd.ntmps29
  go_wp2_with fail
  go_ret
  exact ⟨rfl, hb0⟩
set_option maxRecDepth 20000 in
set_option maxHeartbeats 2000000 in
theorem hchk_ht1 (h : Hd Nm) (ao : Option Addr) (cap : Nat) (w : World) (hL : Rd encN w ao h.ps) (l n : Nat) (hl : l = h.tk.length) (hn : n = h.ps.length) (R : Bool) (hR : R = rs (h.ps.map (·.1)) (n - 1)) (g0 : ¬ 5 < n) (g1 : h.ht < 1) :
    Calls Tryd.prog 29 #[.agg (hcells h ao cap)] w fun r w' => r = .returned (.int .i64 1) ∧ Below w.heap.size w w' := by
  obtain ⟨ht, mi, tk, wi, pw, ps, sa⟩ := h
  simp only at *
  unfold hcells
  simp only
  rw [← hn]
  have hsz : (ByteArray.mk tk.toArray).size = l := hl.symm
  have Hris : Hid (∀ w', Below w.heap.size w w' → n ≤ 1000000 → Calls Tryd.prog 95 #[.slice ao n cap] w' fun r w'' => r = .returned (.bool R) ∧ Below w'.heap.size w' w'') := Lib.hid (fun w' hb h6 => by
    have := rising_any ao cap ps w' (hL.old hb) (by omega)
    rw [← hn, ← hR] at this; exact this)
  clear hl hL hn hR
  have f5 : (n : Int) ≤ 5 := by omega
  have f5' : n ≤ 5 := by omega
  have e1 : ht < 1 := by omega
  have hb0 : Below w.heap.size w (w.alloc (.cells #[.int .i64 ht, .int .i64 mi, .string ⟨tk.toArray⟩, .int .i64 wi, .int .u64 (pw : Int), .slice ao n cap, .int .i64 sa] 43)) := (Below.refl _ w).alloc (Nat.le_refl _) _
  clear g0 g1
  go_enter Tryd.func29, Tryd.ntmps29
  go_wp2_with fail
  go_ret
  exact ⟨rfl, hb0⟩
set_option maxRecDepth 20000 in
set_option maxHeartbeats 2000000 in
theorem hchk_ht2 (h : Hd Nm) (ao : Option Addr) (cap : Nat) (w : World) (hL : Rd encN w ao h.ps) (l n : Nat) (hl : l = h.tk.length) (hn : n = h.ps.length) (R : Bool) (hR : R = rs (h.ps.map (·.1)) (n - 1)) (g0 : ¬ 5 < n) (g1 : ¬ h.ht < 1) (g2 : 1073741824 < h.ht) :
    Calls Tryd.prog 29 #[.agg (hcells h ao cap)] w fun r w' => r = .returned (.int .i64 1) ∧ Below w.heap.size w w' := by
  obtain ⟨ht, mi, tk, wi, pw, ps, sa⟩ := h
  simp only at *
  unfold hcells
  simp only
  rw [← hn]
  have hsz : (ByteArray.mk tk.toArray).size = l := hl.symm
  have Hris : Hid (∀ w', Below w.heap.size w w' → n ≤ 1000000 → Calls Tryd.prog 95 #[.slice ao n cap] w' fun r w'' => r = .returned (.bool R) ∧ Below w'.heap.size w' w'') := Lib.hid (fun w' hb h6 => by
    have := rising_any ao cap ps w' (hL.old hb) (by omega)
    rw [← hn, ← hR] at this; exact this)
  clear hl hL hn hR
  have f5 : (n : Int) ≤ 5 := by omega
  have f5' : n ≤ 5 := by omega
  have fht1 : 1 ≤ ht := by omega
  have e1 : 1073741824 < ht := by omega
  have hb0 : Below w.heap.size w (w.alloc (.cells #[.int .i64 ht, .int .i64 mi, .string ⟨tk.toArray⟩, .int .i64 wi, .int .u64 (pw : Int), .slice ao n cap, .int .i64 sa] 43)) := (Below.refl _ w).alloc (Nat.le_refl _) _
  clear g0 g1 g2
  go_enter Tryd.func29, Tryd.ntmps29
  go_wp2_with fail
  go_ret
  exact ⟨rfl, hb0⟩
set_option maxRecDepth 20000 in
set_option maxHeartbeats 2000000 in
theorem hchk_mi1 (h : Hd Nm) (ao : Option Addr) (cap : Nat) (w : World) (hL : Rd encN w ao h.ps) (l n : Nat) (hl : l = h.tk.length) (hn : n = h.ps.length) (R : Bool) (hR : R = rs (h.ps.map (·.1)) (n - 1)) (g0 : ¬ 5 < n) (g1 : ¬ h.ht < 1) (g2 : ¬ 1073741824 < h.ht) (g3 : h.mi < 0) :
    Calls Tryd.prog 29 #[.agg (hcells h ao cap)] w fun r w' => r = .returned (.int .i64 1) ∧ Below w.heap.size w w' := by
  obtain ⟨ht, mi, tk, wi, pw, ps, sa⟩ := h
  simp only at *
  unfold hcells
  simp only
  rw [← hn]
  have hsz : (ByteArray.mk tk.toArray).size = l := hl.symm
  have Hris : Hid (∀ w', Below w.heap.size w w' → n ≤ 1000000 → Calls Tryd.prog 95 #[.slice ao n cap] w' fun r w'' => r = .returned (.bool R) ∧ Below w'.heap.size w' w'') := Lib.hid (fun w' hb h6 => by
    have := rising_any ao cap ps w' (hL.old hb) (by omega)
    rw [← hn, ← hR] at this; exact this)
  clear hl hL hn hR
  have f5 : (n : Int) ≤ 5 := by omega
  have f5' : n ≤ 5 := by omega
  have fht1 : 1 ≤ ht := by omega
  have fht2 : ht ≤ 1073741824 := by omega
  have e1 : mi < 0 := by omega
  have hb0 : Below w.heap.size w (w.alloc (.cells #[.int .i64 ht, .int .i64 mi, .string ⟨tk.toArray⟩, .int .i64 wi, .int .u64 (pw : Int), .slice ao n cap, .int .i64 sa] 43)) := (Below.refl _ w).alloc (Nat.le_refl _) _
  clear g0 g1 g2 g3
  go_enter Tryd.func29, Tryd.ntmps29
  go_wp2_with fail
  go_ret
  exact ⟨rfl, hb0⟩
set_option maxRecDepth 20000 in
set_option maxHeartbeats 2000000 in
theorem hchk_mi2 (h : Hd Nm) (ao : Option Addr) (cap : Nat) (w : World) (hL : Rd encN w ao h.ps) (l n : Nat) (hl : l = h.tk.length) (hn : n = h.ps.length) (R : Bool) (hR : R = rs (h.ps.map (·.1)) (n - 1)) (g0 : ¬ 5 < n) (g1 : ¬ h.ht < 1) (g2 : ¬ 1073741824 < h.ht) (g3 : ¬ h.mi < 0) (g4 : 64 ≤ h.mi) :
    Calls Tryd.prog 29 #[.agg (hcells h ao cap)] w fun r w' => r = .returned (.int .i64 1) ∧ Below w.heap.size w w' := by
  obtain ⟨ht, mi, tk, wi, pw, ps, sa⟩ := h
  simp only at *
  unfold hcells
  simp only
  rw [← hn]
  have hsz : (ByteArray.mk tk.toArray).size = l := hl.symm
  have Hris : Hid (∀ w', Below w.heap.size w w' → n ≤ 1000000 → Calls Tryd.prog 95 #[.slice ao n cap] w' fun r w'' => r = .returned (.bool R) ∧ Below w'.heap.size w' w'') := Lib.hid (fun w' hb h6 => by
    have := rising_any ao cap ps w' (hL.old hb) (by omega)
    rw [← hn, ← hR] at this; exact this)
  clear hl hL hn hR
  have f5 : (n : Int) ≤ 5 := by omega
  have f5' : n ≤ 5 := by omega
  have fht1 : 1 ≤ ht := by omega
  have fht2 : ht ≤ 1073741824 := by omega
  have fmi1 : 0 ≤ mi := by omega
  have e1 : 64 ≤ mi := by omega
  have hb0 : Below w.heap.size w (w.alloc (.cells #[.int .i64 ht, .int .i64 mi, .string ⟨tk.toArray⟩, .int .i64 wi, .int .u64 (pw : Int), .slice ao n cap, .int .i64 sa] 43)) := (Below.refl _ w).alloc (Nat.le_refl _) _
  clear g0 g1 g2 g3 g4
  go_enter Tryd.func29, Tryd.ntmps29
  go_wp2_with fail
  go_ret
  exact ⟨rfl, hb0⟩
set_option maxRecDepth 20000 in
set_option maxHeartbeats 2000000 in
theorem hchk_tk1 (h : Hd Nm) (ao : Option Addr) (cap : Nat) (w : World) (hL : Rd encN w ao h.ps) (l n : Nat) (hl : l = h.tk.length) (hn : n = h.ps.length) (R : Bool) (hR : R = rs (h.ps.map (·.1)) (n - 1)) (g0 : ¬ 5 < n) (g1 : ¬ h.ht < 1) (g2 : ¬ 1073741824 < h.ht) (g3 : ¬ h.mi < 0) (g4 : ¬ 64 ≤ h.mi) (g5 : l < 1) :
    Calls Tryd.prog 29 #[.agg (hcells h ao cap)] w fun r w' => r = .returned (.int .i64 1) ∧ Below w.heap.size w w' := by
  obtain ⟨ht, mi, tk, wi, pw, ps, sa⟩ := h
  simp only at *
  unfold hcells
  simp only
  rw [← hn]
  have hsz : (ByteArray.mk tk.toArray).size = l := hl.symm
  have Hris : Hid (∀ w', Below w.heap.size w w' → n ≤ 1000000 → Calls Tryd.prog 95 #[.slice ao n cap] w' fun r w'' => r = .returned (.bool R) ∧ Below w'.heap.size w' w'') := Lib.hid (fun w' hb h6 => by
    have := rising_any ao cap ps w' (hL.old hb) (by omega)
    rw [← hn, ← hR] at this; exact this)
  clear hl hL hn hR
  have f5 : (n : Int) ≤ 5 := by omega
  have f5' : n ≤ 5 := by omega
  have fht1 : 1 ≤ ht := by omega
  have fht2 : ht ≤ 1073741824 := by omega
  have fmi1 : 0 ≤ mi := by omega
  have fmi2 : mi ≤ 63 := by omega
  have e1 : (l : Int) < 1 := by omega
  have e2 : l = 0 := by omega
  have hb0 : Below w.heap.size w (w.alloc (.cells #[.int .i64 ht, .int .i64 mi, .string ⟨tk.toArray⟩, .int .i64 wi, .int .u64 (pw : Int), .slice ao n cap, .int .i64 sa] 43)) := (Below.refl _ w).alloc (Nat.le_refl _) _
  clear g0 g1 g2 g3 g4 g5
  go_enter Tryd.func29, Tryd.ntmps29
  go_wp2_with fail
  go_ret
  exact ⟨rfl, hb0⟩
set_option maxRecDepth 20000 in
set_option maxHeartbeats 2000000 in
theorem hchk_tk2 (h : Hd Nm) (ao : Option Addr) (cap : Nat) (w : World) (hL : Rd encN w ao h.ps) (l n : Nat) (hl : l = h.tk.length) (hn : n = h.ps.length) (R : Bool) (hR : R = rs (h.ps.map (·.1)) (n - 1)) (g0 : ¬ 5 < n) (g1 : ¬ h.ht < 1) (g2 : ¬ 1073741824 < h.ht) (g3 : ¬ h.mi < 0) (g4 : ¬ 64 ≤ h.mi) (g5 : ¬ l < 1) (g6 : 8 < l) :
    Calls Tryd.prog 29 #[.agg (hcells h ao cap)] w fun r w' => r = .returned (.int .i64 1) ∧ Below w.heap.size w w' := by
  obtain ⟨ht, mi, tk, wi, pw, ps, sa⟩ := h
  simp only at *
  unfold hcells
  simp only
  rw [← hn]
  have hsz : (ByteArray.mk tk.toArray).size = l := hl.symm
  have Hris : Hid (∀ w', Below w.heap.size w w' → n ≤ 1000000 → Calls Tryd.prog 95 #[.slice ao n cap] w' fun r w'' => r = .returned (.bool R) ∧ Below w'.heap.size w' w'') := Lib.hid (fun w' hb h6 => by
    have := rising_any ao cap ps w' (hL.old hb) (by omega)
    rw [← hn, ← hR] at this; exact this)
  clear hl hL hn hR
  have f5 : (n : Int) ≤ 5 := by omega
  have f5' : n ≤ 5 := by omega
  have fht1 : 1 ≤ ht := by omega
  have fht2 : ht ≤ 1073741824 := by omega
  have fmi1 : 0 ≤ mi := by omega
  have fmi2 : mi ≤ 63 := by omega
  have ftk1 : 1 ≤ (l : Int) := by omega
  have ftk3 : 0 < l := by omega
  have ftk4 : l ≠ 0 := by omega
  have e1 : 8 < (l : Int) := by omega
  have e2 : 8 < l := by omega
  have hb0 : Below w.heap.size w (w.alloc (.cells #[.int .i64 ht, .int .i64 mi, .string ⟨tk.toArray⟩, .int .i64 wi, .int .u64 (pw : Int), .slice ao n cap, .int .i64 sa] 43)) := (Below.refl _ w).alloc (Nat.le_refl _) _
  clear g0 g1 g2 g3 g4 g5 g6
  go_enter Tryd.func29, Tryd.ntmps29
  go_wp2_with fail
  go_ret
  exact ⟨rfl, hb0⟩
set_option maxRecDepth 20000 in
set_option maxHeartbeats 2000000 in
theorem hchk_wi1 (h : Hd Nm) (ao : Option Addr) (cap : Nat) (w : World) (hL : Rd encN w ao h.ps) (l n : Nat) (hl : l = h.tk.length) (hn : n = h.ps.length) (R : Bool) (hR : R = rs (h.ps.map (·.1)) (n - 1)) (g0 : ¬ 5 < n) (g1 : ¬ h.ht < 1) (g2 : ¬ 1073741824 < h.ht) (g3 : ¬ h.mi < 0) (g4 : ¬ 64 ≤ h.mi) (g5 : ¬ l < 1) (g6 : ¬ 8 < l) (g7 : h.wi < 1) :
    Calls Tryd.prog 29 #[.agg (hcells h ao cap)] w fun r w' => r = .returned (.int .i64 1) ∧ Below w.heap.size w w' := by
  obtain ⟨ht, mi, tk, wi, pw, ps, sa⟩ := h
  simp only at *
  unfold hcells
  simp only
  rw [← hn]
  have hsz : (ByteArray.mk tk.toArray).size = l := hl.symm
  have Hris : Hid (∀ w', Below w.heap.size w w' → n ≤ 1000000 → Calls Tryd.prog 95 #[.slice ao n cap] w' fun r w'' => r = .returned (.bool R) ∧ Below w'.heap.size w' w'') := Lib.hid (fun w' hb h6 => by
    have := rising_any ao cap ps w' (hL.old hb) (by omega)
    rw [← hn, ← hR] at this; exact this)
  clear hl hL hn hR
  have f5 : (n : Int) ≤ 5 := by omega
  have f5' : n ≤ 5 := by omega
  have fht1 : 1 ≤ ht := by omega
  have fht2 : ht ≤ 1073741824 := by omega
  have fmi1 : 0 ≤ mi := by omega
  have fmi2 : mi ≤ 63 := by omega
  have ftk1 : 1 ≤ (l : Int) := by omega
  have ftk2 : (l : Int) ≤ 8 := by omega
  have ftk3 : 0 < l := by omega
  have ftk4 : l ≠ 0 := by omega
  have ftk5 : l ≤ 8 := by omega
  have e1 : wi < 1 := by omega
  have hb0 : Below w.heap.size w (w.alloc (.cells #[.int .i64 ht, .int .i64 mi, .string ⟨tk.toArray⟩, .int .i64 wi, .int .u64 (pw : Int), .slice ao n cap, .int .i64 sa] 43)) := (Below.refl _ w).alloc (Nat.le_refl _) _
  clear g0 g1 g2 g3 g4 g5 g6 g7
  go_enter Tryd.func29, Tryd.ntmps29
  go_wp2_with fail
  go_ret
  exact ⟨rfl, hb0⟩
set_option maxRecDepth 20000 in
set_option maxHeartbeats 2000000 in
theorem hchk_wi2 (h : Hd Nm) (ao : Option Addr) (cap : Nat) (w : World) (hL : Rd encN w ao h.ps) (l n : Nat) (hl : l = h.tk.length) (hn : n = h.ps.length) (R : Bool) (hR : R = rs (h.ps.map (·.1)) (n - 1)) (g0 : ¬ 5 < n) (g1 : ¬ h.ht < 1) (g2 : ¬ 1073741824 < h.ht) (g3 : ¬ h.mi < 0) (g4 : ¬ 64 ≤ h.mi) (g5 : ¬ l < 1) (g6 : ¬ 8 < l) (g7 : ¬ h.wi < 1) (g8 : 15 < h.wi) :
    Calls Tryd.prog 29 #[.agg (hcells h ao cap)] w fun r w' => r = .returned (.int .i64 1) ∧ Below w.heap.size w w' := by
  obtain ⟨ht, mi, tk, wi, pw, ps, sa⟩ := h
  simp only at *
  unfold hcells
  simp only
  rw [← hn]
  have hsz : (ByteArray.mk tk.toArray).size = l := hl.symm
  have Hris : Hid (∀ w', Below w.heap.size w w' → n ≤ 1000000 → Calls Tryd.prog 95 #[.slice ao n cap] w' fun r w'' => r = .returned (.bool R) ∧ Below w'.heap.size w' w'') := Lib.hid (fun w' hb h6 => by
    have := rising_any ao cap ps w' (hL.old hb) (by omega)
    rw [← hn, ← hR] at this; exact this)
  clear hl hL hn hR
  have f5 : (n : Int) ≤ 5 := by omega
  have f5' : n ≤ 5 := by omega
  have fht1 : 1 ≤ ht := by omega
  have fht2 : ht ≤ 1073741824 := by omega
  have fmi1 : 0 ≤ mi := by omega
  have fmi2 : mi ≤ 63 := by omega
  have ftk1 : 1 ≤ (l : Int) := by omega
  have ftk2 : (l : Int) ≤ 8 := by omega
  have ftk3 : 0 < l := by omega
  have ftk4 : l ≠ 0 := by omega
  have ftk5 : l ≤ 8 := by omega
  have fwi1 : 1 ≤ wi := by omega
  have e1 : 15 < wi := by omega
  have hb0 : Below w.heap.size w (w.alloc (.cells #[.int .i64 ht, .int .i64 mi, .string ⟨tk.toArray⟩, .int .i64 wi, .int .u64 (pw : Int), .slice ao n cap, .int .i64 sa] 43)) := (Below.refl _ w).alloc (Nat.le_refl _) _
  clear g0 g1 g2 g3 g4 g5 g6 g7 g8
  go_enter Tryd.func29, Tryd.ntmps29
  go_wp2_with fail
  go_ret
  exact ⟨rfl, hb0⟩
set_option maxRecDepth 20000 in
set_option maxHeartbeats 2000000 in
theorem hchk_pw1 (h : Hd Nm) (ao : Option Addr) (cap : Nat) (w : World) (hL : Rd encN w ao h.ps) (l n : Nat) (hl : l = h.tk.length) (hn : n = h.ps.length) (R : Bool) (hR : R = rs (h.ps.map (·.1)) (n - 1)) (g0 : ¬ 5 < n) (g1 : ¬ h.ht < 1) (g2 : ¬ 1073741824 < h.ht) (g3 : ¬ h.mi < 0) (g4 : ¬ 64 ≤ h.mi) (g5 : ¬ l < 1) (g6 : ¬ 8 < l) (g7 : ¬ h.wi < 1) (g8 : ¬ 15 < h.wi) (g9 : h.pw < 2) :
    Calls Tryd.prog 29 #[.agg (hcells h ao cap)] w fun r w' => r = .returned (.int .i64 1) ∧ Below w.heap.size w w' := by
  obtain ⟨ht, mi, tk, wi, pw, ps, sa⟩ := h
  simp only at *
  unfold hcells
  simp only
  rw [← hn]
  have hsz : (ByteArray.mk tk.toArray).size = l := hl.symm
  have Hris : Hid (∀ w', Below w.heap.size w w' → n ≤ 1000000 → Calls Tryd.prog 95 #[.slice ao n cap] w' fun r w'' => r = .returned (.bool R) ∧ Below w'.heap.size w' w'') := Lib.hid (fun w' hb h6 => by
    have := rising_any ao cap ps w' (hL.old hb) (by omega)
    rw [← hn, ← hR] at this; exact this)
  clear hl hL hn hR
  have f5 : (n : Int) ≤ 5 := by omega
  have f5' : n ≤ 5 := by omega
  have fht1 : 1 ≤ ht := by omega
  have fht2 : ht ≤ 1073741824 := by omega
  have fmi1 : 0 ≤ mi := by omega
  have fmi2 : mi ≤ 63 := by omega
  have ftk1 : 1 ≤ (l : Int) := by omega
  have ftk2 : (l : Int) ≤ 8 := by omega
  have ftk3 : 0 < l := by omega
  have ftk4 : l ≠ 0 := by omega
  have ftk5 : l ≤ 8 := by omega
  have fwi1 : 1 ≤ wi := by omega
  have fwi2 : wi ≤ 15 := by omega
  have e1 : (pw : Int) < 2 := by omega
  have hb0 : Below w.heap.size w (w.alloc (.cells #[.int .i64 ht, .int .i64 mi, .string ⟨tk.toArray⟩, .int .i64 wi, .int .u64 (pw : Int), .slice ao n cap, .int .i64 sa] 43)) := (Below.refl _ w).alloc (Nat.le_refl _) _
  clear g0 g1 g2 g3 g4 g5 g6 g7 g8 g9
  go_enter Tryd.func29, Tryd.ntmps29
  go_wp2_with fail
  go_ret
  exact ⟨rfl, hb0⟩
set_option maxRecDepth 20000 in
set_option maxHeartbeats 2000000 in
theorem hchk_pw2 (h : Hd Nm) (ao : Option Addr) (cap : Nat) (w : World) (hL : Rd encN w ao h.ps) (l n : Nat) (hl : l = h.tk.length) (hn : n = h.ps.length) (R : Bool) (hR : R = rs (h.ps.map (·.1)) (n - 1)) (g0 : ¬ 5 < n) (g1 : ¬ h.ht < 1) (g2 : ¬ 1073741824 < h.ht) (g3 : ¬ h.mi < 0) (g4 : ¬ 64 ≤ h.mi) (g5 : ¬ l < 1) (g6 : ¬ 8 < l) (g7 : ¬ h.wi < 1) (g8 : ¬ 15 < h.wi) (g9 : ¬ h.pw < 2) (g10 : 4611686018427387904 < h.pw) :
    Calls Tryd.prog 29 #[.agg (hcells h ao cap)] w fun r w' => r = .returned (.int .i64 1) ∧ Below w.heap.size w w' := by
  obtain ⟨ht, mi, tk, wi, pw, ps, sa⟩ := h
  simp only at *
  unfold hcells
  simp only
  rw [← hn]
  have hsz : (ByteArray.mk tk.toArray).size = l := hl.symm
  have Hris : Hid (∀ w', Below w.heap.size w w' → n ≤ 1000000 → Calls Tryd.prog 95 #[.slice ao n cap] w' fun r w'' => r = .returned (.bool R) ∧ Below w'.heap.size w' w'') := Lib.hid (fun w' hb h6 => by
    have := rising_any ao cap ps w' (hL.old hb) (by omega)
    rw [← hn, ← hR] at this; exact this)
  clear hl hL hn hR
  have f5 : (n : Int) ≤ 5 := by omega
  have f5' : n ≤ 5 := by omega
  have fht1 : 1 ≤ ht := by omega
  have fht2 : ht ≤ 1073741824 := by omega
  have fmi1 : 0 ≤ mi := by omega
  have fmi2 : mi ≤ 63 := by omega
  have ftk1 : 1 ≤ (l : Int) := by omega
  have ftk2 : (l : Int) ≤ 8 := by omega
  have ftk3 : 0 < l := by omega
  have ftk4 : l ≠ 0 := by omega
  have ftk5 : l ≤ 8 := by omega
  have fwi1 : 1 ≤ wi := by omega
  have fwi2 : wi ≤ 15 := by omega
  have fpw1 : 2 ≤ (pw : Int) := by omega
  have e1 : 4611686018427387904 < (pw : Int) := by omega
  have hb0 : Below w.heap.size w (w.alloc (.cells #[.int .i64 ht, .int .i64 mi, .string ⟨tk.toArray⟩, .int .i64 wi, .int .u64 (pw : Int), .slice ao n cap, .int .i64 sa] 43)) := (Below.refl _ w).alloc (Nat.le_refl _) _
  clear g0 g1 g2 g3 g4 g5 g6 g7 g8 g9 g10
  go_enter Tryd.func29, Tryd.ntmps29
  go_wp2_with fail
  go_ret
  exact ⟨rfl, hb0⟩
set_option maxRecDepth 20000 in
set_option maxHeartbeats 2000000 in
theorem hchk_ps1 (h : Hd Nm) (ao : Option Addr) (cap : Nat) (w : World) (hL : Rd encN w ao h.ps) (l n : Nat) (hl : l = h.tk.length) (hn : n = h.ps.length) (R : Bool) (hR : R = rs (h.ps.map (·.1)) (n - 1)) (g0 : ¬ 5 < n) (g1 : ¬ h.ht < 1) (g2 : ¬ 1073741824 < h.ht) (g3 : ¬ h.mi < 0) (g4 : ¬ 64 ≤ h.mi) (g5 : ¬ l < 1) (g6 : ¬ 8 < l) (g7 : ¬ h.wi < 1) (g8 : ¬ 15 < h.wi) (g9 : ¬ h.pw < 2) (g10 : ¬ 4611686018427387904 < h.pw) (g11 : n < 1) :
    Calls Tryd.prog 29 #[.agg (hcells h ao cap)] w fun r w' => r = .returned (.int .i64 1) ∧ Below w.heap.size w w' := by
  obtain ⟨ht, mi, tk, wi, pw, ps, sa⟩ := h
  simp only at *
  unfold hcells
  simp only
  rw [← hn]
  have hsz : (ByteArray.mk tk.toArray).size = l := hl.symm
  have Hris : Hid (∀ w', Below w.heap.size w w' → n ≤ 1000000 → Calls Tryd.prog 95 #[.slice ao n cap] w' fun r w'' => r = .returned (.bool R) ∧ Below w'.heap.size w' w'') := Lib.hid (fun w' hb h6 => by
    have := rising_any ao cap ps w' (hL.old hb) (by omega)
    rw [← hn, ← hR] at this; exact this)
  clear hl hL hn hR
  have f5 : (n : Int) ≤ 5 := by omega
  have f5' : n ≤ 5 := by omega
  have fht1 : 1 ≤ ht := by omega
  have fht2 : ht ≤ 1073741824 := by omega
  have fmi1 : 0 ≤ mi := by omega
  have fmi2 : mi ≤ 63 := by omega
  have ftk1 : 1 ≤ (l : Int) := by omega
  have ftk2 : (l : Int) ≤ 8 := by omega
  have ftk3 : 0 < l := by omega
  have ftk4 : l ≠ 0 := by omega
  have ftk5 : l ≤ 8 := by omega
  have fwi1 : 1 ≤ wi := by omega
  have fwi2 : wi ≤ 15 := by omega
  have fpw1 : 2 ≤ (pw : Int) := by omega
  have fpw2 : (pw : Int) ≤ 4611686018427387904 := by omega
  have e1 : (n : Int) < 1 := by omega
  have e2 : n < 1 := by omega
  have hb0 : Below w.heap.size w (w.alloc (.cells #[.int .i64 ht, .int .i64 mi, .string ⟨tk.toArray⟩, .int .i64 wi, .int .u64 (pw : Int), .slice ao n cap, .int .i64 sa] 43)) := (Below.refl _ w).alloc (Nat.le_refl _) _
  clear g0 g1 g2 g3 g4 g5 g6 g7 g8 g9 g10 g11
  go_enter Tryd.func29, Tryd.ntmps29
  go_wp2_with fail
  go_ret
  exact ⟨rfl, hb0⟩
set_option maxRecDepth 20000 in
set_option maxHeartbeats 2000000 in
theorem hchk_ps2 (h : Hd Nm) (ao : Option Addr) (cap : Nat) (w : World) (hL : Rd encN w ao h.ps) (l n : Nat) (hl : l = h.tk.length) (hn : n = h.ps.length) (R : Bool) (hR : R = rs (h.ps.map (·.1)) (n - 1)) (g0 : ¬ 5 < n) (g1 : ¬ h.ht < 1) (g2 : ¬ 1073741824 < h.ht) (g3 : ¬ h.mi < 0) (g4 : ¬ 64 ≤ h.mi) (g5 : ¬ l < 1) (g6 : ¬ 8 < l) (g7 : ¬ h.wi < 1) (g8 : ¬ 15 < h.wi) (g9 : ¬ h.pw < 2) (g10 : ¬ 4611686018427387904 < h.pw) (g11 : ¬ n < 1) (g12 : R = false) :
    Calls Tryd.prog 29 #[.agg (hcells h ao cap)] w fun r w' => r = .returned (.int .i64 1) ∧ Below w.heap.size w w' := by
  obtain ⟨ht, mi, tk, wi, pw, ps, sa⟩ := h
  simp only at *
  unfold hcells
  simp only
  rw [← hn]
  have hsz : (ByteArray.mk tk.toArray).size = l := hl.symm
  have Hris : Hid (∀ w', Below w.heap.size w w' → n ≤ 1000000 → Calls Tryd.prog 95 #[.slice ao n cap] w' fun r w'' => r = .returned (.bool R) ∧ Below w'.heap.size w' w'') := Lib.hid (fun w' hb h6 => by
    have := rising_any ao cap ps w' (hL.old hb) (by omega)
    rw [← hn, ← hR] at this; exact this)
  clear hl hL hn hR
  have f5 : (n : Int) ≤ 5 := by omega
  have f5' : n ≤ 5 := by omega
  have fht1 : 1 ≤ ht := by omega
  have fht2 : ht ≤ 1073741824 := by omega
  have fmi1 : 0 ≤ mi := by omega
  have fmi2 : mi ≤ 63 := by omega
  have ftk1 : 1 ≤ (l : Int) := by omega
  have ftk2 : (l : Int) ≤ 8 := by omega
  have ftk3 : 0 < l := by omega
  have ftk4 : l ≠ 0 := by omega
  have ftk5 : l ≤ 8 := by omega
  have fwi1 : 1 ≤ wi := by omega
  have fwi2 : wi ≤ 15 := by omega
  have fpw1 : 2 ≤ (pw : Int) := by omega
  have fpw2 : (pw : Int) ≤ 4611686018427387904 := by omega
  have fps1 : 1 ≤ (n : Int) := by omega
  have fps2 : 0 < n := by omega
  have fps3 : n ≠ 0 := by omega
  subst g12
  have hb0 : Below w.heap.size w (w.alloc (.cells #[.int .i64 ht, .int .i64 mi, .string ⟨tk.toArray⟩, .int .i64 wi, .int .u64 (pw : Int), .slice ao n cap, .int .i64 sa] 43)) := (Below.refl _ w).alloc (Nat.le_refl _) _
  clear g0 g1 g2 g3 g4 g5 g6 g7 g8 g9 g10 g11
  have Hr := Hris.out _ hb0 (by omega)
  have HB0 := Lib.hid hb0
  clear hb0
  go_enter Tryd.func29, Tryd.ntmps29
  go_wp2_with fail
  refine Hr.mono ?_
  rintro r w1 ⟨rfl, hb1⟩
  have hB1 := Lib.hid (HB0.out.trans (hb1.mono HB0.out.size))
  clear hb1 Hr
  go_wp2_with fail
  go_ret
  exact ⟨rfl, hB1.out⟩
set_option maxRecDepth 20000 in
set_option maxHeartbeats 2000000 in
theorem hchk_sa1 (h : Hd Nm) (ao : Option Addr) (cap : Nat) (w : World) (hL : Rd encN w ao h.ps) (l n : Nat) (hl : l = h.tk.length) (hn : n = h.ps.length) (R : Bool) (hR : R = rs (h.ps.map (·.1)) (n - 1)) (g0 : ¬ 5 < n) (g1 : ¬ h.ht < 1) (g2 : ¬ 1073741824 < h.ht) (g3 : ¬ h.mi < 0) (g4 : ¬ 64 ≤ h.mi) (g5 : ¬ l < 1) (g6 : ¬ 8 < l) (g7 : ¬ h.wi < 1) (g8 : ¬ 15 < h.wi) (g9 : ¬ h.pw < 2) (g10 : ¬ 4611686018427387904 < h.pw) (g11 : ¬ n < 1) (g12 : R = true) (g13 : h.sa < 0) :
    Calls Tryd.prog 29 #[.agg (hcells h ao cap)] w fun r w' => r = .returned (.int .i64 1) ∧ Below w.heap.size w w' := by
  obtain ⟨ht, mi, tk, wi, pw, ps, sa⟩ := h
  simp only at *
  unfold hcells
  simp only
  rw [← hn]
  have hsz : (ByteArray.mk tk.toArray).size = l := hl.symm
  have Hris : Hid (∀ w', Below w.heap.size w w' → n ≤ 1000000 → Calls Tryd.prog 95 #[.slice ao n cap] w' fun r w'' => r = .returned (.bool R) ∧ Below w'.heap.size w' w'') := Lib.hid (fun w' hb h6 => by
    have := rising_any ao cap ps w' (hL.old hb) (by omega)
    rw [← hn, ← hR] at this; exact this)
  clear hl hL hn hR
  have f5 : (n : Int) ≤ 5 := by omega
  have f5' : n ≤ 5 := by omega
  have fht1 : 1 ≤ ht := by omega
  have fht2 : ht ≤ 1073741824 := by omega
  have fmi1 : 0 ≤ mi := by omega
  have fmi2 : mi ≤ 63 := by omega
  have ftk1 : 1 ≤ (l : Int) := by omega
  have ftk2 : (l : Int) ≤ 8 := by omega
  have ftk3 : 0 < l := by omega
  have ftk4 : l ≠ 0 := by omega
  have ftk5 : l ≤ 8 := by omega
  have fwi1 : 1 ≤ wi := by omega
  have fwi2 : wi ≤ 15 := by omega
  have fpw1 : 2 ≤ (pw : Int) := by omega
  have fpw2 : (pw : Int) ≤ 4611686018427387904 := by omega
  have fps1 : 1 ≤ (n : Int) := by omega
  have fps2 : 0 < n := by omega
  have fps3 : n ≠ 0 := by omega
  subst g12
  have e1 : sa < 0 := by omega
  have hb0 : Below w.heap.size w (w.alloc (.cells #[.int .i64 ht, .int .i64 mi, .string ⟨tk.toArray⟩, .int .i64 wi, .int .u64 (pw : Int), .slice ao n cap, .int .i64 sa] 43)) := (Below.refl _ w).alloc (Nat.le_refl _) _
  clear g0 g1 g2 g3 g4 g5 g6 g7 g8 g9 g10 g11 g13
  have Hr := Hris.out _ hb0 (by omega)
  have HB0 := Lib.hid hb0
  clear hb0
  go_enter Tryd.func29, Tryd.ntmps29
  go_wp2_with fail
  refine Hr.mono ?_
  rintro r w1 ⟨rfl, hb1⟩
  obtain ⟨hcl, hfz⟩ := bcellH hb1
  have hB1 := Lib.hid (HB0.out.trans (hb1.mono HB0.out.size))
  clear hb1 Hr
  go_wp2_with fail
  go_ret
  exact ⟨rfl, hB1.out⟩
set_option maxRecDepth 20000 in
set_option maxHeartbeats 2000000 in
theorem hchk_sa2 (h : Hd Nm) (ao : Option Addr) (cap : Nat) (w : World) (hL : Rd encN w ao h.ps) (l n : Nat) (hl : l = h.tk.length) (hn : n = h.ps.length) (R : Bool) (hR : R = rs (h.ps.map (·.1)) (n - 1)) (g0 : ¬ 5 < n) (g1 : ¬ h.ht < 1) (g2 : ¬ 1073741824 < h.ht) (g3 : ¬ h.mi < 0) (g4 : ¬ 64 ≤ h.mi) (g5 : ¬ l < 1) (g6 : ¬ 8 < l) (g7 : ¬ h.wi < 1) (g8 : ¬ 15 < h.wi) (g9 : ¬ h.pw < 2) (g10 : ¬ 4611686018427387904 < h.pw) (g11 : ¬ n < 1) (g12 : R = true) (g13 : ¬ h.sa < 0) (g14 : 1073741824 < h.sa) :
    Calls Tryd.prog 29 #[.agg (hcells h ao cap)] w fun r w' => r = .returned (.int .i64 1) ∧ Below w.heap.size w w' := by
  obtain ⟨ht, mi, tk, wi, pw, ps, sa⟩ := h
  simp only at *
  unfold hcells
  simp only
  rw [← hn]
  have hsz : (ByteArray.mk tk.toArray).size = l := hl.symm
  have Hris : Hid (∀ w', Below w.heap.size w w' → n ≤ 1000000 → Calls Tryd.prog 95 #[.slice ao n cap] w' fun r w'' => r = .returned (.bool R) ∧ Below w'.heap.size w' w'') := Lib.hid (fun w' hb h6 => by
    have := rising_any ao cap ps w' (hL.old hb) (by omega)
    rw [← hn, ← hR] at this; exact this)
  clear hl hL hn hR
  have f5 : (n : Int) ≤ 5 := by omega
  have f5' : n ≤ 5 := by omega
  have fht1 : 1 ≤ ht := by omega
  have fht2 : ht ≤ 1073741824 := by omega
  have fmi1 : 0 ≤ mi := by omega
  have fmi2 : mi ≤ 63 := by omega
  have ftk1 : 1 ≤ (l : Int) := by omega
  have ftk2 : (l : Int) ≤ 8 := by omega
  have ftk3 : 0 < l := by omega
  have ftk4 : l ≠ 0 := by omega
  have ftk5 : l ≤ 8 := by omega
  have fwi1 : 1 ≤ wi := by omega
  have fwi2 : wi ≤ 15 := by omega
  have fpw1 : 2 ≤ (pw : Int) := by omega
  have fpw2 : (pw : Int) ≤ 4611686018427387904 := by omega
  have fps1 : 1 ≤ (n : Int) := by omega
  have fps2 : 0 < n := by omega
  have fps3 : n ≠ 0 := by omega
  subst g12
  have fsa1 : 0 ≤ sa := by omega
  have e1 : 1073741824 < sa := by omega
  have hb0 : Below w.heap.size w (w.alloc (.cells #[.int .i64 ht, .int .i64 mi, .string ⟨tk.toArray⟩, .int .i64 wi, .int .u64 (pw : Int), .slice ao n cap, .int .i64 sa] 43)) := (Below.refl _ w).alloc (Nat.le_refl _) _
  clear g0 g1 g2 g3 g4 g5 g6 g7 g8 g9 g10 g11 g13 g14
  have Hr := Hris.out _ hb0 (by omega)
  have HB0 := Lib.hid hb0
  clear hb0
  go_enter Tryd.func29, Tryd.ntmps29
  go_wp2_with fail
  refine Hr.mono ?_
  rintro r w1 ⟨rfl, hb1⟩
  obtain ⟨hcl, hfz⟩ := bcellH hb1
  have hB1 := Lib.hid (HB0.out.trans (hb1.mono HB0.out.size))
  clear hb1 Hr
  go_wp2_with fail
  go_ret
  exact ⟨rfl, hB1.out⟩
set_option maxRecDepth 20000 in
set_option maxHeartbeats 2000000 in
theorem hchk_ok (h : Hd Nm) (ao : Option Addr) (cap : Nat) (w : World) (hL : Rd encN w ao h.ps) (l n : Nat) (hl : l = h.tk.length) (hn : n = h.ps.length) (R : Bool) (hR : R = rs (h.ps.map (·.1)) (n - 1)) (g0 : ¬ 5 < n) (g1 : ¬ h.ht < 1) (g2 : ¬ 1073741824 < h.ht) (g3 : ¬ h.mi < 0) (g4 : ¬ 64 ≤ h.mi) (g5 : ¬ l < 1) (g6 : ¬ 8 < l) (g7 : ¬ h.wi < 1) (g8 : ¬ 15 < h.wi) (g9 : ¬ h.pw < 2) (g10 : ¬ 4611686018427387904 < h.pw) (g11 : ¬ n < 1) (g12 : R = true) (g13 : ¬ h.sa < 0) (g14 : ¬ 1073741824 < h.sa) :
    Calls Tryd.prog 29 #[.agg (hcells h ao cap)] w fun r w' => r = .returned (.int .i64 0) ∧ Below w.heap.size w w' := by
  obtain ⟨ht, mi, tk, wi, pw, ps, sa⟩ := h
  simp only at *
  unfold hcells
  simp only
  rw [← hn]
  have hsz : (ByteArray.mk tk.toArray).size = l := hl.symm
  have Hris : Hid (∀ w', Below w.heap.size w w' → n ≤ 1000000 → Calls Tryd.prog 95 #[.slice ao n cap] w' fun r w'' => r = .returned (.bool R) ∧ Below w'.heap.size w' w'') := Lib.hid (fun w' hb h6 => by
    have := rising_any ao cap ps w' (hL.old hb) (by omega)
    rw [← hn, ← hR] at this; exact this)
  clear hl hL hn hR
  have f5 : (n : Int) ≤ 5 := by omega
  have f5' : n ≤ 5 := by omega
  have fht1 : 1 ≤ ht := by omega
  have fht2 : ht ≤ 1073741824 := by omega
  have fmi1 : 0 ≤ mi := by omega
  have fmi2 : mi ≤ 63 := by omega
  have ftk1 : 1 ≤ (l : Int) := by omega
  have ftk2 : (l : Int) ≤ 8 := by omega
  have ftk3 : 0 < l := by omega
  have ftk4 : l ≠ 0 := by omega
  have ftk5 : l ≤ 8 := by omega
  have fwi1 : 1 ≤ wi := by omega
  have fwi2 : wi ≤ 15 := by omega
  have fpw1 : 2 ≤ (pw : Int) := by omega
  have fpw2 : (pw : Int) ≤ 4611686018427387904 := by omega
  have fps1 : 1 ≤ (n : Int) := by omega
  have fps2 : 0 < n := by omega
  have fps3 : n ≠ 0 := by omega
  subst g12
  have fsa1 : 0 ≤ sa := by omega
  have fsa2 : sa ≤ 1073741824 := by omega
  have hb0 : Below w.heap.size w (w.alloc (.cells #[.int .i64 ht, .int .i64 mi, .string ⟨tk.toArray⟩, .int .i64 wi, .int .u64 (pw : Int), .slice ao n cap, .int .i64 sa] 43)) := (Below.refl _ w).alloc (Nat.le_refl _) _
  clear g0 g1 g2 g3 g4 g5 g6 g7 g8 g9 g10 g11 g13 g14
  have Hr := Hris.out _ hb0 (by omega)
  have HB0 := Lib.hid hb0
  clear hb0
  go_enter Tryd.func29, Tryd.ntmps29
  go_wp2_with fail
  refine Hr.mono ?_
  rintro r w1 ⟨rfl, hb1⟩
  obtain ⟨hcl, hfz⟩ := bcellH hb1
  have hB1 := Lib.hid (HB0.out.trans (hb1.mono HB0.out.size))
  clear hb1 Hr
  go_wp2_with fail
  go_ret
  exact ⟨rfl, hB1.out⟩
theorem hcheck_any (h : Hd Nm) (ao : Option Addr) (cap : Nat) (w : World) (hL : Rd encN w ao h.ps) :
    Calls Tryd.prog 29 #[.agg (hcells h ao cap)] w fun r w' => r = .returned (.int .i64 (chk h (rs (h.ps.map (·.1)) (h.ps.length - 1)))) ∧ Below w.heap.size w w' := by
  obtain ⟨l, hl⟩ : ∃ l, l = h.tk.length := ⟨_, rfl⟩
  obtain ⟨n, hn⟩ : ∃ n, n = h.ps.length := ⟨_, rfl⟩
  obtain ⟨R, hR⟩ : ∃ R, R = rs (h.ps.map (·.1)) (n - 1) := ⟨_, rfl⟩
  rw [← hn, ← hR]
  unfold chk
  rw [← hl, ← hn]
  by_cases g0 : 5 < n
  · rw [if_pos g0]; exact hchk_big h ao cap w hL l n hl hn R hR g0
  rw [if_neg g0]
  by_cases g1 : h.ht < 1
  · rw [if_pos (.inl (.inl g1))]; exact hchk_ht1 h ao cap w hL l n hl hn R hR g0 g1
  by_cases g2 : 1073741824 < h.ht
  · rw [if_pos (.inl (.inr g2))]; exact hchk_ht2 h ao cap w hL l n hl hn R hR g0 g1 g2
  by_cases g3 : h.mi < 0
  · rw [if_pos (.inr (.inl (.inl g3)))]; exact hchk_mi1 h ao cap w hL l n hl hn R hR g0 g1 g2 g3
  by_cases g4 : 64 ≤ h.mi
  · rw [if_pos (.inr (.inl (.inr g4)))]; exact hchk_mi2 h ao cap w hL l n hl hn R hR g0 g1 g2 g3 g4
  by_cases g5 : l < 1
  · rw [if_pos (.inr (.inr (.inl (.inl g5))))]; exact hchk_tk1 h ao cap w hL l n hl hn R hR g0 g1 g2 g3 g4 g5
  by_cases g6 : 8 < l
  · rw [if_pos (.inr (.inr (.inl (.inr g6))))]; exact hchk_tk2 h ao cap w hL l n hl hn R hR g0 g1 g2 g3 g4 g5 g6
  by_cases g7 : h.wi < 1
  · rw [if_pos (.inr (.inr (.inr (.inl (.inl g7)))))]; exact hchk_wi1 h ao cap w hL l n hl hn R hR g0 g1 g2 g3 g4 g5 g6 g7
  by_cases g8 : 15 < h.wi
  · rw [if_pos (.inr (.inr (.inr (.inl (.inr g8)))))]; exact hchk_wi2 h ao cap w hL l n hl hn R hR g0 g1 g2 g3 g4 g5 g6 g7 g8
  by_cases g9 : h.pw < 2
  · rw [if_pos (.inr (.inr (.inr (.inr (.inl (.inl g9))))))]; exact hchk_pw1 h ao cap w hL l n hl hn R hR g0 g1 g2 g3 g4 g5 g6 g7 g8 g9
  by_cases g10 : 4611686018427387904 < h.pw
  · rw [if_pos (.inr (.inr (.inr (.inr (.inl (.inr g10))))))]; exact hchk_pw2 h ao cap w hL l n hl hn R hR g0 g1 g2 g3 g4 g5 g6 g7 g8 g9 g10
  by_cases g11 : n < 1
  · rw [if_pos (.inr (.inr (.inr (.inr (.inr (.inl (.inl g11)))))))]; exact hchk_ps1 h ao cap w hL l n hl hn R hR g0 g1 g2 g3 g4 g5 g6 g7 g8 g9 g10 g11
  by_cases g12 : R = false
  · rw [if_pos (.inr (.inr (.inr (.inr (.inr (.inl (.inr g12)))))))]; exact hchk_ps2 h ao cap w hL l n hl hn R hR g0 g1 g2 g3 g4 g5 g6 g7 g8 g9 g10 g11 g12
  rw [Bool.not_eq_false] at g12
  by_cases g13 : h.sa < 0
  · rw [if_pos (.inr (.inr (.inr (.inr (.inr (.inr (.inl g13)))))))]; exact hchk_sa1 h ao cap w hL l n hl hn R hR g0 g1 g2 g3 g4 g5 g6 g7 g8 g9 g10 g11 g12 g13
  by_cases g14 : 1073741824 < h.sa
  · rw [if_pos (.inr (.inr (.inr (.inr (.inr (.inr (.inr g14)))))))]; exact hchk_sa2 h ao cap w hL l n hl hn R hR g0 g1 g2 g3 g4 g5 g6 g7 g8 g9 g10 g11 g12 g13 g14
  rw [if_neg (by rintro (x | x | x | x | x | x | x) <;> rcases x with x | x <;> first | exact absurd x (by assumption) | (have g := g12; rw [x] at g; cases g))]
  exact hchk_ok h ao cap w hL l n hl hn R hR g0 g1 g2 g3 g4 g5 g6 g7 g8 g9 g10 g11 g12 g13 g14
end Go.Proofs.YtkejidmomnmdbaaDoor
