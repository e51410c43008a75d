import Derived.Test.YtkejidmomnmdbaaDoorD6
import Derived.BigRegion
namespace Go.Proofs.YtkejidmomnmdbaaDoor
open Go.RowKit

/-- The letter of a digit. -/
def hexd (n : Nat) : Nat := if n < 10 then 48 + n else 87 + n
def hexs (A : List Nat) : List Nat := A.flatMap fun x => [hexd (x / 16), hexd (x % 16)]
theorem hexs_len (A : List Nat) : (hexs A).length = 2 * A.length := by
  induction A with
  | nil => rfl
  | cons x l ih =>
    have h : hexs (x :: l) = [hexd (x / 16), hexd (x % 16)] ++ hexs l := rfl
    rw [h, List.length_append, ih]; simp; omega
theorem hexs_snoc (A : List Nat) (x : Nat) : hexs (A ++ [x]) = hexs A ++ [hexd (x / 16), hexd (x % 16)] := by simp [hexs]
theorem hexd_lt (n : Nat) (h : n < 16) : hexd n < 256 := by unfold hexd; split <;> omega

def bytesOf (A : List Nat) : ByteArray := ⟨(A.map UInt8.ofNat).toArray⟩

theorem digits_at (n : Nat) (h : n < 16) (w : World) :
    (Instr.index 9 (.string ⟨#[48, 49, 50, 51, 52, 53, 54, 55, 56, 57, 97, 98, 99, 100, 101, 102]⟩) (.int .u8 (n : Int))).run Tryd.prog w = .ok (.int .u8 (hexd n : Int)) w := by
  have hn : n = 0 ∨ n = 1 ∨ n = 2 ∨ n = 3 ∨ n = 4 ∨ n = 5 ∨ n = 6 ∨ n = 7 ∨ n = 8 ∨ n = 9 ∨ n = 10 ∨ n = 11 ∨ n = 12 ∨ n = 13 ∨ n = 14 ∨ n = 15 := by omega
  rcases hn with rfl | rfl | rfl | rfl | rfl | rfl | rfl | rfl | rfl | rfl | rfl | rfl | rfl | rfl | rfl | rfl <;> (refine Eq.trans ?_ rfl; kernel_rfl)

theorem low4 (x : Nat) (h : x < 256) : bits BinOp.and IntKind.u8 (x : Int) 15 = ((x % 16 : Nat) : Int) := by
  rw [show (15 : Int) = ((15 : Nat) : Int) from rfl, u8_and_nat _ _ h (by omega), Nat.and_two_pow_sub_one_eq_mod _ 4]

theorem take_set_two (T : List Nat) (k x y : Nat) (h : k + 1 < T.length) : ((T.set k x).set (k + 1) y).take (k + 2) = T.take k ++ [x, y] := by
  rw [show k + 2 = (k + 1) + 1 from rfl, take_set_succ _ _ _ (by simpa using h), take_set_succ _ _ _ (by omega)]; simp

def HexRel (M : Nat) (A : List Nat) (k : Nat) (wr : World) : Prop :=
  ∃ T, RowAt .u8 122 wr M T ∧ T.length = 64 ∧ T.take (2 * k) = hexs (A.take k)

set_option maxHeartbeats 1000000 in
set_option maxRecDepth 100000 in
theorem hex_any (A : List Nat) (w : World) (hA : A.length = 32) (hb : ∀ x ∈ A, x < 256) :
    Calls Tryd.prog 23 #[.agg (nums .u8 A).toArray] w fun r w' => r = .returned (.string (bytesOf (hexs A))) ∧ Mod (fun _ => False) w w' := by
  obtain ⟨Z, hZ⟩ : ∃ Z, Z = List.replicate 64 0 := ⟨_, rfl⟩
  have hz : ∀ w : World, (zeroValue 122).run Tryd.prog w = .ok (.agg (nums .u8 Z).toArray) w := fun _ => by rw [hZ]; kernel_rfl
  have hZl : Z.length = 64 := by rw [hZ]; rfl
  clear hZ
  have h1 := nums_one .u8 A
  go_enter Tryd.func23, Tryd.ntmps23
  go_wp2_with fail
  obtain ⟨Wa, hWa⟩ : ∃ Wa, Wa = w.alloc (.cells (nums .u8 A).toArray 25 (0, 0)) := ⟨_, rfl⟩
  obtain ⟨M, hMe⟩ : ∃ M, M = w.heap.size + 1 := ⟨_, rfl⟩
  rw [← hWa, ← hMe]
  have hsz : Wa.heap.size = M := by rw [hWa, hMe]; simp
  have hRa : RowAt .u8 25 Wa w.heap.size A := by rw [hWa]; exact heap_alloc_new _ _
  have hMa : Mod (fun _ => False) w Wa := by rw [hWa]; exact (Mod.refl _ _).alloc _
  generalize hW1 : Wa.alloc _ = W1
  have hM1 : Mod (fun _ => False) Wa W1 := by rw [← hW1]; exact (Mod.refl _ _).alloc _
  have hT1 : RowAt .u8 122 W1 M Z := by rw [← hW1, ← hsz]; exact heap_alloc_new _ _
  have hR1 := hRa.kept hM1 (fun h => h)
  have hM2 := hMa.trans hM1 (fun _ _ h => h)
  have hMw : w.heap.size < M := by omega
  have Hb := Lib.hid hb
  have HA := Lib.hid hA
  clear hW1 hWa hMe hsz hRa hMa hM1 hz hb
  go_loopw [5] (fun i wr => ∃ k : Nat, k ≤ 32 ∧ i = .int .i64 k ∧ Mod (fun _ => False) w wr ∧ RowAt .u8 25 wr w.heap.size A ∧ HexRel M A k wr) (fun i _ => 32 - (intOf i).toNat)
  case atStart => exact ⟨0, by omega, rfl, hM2, hR1, Z, hT1, hZl, by rw [List.take_zero]; rfl⟩
  case round =>
    clear hM2 hR1 hT1 hZl
    obtain ⟨k, hk, rfl, hM, hR, T, hT, hTl, hTt⟩ := hrel
    by_cases hlt : k < 32
    · obtain ⟨x, hx⟩ : ∃ x, x = A[k]'(by omega) := ⟨_, rfl⟩
      have cx := hR.cell k (by omega)
      rw [← hx] at cx
      have hx256 : x < 256 := by rw [hx]; exact Hb.out _ (List.getElem_mem _)
      obtain ⟨p, hp⟩ : ∃ p, p = x / 16 := ⟨_, rfl⟩
      obtain ⟨q, hq⟩ : ∃ q, q = x % 16 := ⟨_, rfl⟩
      have d1 := digits_at p (by omega)
      have d2 := digits_at q (by omega)
      have b1 : (x : Int) / 16 = p := by omega
      have b2 : bits BinOp.and IntKind.u8 (x : Int) 15 = (q : Int) := by rw [low4 x hx256, hq]
      have c1 := hT.cell (2 * k) (by omega)
      have c2 := hT.cell (2 * k + 1) (by omega)
      have f1 := hT.froz (2 * k)
      have f2 := hT.froz (2 * k + 1)
      generalize T[2 * k] = y1 at c1
      generalize T[2 * k + 1] = y2 at c2
      have i0 : (0 : Int) ≤ k := by omega
      have i1 : (k : Int) < 32 := by omega
      have i2 : (2 * (k : Int)).toNat = 2 * k := by omega
      have i3 : (2 * (k : Int) + 1).toNat = 2 * k + 1 := by omega
      have w1 : IntKind.i64.wrap (2 * (k : Int)) = 2 * (k : Int) := by rw [IntKind.wrap_i64]; omega
      have w2 : IntKind.i64.wrap (2 * (k : Int) + 1) = 2 * (k : Int) + 1 := by rw [IntKind.wrap_i64]; omega
      have j0 : (0 : Int) ≤ 2 * (k : Int) := by omega
      have j1 : 2 * (k : Int) < 64 := by omega
      have j2 : (0 : Int) ≤ 2 * (k : Int) + 1 := by omega
      have j3 : 2 * (k : Int) + 1 < 64 := by omega
      have n1 : ¬ 2 * k + 1 = 2 * k := by omega
      have n2 : ¬ 2 * k = 2 * k + 1 := by omega
      have n3 : ¬ w.heap.size = M := by omega
      have n4 : ¬ M = w.heap.size := by omega
      have Hr : Hid (Mod (fun _ => False) w ((wr.setCell ⟨M, 2 * k, none⟩ (.int .u8 (hexd p : Int))).setCell ⟨M, 2 * k + 1, none⟩ (.int .u8 (hexd q : Int))).drew ∧
          RowAt .u8 25 ((wr.setCell ⟨M, 2 * k, none⟩ (.int .u8 (hexd p : Int))).setCell ⟨M, 2 * k + 1, none⟩ (.int .u8 (hexd q : Int))).drew w.heap.size A ∧
          HexRel M A (k + 1) ((wr.setCell ⟨M, 2 * k, none⟩ (.int .u8 (hexd p : Int))).setCell ⟨M, 2 * k + 1, none⟩ (.int .u8 (hexd q : Int))).drew) := Lib.hid (by
        have hm : Mod (· = M) wr ((wr.setCell ⟨M, 2 * k, none⟩ (.int .u8 (hexd p : Int))).setCell ⟨M, 2 * k + 1, none⟩ (.int .u8 (hexd q : Int))).drew := (((Mod.refl (· = M) _).setCell (p := ⟨M, 2 * k, none⟩) (fun _ => rfl) _).setCell (p := ⟨M, 2 * k + 1, none⟩) (fun _ => rfl) _).drew
        refine ⟨hM.trans hm (by intro i hi h; omega), hR.kept hm (by omega), _, ((hT.set (2 * k) _).set (2 * k + 1) _).kept (Mod.drew (Mod.refl (fun _ => False) _)) (fun h => h), by simpa using hTl, ?_⟩
        rw [show 2 * (k + 1) = 2 * k + 2 by omega, take_set_two _ _ _ _ (by omega), hTt, List.take_succ_eq_append_getElem (by omega), hexs_snoc, ← hx, ← hp, ← hq])
      have Hx := Lib.hid hx
      have Hp := Lib.hid hp
      have Hq := Lib.hid hq
      have HT := Lib.hid hTt
      clear hx hp hq hTt hM hR hT hTl
      go_wp2_with fail
      go_region
      go_wp2_with fail
      go_roundw
      case rel => exact ⟨k + 1, by omega, by go_num, Hr.out⟩
      case measure => simp [intOf]; omega
    · obtain rfl : k = 32 := by omega
      have hTe : T = hexs A := by
        have h := hTt
        rw [List.take_of_length_le (by omega), List.take_of_length_le (by rw [HA.out]; omega)] at h
        exact h
      have hcv : (convert 27 9 (.slice (some ⟨M, 0, none⟩) 64 64)).run Tryd.prog wr = .ok (.string (bytesOf (hexs A))) wr := by
        rw [run_convert_bytes_arg wr 27 5 Tryd.underlying27 Tryd.underlying5 M 0 64 64 (T.map fun (x : Nat) => (x : Int)) (by simpa using hTl) (fun i hi => by
          rw [Nat.zero_add, hT.cell i (by omega)]
          simp [List.getD, hTl, hi]) 9 Tryd.underlying9, hTe]
        simp [strOfNums, bytesOf, Function.comp_def]
      clear hTe hTt hR hT hTl
      go_wp2_with fail
      go_ret
      exact ⟨rfl, hM⟩
end Go.Proofs.YtkejidmomnmdbaaDoor
