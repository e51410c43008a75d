/- The digest in bytes; a fixed fact of layer 2. -/
import Derived.Test.YtkejidmomnmdbaaDoorD8
import Derived.Test.YtkejidmomnmdbaaDoorC5
import Derived.Stop.BytesEq
namespace Go.Proofs.YtkejidmomnmdbaaDoor
open Go.RowKit

/-- The digest's bytes. -/
def shaB (s : List UInt8) : List UInt8 := (sha (nats s)).map UInt8.ofNat
theorem shaB_len (s : List UInt8) : (shaB s).length = 32 := by simp [shaB, sha_len]
theorem nums_vals (A : List Nat) (h : ∀ x ∈ A, x < 256) : nums .u8 A = vals (A.map UInt8.ofNat) := by
  simp only [nums, vals, List.map_map]
  refine List.map_congr_left fun x hx => ?_
  simp only [Function.comp_def]
  rw [UInt8.toNat_ofNat_of_lt' (h x hx)]
theorem vals_nums (s : List UInt8) : vals s = nums .u8 (nats s) := by simp [vals, nums, nats]
theorem nats_lt (s : List UInt8) : ∀ x ∈ nats s, x < 256 := by intro x hx; obtain ⟨c, _, rfl⟩ := List.mem_map.1 hx; exact c.toNat_lt
theorem nats_ofNat (s : List UInt8) : (nats s).map UInt8.ofNat = s := by simp [nats, Function.comp_def]
theorem sha_vals (s : List UInt8) : nums .u8 (sha (nats s)) = vals (shaB s) := nums_vals _ (sha_lt _)
theorem sha_bytes (s : List UInt8) : bytesOf (sha (nats s)) = ⟨(shaB s).toArray⟩ := rfl

theorem StrsAt.old {w w' : World} {v : Value} {ss : List (List UInt8)} (h : StrsAt w v ss) (hb : Below w.heap.size w w') : StrsAt w' v ss := by
  obtain ⟨ao, cap, e, hc⟩ := h
  refine ⟨ao, cap, e, fun j hj => ?_⟩
  obtain ⟨bs, off, e1, hlt, c⟩ := hc j hj
  exact ⟨bs, off, e1, Nat.lt_of_lt_of_le hlt hb.size, (World.cell?_of_block (hb.block bs hlt)).trans c⟩
/-- Texts that were just laid side by side. -/
theorem StrsAt.made (w : World) (T : TypeId) (ss : List (List UInt8)) : StrsAt (w.alloc (.cells (ss.map fun s => Value.string ⟨s.toArray⟩).toArray T)) (.slice (some ⟨w.heap.size, 0, none⟩) ss.length ss.length) ss := by
  refine ⟨_, _, rfl, fun j hj => ⟨w.heap.size, 0, rfl, by simp, ?_⟩⟩
  rw [cell_of_row _ w.heap.size _ _ T (0, 0) (heap_alloc_new _ _)]
  simp [hj]
theorem TabAt.old {w w' : World} (h : TabAt w) (hb : Below w.heap.size w w') : TabAt w' := h.kept (Mod.of_below hb) (by have := h.lt; omega)

/-- Block g is a name. -/
def IdAt (w : World) (g : Nat) (s : List UInt8) : Prop := s.length = 32 ∧ w.heap[g]? = some (.cells (vals s).toArray 25 (0, 0))
theorem IdAt.lt {w : World} {g : Nat} {s : List UInt8} (h : IdAt w g s) : g < w.heap.size := (Array.getElem?_eq_some_iff.1 h.2).1
theorem IdAt.old {w w' : World} {g : Nat} {s : List UInt8} (h : IdAt w g s) (hb : Below w.heap.size w w') : IdAt w' g s := ⟨h.1, (hb.block g h.lt).trans h.2⟩
theorem vals_one (s : List UInt8) : ∀ v ∈ vals s, v.oneCell' = true := by
  intro v hv; obtain ⟨x, _, rfl⟩ := List.mem_map.1 hv; rfl
theorem vals_get (s : List UInt8) (i : Nat) (h : i < s.length) : (vals s)[i]? = some (.int .u8 (s[i].toNat : Int)) := by simp [vals, h]
theorem IdAt.cell {w : World} {g : Nat} {s : List UInt8} (h : IdAt w g s) (i : Nat) (hi : i < s.length) : w.cell? ⟨g, i, none⟩ = some (.int .u8 (s[i].toNat : Int)) := by
  rw [cell_of_row w g i _ 25 (0, 0) h.2]; simpa using vals_get s i hi
/-- A name's bytes as a text. -/
theorem IdAt.text {w : World} {g : Nat} {s : List UInt8} (h : IdAt w g s) : (convert 27 9 (.slice (some ⟨g, 0, none⟩) 32 32)).run Tryd.prog w = .ok (.string ⟨s.toArray⟩) w := by
  have hl := h.1
  rw [run_convert_bytes_arg w 27 5 Tryd.underlying27 Tryd.underlying5 g 0 32 32 (s.map fun x => (x.toNat : Int)) (by simpa using hl) (fun i hi => by
    rw [Nat.zero_add, h.cell i (by omega)]
    simp [List.getD, hl, hi]) 9 Tryd.underlying9]
  simp [strOfNums, Function.comp_def]
/-- Nought's name. -/
def zid : List UInt8 := List.replicate 32 0
theorem zid_run (w : World) : (zeroValue 25).run Tryd.prog w = .ok (.agg (vals zid).toArray) w := by kernel_rfl
theorem zid_len : (vals zid).toArray.size = 32 := rfl
theorem id_size {s : List UInt8} (h : s.length = 32) : (vals s).toArray.size = 32 := by simp [vals_len, h]
theorem id_info {s : List UInt8} (h : s.length = 32) : (Tryd.prog.info? 25).map (·.size) = some (vals s).toArray.size := by rw [id_size h]; kernel_rfl
theorem id_one (s : List UInt8) : ∀ v ∈ (vals s).toArray.toList, v.oneCell' = true := by simpa using vals_one s
/-- A new variable that a name is stored into. -/
theorem IdAt.stored {w : World} {s : List UInt8} {A : Array Value} (h : s.length = 32) : IdAt ((w.alloc (.cells A 25 (0, 0))).setRow w.heap.size (vals s).toArray) w.heap.size s :=
  ⟨h, setRow_heap _ _ _ _ _ _ (heap_alloc_new _ _)⟩
theorem stored_below {w : World} {A C : Array Value} {T : TypeId} : Below w.heap.size w ((w.alloc (.cells A T (0, 0))).setRow w.heap.size C) :=
  ((((Mod.refl (fun _ => False) w).alloc (.cells A T (0, 0))).setRow (g := w.heap.size) C).drop_new (Nat.le_refl _)).to_below (Nat.le_refl _) (fun _ _ h => h)
/-- Two names are held against each other. -/
theorem id_eql (x y : List UInt8) (hx : x.length = 32) (hy : y.length = 32) (w : World) : (binOp .eql 25 (.agg (vals x).toArray) (.agg (vals y).toArray)).run Tryd.prog w = .ok (.bool (x == y)) w :=
  run_eql_bytes w 25 5 32 Tryd.underlying25 Tryd.underlying5 Tryd.sizeOf5 x y hx hy

theorem dofB (v : Value) (ss : List (List UInt8)) (w : World) (hv : StrsAt w v ss) (hl : ss.flatten.length ≤ 274877906944) (hn : (ss.length : Int) ≤ 1099511627776) (hT : TabAt w) :
    Calls Tryd.prog 21 #[v] w fun r w' => r = .returned (.agg (vals (shaB ss.flatten)).toArray) ∧ Below w.heap.size w w' :=
  (dof_any v ss w hv hl hn hT).mono fun _ _ ⟨h1, h2⟩ => ⟨by rw [h1, sha_vals], h2.to_below (Nat.le_refl _) (fun _ _ h => h)⟩

set_option maxHeartbeats 400000 in
theorem awake02_any (w : World) (hT : TabAt w) : Calls Tryd.prog 19 #[] w fun r w' => r = .returned (.bool true) ∧ Below w.heap.size w w' := by
  have hx : bytesOf (hexs (sha (nats [97, 98, 99]))) = ⟨#[98, 97, 55, 56, 49, 54, 98, 102, 56, 102, 48, 49, 99, 102, 101, 97, 52, 49, 52, 49, 52, 48, 100, 101, 53, 100, 97, 101, 50, 50, 50, 51, 98, 48, 48, 51, 54, 49, 97, 51, 57, 54, 49, 55, 55, 97, 57, 99, 98, 52, 49, 48, 102, 102, 54, 49, 102, 50, 48, 48, 49, 53, 97, 100]⟩ := by decide +kernel
  have hlt := sha_lt (nats [97, 98, 99])
  have hlen := sha_len (nats [97, 98, 99])
  have hof := Lib.hid (fun (w : World) h hT => dof_any (.slice (some ⟨w.heap.size, 0, none⟩) 1 1) [[97, 98, 99]] (w.alloc (.cells #[.string ⟨#[97, 98, 99]⟩] 9)) h (by decide) (by decide) hT)
  have hst := Lib.hid (StrsAt.made w 9 [[97, 98, 99]])
  have hT1 := Lib.hid (hT.old ((Below.refl _ w).alloc (Nat.le_refl _) (.cells #[.string ⟨#[97, 98, 99]⟩] 9)))
  rw [show ([[97, 98, 99]] : List (List UInt8)).flatten = [97, 98, 99] from rfl] at hof
  generalize sha (nats [97, 98, 99]) = S at hx hlt hlen hof
  have Hx := Lib.hid hx
  clear hx
  go_enter Tryd.func19, Tryd.ntmps19
  go_wp2_with fail
  refine (hof.out w hst.out hT1.out).mono ?_
  rintro r w1 ⟨rfl, hM1⟩
  go_wp2_with fail
  refine (hex_any S w1 hlen hlt).mono ?_
  rintro r w2 ⟨rfl, hM2⟩
  rw [Hx.out]
  have hB : Below w.heap.size w w2 := (((Mod.refl (fun _ => False) w).alloc _).trans (hM1.trans hM2 (fun _ _ h => h)) (fun _ _ h => h)).to_below (Nat.le_refl _) (fun _ _ h => h)
  go_wp2_with fail
  go_ret
  exact ⟨rfl, hB⟩
end Go.Proofs.YtkejidmomnmdbaaDoor
