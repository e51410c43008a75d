/- Names held against each other. -/
import Derived.Test.YtkejidmomnmdbaaDoorH1
import Derived.Test.YtkejidmomnmdbaaDoorK
import Derived.Lib.Bytealg
namespace Go.Proofs.YtkejidmomnmdbaaDoor
open Go.RowKit

theorem run_loadBytes (w : World) (g : Nat) : ∀ (s : List UInt8) (off : Nat) (acc : ByteArray), (∀ i (hi : i < s.length), w.cell? ⟨g, off + i, none⟩ = some (.int .u8 (s[i].toNat : Int))) →
    (Extern.Bytes.loadBytes ⟨g, off, none⟩ s.length acc).run Tryd.prog w = .ok (acc ++ ⟨s.toArray⟩) w
  | [], off, acc, _ => by
    simp only [List.length_nil, Extern.Bytes.loadBytes, Sem.run_pure]
    congr 1
    apply ByteArray.ext; simp
  | b :: s, off, acc, h => by
    have h0 := h 0 (by simp)
    simp only [Nat.add_zero, List.getElem_cons_zero] at h0
    have hl : (load ⟨g, off, none⟩).run Tryd.prog w = .ok (.int .u8 (b.toNat : Int)) w := by simp [go_sem, h0]
    have hadd : (⟨g, off, none⟩ : Addr).add 1 = ⟨g, off + 1, none⟩ := rfl
    have ih := run_loadBytes w g s (off + 1) (acc.push b) (fun i hi => by
      have := h (i + 1) (by simpa using hi)
      rw [show off + 1 + i = off + (i + 1) by omega]
      simpa using this)
    simp only [List.length_cons, Extern.Bytes.loadBytes, Sem.run_bind, hl, Result.andThen_ok, hadd]
    have hb : (b.toNat : Int).toNat.toUInt8 = b := by simp
    rw [hb, ih]
    congr 1
    apply ByteArray.ext; simp
theorem IdAt.compare {w : World} {g h : Nat} {s t : List UInt8} (hs : IdAt w g s) (ht : IdAt w h t) :
    (Extern.BytealgCompare.compare #[.slice (some ⟨g, 0, none⟩) 32 32, .slice (some ⟨h, 0, none⟩) 32 32]).run Tryd.prog w = .ok (.int .i64 (Lib.compareBytes s t)) w := by
  have h1 := run_loadBytes w g s 0 .empty (fun i hi => by rw [Nat.zero_add]; exact hs.cell i hi)
  have h2 := run_loadBytes w h t 0 .empty (fun i hi => by rw [Nat.zero_add]; exact ht.cell i hi)
  rw [hs.1] at h1
  rw [ht.1] at h2
  have e : Extern.BytealgCompare.compare #[.slice (some ⟨g, 0, none⟩) 32 32, .slice (some ⟨h, 0, none⟩) 32 32] = (do pure (goInt (Extern.BytealgCompare.cmp (← Extern.Bytes.loadBytes ⟨g, 0, none⟩ 32 .empty) (← Extern.Bytes.loadBytes ⟨h, 0, none⟩ 32 .empty)))) := rfl
  rw [e]
  simp only [Sem.run_bind, h1, h2, Result.andThen_ok, Sem.run_pure, Lib.cmp_eq, goInt]
  simp
set_option maxHeartbeats 1000000 in
set_option maxRecDepth 20000 in
theorem bcompare_any (g h : Nat) (s t : List UInt8) (w : World) (hs : IdAt w g s) (ht : IdAt w h t) :
    Calls Tryd.prog 125 #[.slice (some ⟨g, 0, none⟩) 32 32, .slice (some ⟨h, 0, none⟩) 32 32] w fun r w' => r = .returned (.int .i64 (Lib.compareBytes s t)) ∧ w = w' := by
  have hc := hs.compare ht
  obtain ⟨x, hx⟩ : ∃ x, x = Lib.compareBytes s t := ⟨_, rfl⟩
  rw [← hx] at hc ⊢
  clear hx hs ht
  go_enter Tryd.func125, Tryd.ntmps125
  go_wp2
  rw [run_callFunc_extern Tryd.func148 (by kernel_rfl) (by kernel_rfl) (by kernel_rfl) (e := Extern.BytealgCompare.compare) (by kernel_rfl), hc]
  simp only [Result.andThen]
  rw [Oper.upon_value]
  go_wp2
  go_ret
  exact ⟨rfl, rfl⟩

set_option maxHeartbeats 1000000 in
set_option maxRecDepth 20000 in
theorem hcompare_any (n1 n2 : List UInt8) (w : World) (hs : n1.length = 32) (ht : n2.length = 32) :
    Calls Tryd.prog 106 #[.agg (vals n1).toArray, .agg (vals n2).toArray] w fun r w' => r = .returned (.int .i64 (Lib.compareBytes n1 n2)) ∧ Below w.heap.size w w' := by
  have hA : IdAt ((w.alloc (.cells (vals n1).toArray 25)).alloc (.cells (vals n2).toArray 25)) w.heap.size n1 := ⟨hs, by rw [Below.heap_alloc _ _ _ (by simp)]; exact heap_alloc_new w _⟩
  have hB : IdAt ((w.alloc (.cells (vals n1).toArray 25)).alloc (.cells (vals n2).toArray 25)) (w.heap.size + 1) n2 := ⟨ht, by have := heap_alloc_new (w.alloc (.cells (vals n1).toArray 25)) (.cells (vals n2).toArray 25); simpa using this⟩
  have hb : Below w.heap.size w ((w.alloc (.cells (vals n1).toArray 25)).alloc (.cells (vals n2).toArray 25)) := ((Below.refl _ w).alloc (Nat.le_refl _) _).alloc (by simp) _
  have s1 := id_size hs
  have s2 := id_size ht
  have HA := Lib.hid hA
  have HB := Lib.hid hB
  have Hb := Lib.hid hb
  clear hA hB hb
  generalize (vals n1).toArray = S at s1 HA HB Hb ⊢
  generalize (vals n2).toArray = T at s2 HA HB Hb ⊢
  go_enter Tryd.func106, Tryd.ntmps106
  go_wp2_with fail
  generalize (w.alloc (.cells S 25)).alloc (.cells T 25) = W at HA HB Hb ⊢
  generalize w.heap.size = n0 at HA HB ⊢
  refine wp_region_puts (fun t v w => VK (match t with
    | 5 => .eq (.slice (some ⟨n0, 0, none⟩) 32 32)
    | 6 => .eq (.slice (some ⟨n0 + 1, 0, none⟩) 32 32)
    | 7 => .eq (.int .i64 (Lib.compareBytes n1 n2))
    | 4 => .eq (.int .i64 (Lib.compareBytes n1 n2))
    | _ => .any) v w) (fun w' => Below W.heap.size W w') 8 (by kernel_rfl) (by decide +kernel) rfl (Below.refl _ _).drew (by
    refine OweAll.cons (owesK rfl rfl fun a w1 ha hG hV => ?_) ?_
    · skip
      have h2 := ha.outer 2 (by decide +kernel)
      simp only [Act.eval] at h2
      exact ⟨.slice (some ⟨n0, 0, none⟩) 32 32, w1, wanted_free rfl, by simp [execOp, go_sem, h2], Below.refl _ _, rfl⟩
    refine OweAll.cons (owesK rfl rfl fun a w1 ha hG hV => ?_) ?_
    · skip
      have h3 := ha.outer 3 (by decide +kernel)
      simp only [Act.eval] at h3
      exact ⟨.slice (some ⟨n0 + 1, 0, none⟩) 32 32, w1, wanted_free rfl, by simp [execOp, go_sem, h3], Below.refl _ _, rfl⟩
    refine OweAll.cons (owesK_call rfl rfl 125 fun a w1 ha hG hV => ?_) ?_
    · skip
      have h5 : a.tmps.getD 5 undef = .slice (some ⟨n0, 0, none⟩) 32 32 := hV.get 5 (by decide +kernel)
      have h6 : a.tmps.getD 6 undef = .slice (some ⟨n0 + 1, 0, none⟩) 32 32 := hV.get 6 (by decide +kernel)
      refine ⟨#[.slice (some ⟨n0, 0, none⟩) 32 32, .slice (some ⟨n0 + 1, 0, none⟩) 32 32], wanted_free rfl, by simp [execOp, resolve, invoke, go_sem, h5, h6], ?_⟩
      refine (bcompare_any _ _ n1 n2 w1 (HA.out.old hG) (HB.out.old hG)).mono ?_
      rintro r u2 ⟨rfl, rfl⟩; exact ⟨_, rfl, rfl, Below.refl _ _⟩
    refine OweAll.cons (owesK rfl rfl fun a w1 ha hG hV => ?_) ?_
    · skip
      have h7 : a.tmps.getD 7 undef = .int .i64 (Lib.compareBytes n1 n2) := hV.get 7 (by decide +kernel)
      exact ⟨.int .i64 (Lib.compareBytes n1 n2), w1, wanted_free rfl, by simp [execOp, go_sem, h7], Below.refl _ _, rfl⟩
    exact OweAll.nil
    ) ?_
  intro f wz hG hv
  have e4 : f 4 = .int .i64 (Lib.compareBytes n1 n2) := hv 3 _ 4 rfl rfl
  rename_i hK
  refine hK _ _ ?_
  clear hK hv
  simp only [dsts, puts, List.filterMap_cons, List.filterMap_nil, List.foldl_cons, List.foldl_nil, Act.put, List.setIfInBounds_toArray, List.set_cons_succ, List.set_cons_zero, e4]
  clear e4
  have HG := Lib.hid (Hb.out.trans (hG.mono Hb.out.size))
  clear hG
  go_wp2_with fail
  go_ret
  exact ⟨rfl, HG.out⟩
end Go.Proofs.YtkejidmomnmdbaaDoor
