/- Package codec (PARTS). -/
import Derived.Test.YtkejidmomnmdbaaDoorRows
import Derived.Test.YtkejidmomnmdbaaDoorLib
import Derived.Test.YtkejidmomnmdbaaDoorShelf
import Derived.Test.YtkejidmomnmdbaaDoorPl
import Derived.Deep.DeepCutAuto
import Derived.Deep.AppendLies
namespace Go.Proofs.YtkejidmomnmdbaaDoor
open Go.RowKit

theorem Tryd.info5 : (Tryd.prog.info? 5).map (fun i => (i.zero, i.size, i.bytes)) = some (some (.int .u8 0), 1, 1) := by kernel_rfl

def NumPost (b : Nat) (v : Value) (out : List UInt8) (w : World) (r : Ending) (w' : World) : Prop :=
  r = .returned (.pointer (some ⟨b, 0, none⟩)) ∧ ∃ v', OutAt 105 5 w' b v' out ∧ Mod (fun k => k = b ∨ v.ownBlock = some k) w w' ∧ (v'.ownBlock = v.ownBlock ∨ ∀ k, v'.ownBlock = some k → w.heap.size ≤ k)

def LoopRel (b : Nat) (v : Value) (out : List UInt8) (w w' : World) : Prop :=
  ∃ v', OutAt 105 5 w' b v' out ∧ Mod (fun k => k = b ∨ v.ownBlock = some k) w w' ∧ (v'.ownBlock = v.ownBlock ∨ ∀ k, v'.ownBlock = some k → w.heap.size ≤ k)

theorem LoopRel.next {b : Nat} {v : Value} {out : List UInt8} {w w1 w2 : World} {v1 : Value} {x : UInt8} {g cap : Nat} (hb : b < w.heap.size)
    (hO : OutAt 105 5 w1 b v1 out) (hM : Mod (fun k => k = b ∨ v.ownBlock = some k) w w1) (hv : v1.ownBlock = v.ownBlock ∨ ∀ k, v1.ownBlock = some k → w.heap.size ≤ k)
    (W : World) (hMW : Mod (fun _ => False) w1 W)
    (hown : w2.ownsRow 0 5 1 (.slice (some ⟨g, 0, none⟩) (out.length + 1) cap) (out.length + 1) (vals out ++ [.int .u8 x.toNat])) (hgrow : W.grownBy w2 v1.ownBlock) (hg : v1.ownBlock = some g ∨ g = W.heap.size) :
    LoopRel b v (out ++ [x]) w (w2.setCell ⟨b, 0, none⟩ (.slice (some ⟨g, 0, none⟩) (out.length + 1) cap)) := by
  have hbW : b < W.heap.size := Nat.lt_of_lt_of_le hO.lt hMW.size
  have hOW : OutAt 105 5 W b v1 out := hO.kept hMW (by simp) (by simp)
  have hbg : g ≠ b := by
    rcases hg with h | h
    · intro e; subst e; exact hO.ne h
    · omega
  refine ⟨_, hOW.store hgrow (by simpa [vals] using hown) (by simp [Value.ownBlock, hbg]), ?_, ?_⟩
  · refine ((hM.trans hMW (by simp)).grown hgrow ?_).setCell (fun _ => Or.inl rfl) _
    intro k hk hlt
    rcases hv with h | h
    · exact Or.inr (h ▸ hk)
    · have := h k hk; omega
  · rcases hg with h | h
    · rcases hv with h' | h'
      · left; rw [← h', h]; rfl
      · right; intro k hk; simp [Value.ownBlock] at hk; subst hk; exact h' _ h
    · right; intro k hk; simp [Value.ownBlock] at hk; subst hk
      have h1 := hM.size; have h2 := hMW.size; omega

theorem LoopRel.step {b : Nat} {v : Value} {out : List UInt8} {w w1 w2 W : World} {v1 : Value} {x : UInt8} {y : Int} {g cap : Nat} (hb : b < w.heap.size)
    (hO : OutAt 105 5 w1 b v1 out) (hM : Mod (fun k => k = b ∨ v.ownBlock = some k) w w1) (hv : v1.ownBlock = v.ownBlock ∨ ∀ k, v1.ownBlock = some k → w.heap.size ≤ k)
    (hgrow : W.grownBy w2 v1.ownBlock)
    (hown : w2.ownsRow 0 5 1 (.slice (some ⟨g, 0, none⟩) (out.length + 1) cap) (out.length + 1) (vals out ++ [.int .u8 y])) (hy : y = (x.toNat : Int)) (hg : v1.ownBlock = some g ∨ g = W.heap.size)
    (hMW : Mod (fun _ => False) w1 W) :
    w2.cell? ⟨b, 0, none⟩ = some v1 ∧ w2.frozen? ⟨b, 0, none⟩ = false ∧
    LoopRel b v (out ++ [x]) w (w2.setCell ⟨b, 0, none⟩ (.slice (some ⟨g, 0, none⟩) (out.length + 1) cap)) := by
  have hO2 := hO.kept hMW (by simp) (by simp)
  exact ⟨(World.cell?_of_block (hgrow.block b hO2.lt (fun e => hO2.ne e.symm))).trans hO2.cell,
    (World.frozen?_of_block (hgrow.block b hO2.lt (fun e => hO2.ne e.symm))).trans hO2.froz,
    LoopRel.next hb hO hM hv W hMW (by rw [← hy]; exact hown) hgrow hg⟩

set_option maxHeartbeats 400000 in
theorem num_any (x : Int) (b : Nat) (v : Value) (bs : List UInt8) (w : World) (hx0 : -9223372036854775808 ≤ x) (hxm : x ≤ 9223372036854775807) (hO : OutAt 105 5 w b v bs) (hlen : bs.length ≤ 1099511627776) :
    Calls Tryd.prog 98 #[.pointer (some ⟨b, 0, none⟩), .int .i64 x] w (NumPost b v (bs ++ numL x) w) := by
  obtain ⟨i0, hi, hz0, hz1, hz2⟩ := info_parts Tryd.info5
  have hc := hO.cell
  have hf := hO.froz
  go_enter Tryd.func98, Tryd.ntmps98
  go_upto_region 1 with fail
  go_cut [1] (fun s1 wx => ∃ n : Nat, s1 = .int .i64 n ∧ x.toNat = n ∧ w = wx)
  case first =>
    by_cases hxx : 0 ≤ x
    · obtain ⟨n, rfl⟩ := Int.eq_ofNat_of_zero_le hxx
      go_wp2_with fail
      go_meet
      exact ⟨n, rfl, rfl, rfl⟩
    · go_wp2_with fail
      go_meet
      exact ⟨0, by go_num, by omega, rfl⟩
  case rest =>
  obtain ⟨n, rfl, hn, rfl⟩ := hcut
  have hhi : (n : Int) ≤ 9223372036854775807 := by omega
  have h0 : (0 : Int) ≤ n := by omega
  have Hn := Lib.hid hn
  clear hn hx0 hxm
  obtain ⟨hq0, hL0⟩ := bitLen_bytes n (by omega)
  obtain ⟨q, hqe⟩ : ∃ q, q = Lib.bitLen n := ⟨_, rfl⟩
  obtain ⟨L, hLe⟩ : ∃ L, L = (beBytes n).length := ⟨_, rfl⟩
  rw [← hqe, ← hLe] at hL0
  rw [← hqe] at hq0
  have hq := hq0
  have hL8 : L ≤ 8 := by omega
  have HL : Hid (((q : Int) + 7) / 8 = (L : Int)) := Lib.hid (by omega)
  have Hout0 : Hid (bs ++ numL x = bs ++ [UInt8.ofNat L] ++ digs n L L) := Lib.hid (by unfold numL; rw [Hn.out, hLe, digs_be _ _ rfl]; simp)
  have Hqe := Lib.hid hqe
  have HLe := Lib.hid hLe
  clear hqe hLe hL0 hq0
  go_wp2_with fail
  refine (Lib.flip (Tryd.bits_Len n _ (by omega) (by omega))).mono ?_
  rintro e w' ⟨rfl, rfl⟩
  rw [Int.toNat_natCast, ← Hqe.out]
  go_wp2_with (at_builtin; refine wpList_append_lies _ rfl _ _ 27 rfl 0 5 i0 (.int .u8 0) 1 1 Tryd.underlying27 hi hz0 hz1 hz2 rfl (by decide) _ _ _ rfl (hO.own.alloc _) ⟨w.heap.size, 0, none⟩ 1 1 [.int .u8 (((q : Int) + 7) / 8)] rfl rfl ?c1 ?c2 ?c6 ?c3 ?c4 ?c5 _ rfl ?_)
  case c1 => exact cell_one_new _ _ _
  case c2 => intro u hu; simp at hu; subst hu; rfl
  case c6 => omega
  case c3 => unfold maxLen; omega
  case c4 => omega
  case c5 => omega
  intro g cap w1 hown1 hgrow1 hg1 hlt1
  have hx : (((q : Int) + 7) / 8) = ((UInt8.ofNat L).toNat : Int) := by rw [HL.out]; simp; omega
  have hrel0 : LoopRel b v (bs ++ [UInt8.ofNat L]) w (w1.setCell ⟨b, 0, none⟩ (.slice (some ⟨g, 0, none⟩) (bs.length + 1) cap)) :=
    LoopRel.next hO.lt hO (Mod.refl _ _) (Or.inl rfl) (w.alloc (.cells #[.int .u8 (((q : Int) + 7) / 8)] 5)) ((Mod.refl _ _).alloc _) (by rw [← hx]; exact hown1) hgrow1 (by simpa using hg1)
  have hc1 : w1.cell? ⟨b, 0, none⟩ = some v := (World.cell?_of_block (hgrow1.block b (by have := hO.lt; simp; omega) (fun e => hO.ne e.symm))).trans ((World.cell?_of_block (heap_alloc_old w _ hO.lt)).trans hc)
  have hf1 : w1.frozen? ⟨b, 0, none⟩ = false := (World.frozen?_of_block (hgrow1.block b (by have := hO.lt; simp; omega) (fun e => hO.ne e.symm))).trans ((World.frozen?_of_block (heap_alloc_old w _ hO.lt)).trans hf)
  have Hrel := Lib.hid hrel0
  clear hrel0 hgrow1 hown1
  rw [HL.out]
  go_wp2
  go_loopw [26] (fun i wr => ∃ k : Nat, k ≤ L ∧ i = .int .i64 k ∧ LoopRel b v (bs ++ [UInt8.ofNat L] ++ digs n L k) w wr)
    (fun i _ => L - (intOf i).toNat)
  case atStart => exact ⟨0, by omega, rfl, by simpa [digs] using Hrel.out⟩
  case round =>
    obtain ⟨k, hk, rfl, hR⟩ := hrel
    obtain ⟨v1, hO1, hM1, hv1⟩ := hR
    obtain ⟨out, hout⟩ : ∃ out : List UInt8, out = bs ++ [UInt8.ofNat L] ++ digs n L k := ⟨_, rfl⟩
    rw [← hout] at hO1
    have hol : out.length ≤ 1099511627800 := by have := digs_len n L k; rw [hout]; simp; omega
    have Hout := Lib.hid hout
    clear hout
    have hcr := hO1.cell
    have hfr := hO1.froz
    have hblt := hO1.lt
    clear hc1 hf1 hc hf
    by_cases hlt : k < L
    · go_wp2
      obtain ⟨s, hs⟩ : ∃ s : Nat, s = L - 1 - k := ⟨_, rfl⟩
      have e1 : IntKind.i64.wrap ((L : Int) - 1) = (L : Int) - 1 := IntWalk.i64_in _ (by omega)
      have e2 : IntKind.i64.wrap ((L : Int) - 1 - k) = (s : Int) := by rw [IntWalk.i64_in _ (by omega)]; omega
      obtain ⟨c, hcs⟩ : ∃ c : Nat, c = 8 * s := ⟨_, rfl⟩
      have e3 : IntKind.i64.wrap (8 * (s : Int)) = (c : Int) := by rw [IntWalk.i64_in _ (by omega)]; omega
      have hc64 : c ≤ 64 := by omega
      have Hxm : Hid (IntKind.u8.wrap ((n : Int) / 2 ^ c) = ((UInt8.ofNat (n / 2 ^ c)).toNat : Int)) := Lib.hid (by rw [IntKind.wrap_u8]; simp)
      have Hs := Lib.hid hs
      have Hcs := Lib.hid hcs
      clear hs hcs
      go_region_law (
        refine step_append_lies _ rfl (.tmp 33) (.tmp 42) 27 rfl 0 5 i0 (.int .u8 0) 1 1 Tryd.underlying27 hi hz0 hz1 hz2 rfl (by decide) v1 out.length (vals out) rfl ?_ ⟨wr.heap.size, 0, none⟩ 1 1 [.int .u8 (IntKind.u8.wrap ((n : Int) / 2 ^ c))] rfl rfl ?_ ?_ ?_ ?_ ?_ ?_ _ rfl ?_
        · exact (hO1.own.alloc _)
        · exact cell_one_new _ _ _
        · intro u hu; simp at hu; subst hu; rfl
        · omega
        · unfold maxLen; omega
        · omega
        · omega
        intro g2 cap2 w2 hown2 hgrow2 hg2 hlt2
        obtain ⟨hc2, hf2, hr2⟩ := LoopRel.step (x := UInt8.ofNat (n / 2 ^ c)) hO.lt hO1 hM1 hv1 hgrow2 hown2 Hxm.out hg2 (by first | exact ((Mod.refl _ _).alloc _).drew | exact (Mod.refl _ _).drew.alloc _)
        have Hrel2 := Lib.hid hr2
        clear hr2 hown2 hgrow2 hg2 hlt2)
      all_goals
        go_wp2
        go_roundw
        case rel => exact ⟨k + 1, by omega, by go_num, by
          rw [digs_succ, ← List.append_assoc, ← Hout.out, ← Hs.out, ← Hcs.out]
          exact Hrel2.out⟩
        case measure => simp [intOf]; omega
    · obtain rfl : k = L := by omega
      go_wp2
      go_ret
      exact ⟨rfl, v1, by rw [Hout0.out, ← Hout.out]; exact hO1, hM1, hv1⟩
end Go.Proofs.YtkejidmomnmdbaaDoor
