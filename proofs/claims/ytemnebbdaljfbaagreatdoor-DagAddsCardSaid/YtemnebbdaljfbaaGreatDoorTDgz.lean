/- What the law's Is tells of a dag that is the reference's: true; DagAdds' walk. (PARTS; tools/mk-dgz.py) -/
import Derived.Test.YtemnebbdaljfbaaGreatDoorZ15
namespace Go.Proofs.YtemnebbdaljfbaaGreatDoor
open Go.RowKit

theorem KL.sorted {K : List Blk} {L : List RBk} (h : KL K L) (hn : (K.map (·.id)).Nodup) : rsort (L.map (·.nm)) = (ksort (K.map (·.id))).map (·.1) := by
  have h32 : ∀ p ∈ L.map (·.nm), p.length = 32 := by
    intro p hp
    obtain ⟨r, hr, rfl⟩ := List.mem_map.1 hp
    obtain ⟨b, _, e, _⟩ := h.lk r hr
    rw [← e]; exact b.id.2
  obtain ⟨M, hM⟩ : ∃ M : List Nm, M.map (·.1) = L.map (·.nm) := ⟨(L.map (·.nm)).map nmOf, own_rs _ h32⟩
  rw [← hM, rsort_kset]
  congr 1
  refine strict_uniq _ _ (kset_strict M) (ksort_lt hn) (fun x => ?_)
  rw [kset_mem, ksort_mem]
  have e1 : x ∈ M ↔ x.1 ∈ L.map (·.nm) := by
    rw [← hM, List.mem_map]
    constructor
    · intro hx; exact ⟨x, hx, rfl⟩
    · rintro ⟨y, hy, e⟩; rw [← Subtype.ext e]; exact hy
  rw [e1, List.mem_map, List.mem_map]
  constructor
  · rintro ⟨r, hr, e⟩
    obtain ⟨b, hb, e2, _⟩ := h.lk r hr
    exact ⟨b, hb, Subtype.ext (by rw [e2, e])⟩
  · rintro ⟨b, hb, e⟩
    obtain ⟨r, hr, e2, _⟩ := h.kl b hb
    exact ⟨r, hr, by rw [e2, e]⟩
set_option maxRecDepth 20000 in
set_option maxHeartbeats 16000000 in
theorem dgis_any : IsOk := by
  intro u S R da X q c L hdg hkl hid hrd hlen hT
  obtain ⟨B, hB⟩ : ∃ B, B = ksort (X.K.map (·.id)) := ⟨_, rfl⟩
  have HRS : Hid (rsort (L.map (·.nm)) = B.map (·.1)) := Lib.hid (by rw [hB]; exact hkl.sorted hdg.nodup)
  have HBL : Hid (B.length = L.length) := Lib.hid (by rw [hB, ← hkl.len]; exact (List.length_mergeSort _).trans (List.length_map _))
  have HBM : Hid (∀ x ∈ B, ∃ b ∈ X.K, b.id = x) := Lib.hid (fun x hx => by rw [hB, ksort_mem] at hx; obtain ⟨b, hb, e⟩ := List.mem_map.1 hx; exact ⟨b, hb, e⟩)
  have HBK : Hid (∀ w : World, Below u.heap.size u w → Calls Tryz.prog 35 #[.pointer (some ⟨da, 0, none⟩)] w fun r w' => ∃ q c, r = .returned (.slice q L.length c) ∧ Rw encN 70 w' q c B ∧ (∀ a, q = some a → w.heap.size ≤ a.block) ∧ Below w.heap.size w w') := Lib.hid (fun w hb => by
    have h := dgblocks_any (hdg.old hb)
    rw [hkl.len, ← hB] at h; exact h)
  have HLN : Hid (∀ w : World, Below u.heap.size u w → Calls Tryz.prog 16 #[.pointer (some ⟨da, 0, none⟩)] w fun r w' => r = .returned (.int .i64 (L.length : Nat)) ∧ w = w') := Lib.hid (fun w hb => by
    have h := dglen_any (hdg.old hb)
    rw [hkl.len] at h; exact h)
  have HDG := Lib.hid hdg
  have HID := Lib.hid hid
  have HRD := Lib.hid hrd
  have HT := Lib.hid hT
  obtain ⟨n, hn⟩ : ∃ n, n = L.length := ⟨_, rfl⟩
  have HN := Lib.hid hn
  rw [← hn] at HBL HBK HLN hlen ⊢
  clear hdg hkl hid hrd hT hB hn
  go_enter Tryz.func17, Tryz.ntmps17
  go_wp2_with fail
  go_loopw [5, 15] (fun s5 s15 wr => ∃ (i : Nat) (q5 : Option Addr) (c5 : Nat), i ≤ n ∧ s15 = .int .i64 (i : Int) ∧ s5 = .slice q5 i c5 ∧ Hid (AccR encS 9 u i ((L.take i).map (·.nm)) q5 c5 wr)) (fun _ s15 _ => n - (intOf s15).toNat)
  case atStart => exact ⟨0, none, 0, Nat.zero_le _, rfl, rfl, Lib.hid (AccR.zero _ _ _)⟩
  case round =>
    obtain ⟨i, q5, c5, hi, rfl, rfl, HA⟩ := hrel
    have i0 : (0 : Int) ≤ i := by omega
    by_cases hlt : i < n
    · have hlt' : (i : Int) < n := by omega
      have hil : i < L.length := by have := HN.out; omega
      obtain ⟨bs, off, rfl, hbs, hc⟩ := (HRD.out.old HA.out.m) i hil
      obtain ⟨y, hy⟩ : ∃ y, y = L[i] := ⟨_, rfl⟩
      have HTK : Hid ((L.take i).map (·.nm) ++ [y.nm] = (L.take (i + 1)).map (·.nm)) := Lib.hid (by rw [List.take_succ_eq_append_getElem hil, List.map_append, hy]; rfl)
      rw [← hy] at hc
      have HCC : Hid (∀ j v, y.cells[j]? = some v → wr.cell? ⟨bs, off + i * 8 + j, none⟩ = some v) := Lib.hid hc
      have HSZ : Hid (y.cells.toArray.size = 8) := Lib.hid rfl
      have HIN := Lib.hid (rb_info y)
      have HON : Hid (∀ v ∈ y.cells.toArray.toList, v.oneCell' = true) := Lib.hid y.one
      clear hy hc hbs hil
      go_upto_region 5 with (first
        | (refine wpList_exec rfl (exec_load_rb (.tmp 17) rfl bs (off + i * 8) rfl y HCC.out) ?_; go_frame)
        | (refine wpList_store_row rfl rfl 31 (.tmp 7) (.tmp 18) rfl wr.heap.size rfl 31 _ y.cells.toArray rfl (heap_alloc_new wr _) HSZ.out.symm HIN.out HON.out ?_))
      refine wp_gen (fun W5 => W5.heap[wr.heap.size]? = some (.cells y.cells.toArray 31 (0, 0)) ∧ Below wr.heap.size wr W5) (row_new wr _ _ y.cells.toArray 31 rfl) (fun W5 hW5 => ?_)
      obtain ⟨hr5, hb5⟩ := hW5
      obtain ⟨g7, hg7⟩ : ∃ g7, g7 = wr.heap.size := ⟨_, rfl⟩
      rw [← hg7] at hr5
      rw [← hg7]
      obtain ⟨D, hD⟩ : ∃ D, D = (L.take i).map (·.nm) := ⟨_, rfl⟩
      rw [← hD] at HA HTK
      obtain ⟨nm, hnm⟩ : ∃ nm, nm = y.nm := ⟨_, rfl⟩
      have hcell : W5.cell? ⟨g7, 0, none⟩ = some (.string ⟨nm.toArray⟩) := by rw [hnm, cell_of_row _ g7 0 _ _ _ hr5]; rfl
      rw [← hnm] at HTK
      have hb6 := alloc1 W5 (.cells #[.string ⟨nm.toArray⟩] 9)
      have HA6 := Lib.hid (HA.out.below (hb5.trans (hb6.mono hb5.size)))
      have HDL : Hid (D.length = i) := Lib.hid HA.out.len
      have HRD6 : Hid (Rd encS (W5.alloc (.cells #[.string ⟨nm.toArray⟩] 9)) (some ⟨W5.heap.size, 0, none⟩) [nm]) := Lib.hid (Rd.made encS W5 9 [nm] (by simp [maxLen]))
      have HNB : Hid (i + 1 ≤ 100000000000) := Lib.hid (by omega)
      clear hr5 hb5 hb6 hg7 hD hnm HCC HA
      go_wp2_with (at_builtin; refine wpList_pushR encS rfl (.tmp 19) (.tmp 22) 27 9 (.string ⟨#[]⟩) 16 rfl Tryz.underlying27 (by kernel_rfl) rfl (by decide) q5 c5 i D HDL.out rfl HA6.out.s (some ⟨W5.heap.size, 0, none⟩) 1 1 [nm] rfl rfl HRD6.out HNB.out ?_; intro q2 c2 w6 hP; have HP := Lib.hid hP; clear hP; go_frame)
      have HA7 : Hid (AccR encS 9 u (i + 1) ((L.take (i + 1)).map (·.nm)) q2 c2 w6) := Lib.hid (by rw [← HTK.out]; exact HA6.out.push HP.out)
      clear HP HA6 HRD6
      go_roundw
      case rel => exact ⟨i + 1, q2, c2, by omega, by go_num, rfl, HA7⟩
      case measure => simp [intOf]; omega
    · obtain rfl : n = i := by omega
      have hlt' : ¬ (n : Int) < n := by omega
      have HB1 := Lib.hid HA.out.m
      have hD : (L.take n).map (·.nm) = L.map (·.nm) := by rw [List.take_of_length_le (by have := HN.out; omega)]
      have HSRT := Lib.hid (rsorts_any q5 c5 (L.map (·.nm)) wr (by have h := HA.out.s.rd; rw [hD] at h; exact h) (by rw [List.length_map]; have := HN.out; omega))
      have hBl : (B.map (·.1)).length = n := by rw [List.length_map, HBL.out]
      rw [HRS.out, hBl, List.length_map, ← HN.out] at HSRT
      clear hD hBl HA
      go_wp2_with fail
      refine HSRT.out.mono ?_
      rintro r w2 ⟨qs, cs, rfl, hrs, _, hb2⟩
      have HB2 := Lib.hid (HB1.out.trans (hb2.mono HB1.out.size))
      have HS2 := Lib.hid hrs
      clear hrs hb2 HSRT HB1
      go_wp2_with fail
      refine (HBK.out w2 HB2.out).mono ?_
      rintro r w3 ⟨qb, cq, rfl, hrb, _, hb3⟩
      have HB3 := Lib.hid (HB2.out.trans (hb3.mono HB2.out.size))
      have HS3 := Lib.hid (HS2.out.old hb3)
      have HQ3 := Lib.hid hrb
      clear hrb hb3 HS2 HB2
      go_wp2_with fail
      refine (HLN.out w3 HB3.out).mono ?_
      rintro r w4 ⟨rfl, rfl⟩
      go_wp2_with fail
      go_loopw [43] (fun s43 wx => ∃ i : Nat, i ≤ n ∧ s43 = .int .i64 (i : Int) ∧ Hid (Below w3.heap.size w3 wx)) (fun s43 _ => n - (intOf s43).toNat)
      case atStart => exact ⟨0, Nat.zero_le _, rfl, Lib.hid (Below.refl _ _)⟩
      case round =>
        obtain ⟨i, hik, rfl, HW⟩ := hrel
        have i0 : (0 : Int) ≤ (i : Int) := by omega
        by_cases hlt : i < n
        · have ik : (i : Int) < (n : Int) := by omega
          have hiB : i < B.length := by have := HBL.out; omega
          obtain ⟨nm, hnm⟩ : ∃ nm, nm = B[i] := ⟨_, rfl⟩
          obtain ⟨gq, rfl⟩ : ∃ g, qb = some ⟨g, 0, none⟩ := by
            rcases HQ3.out.shape with ⟨_, h0, _⟩ | ⟨g, e, _⟩
            · rw [h0] at hiB; simp at hiB
            · exact ⟨g, e⟩
          obtain ⟨bs, off, rfl, _, hcs⟩ := (HS3.out.old HW.out).rd.str i (by rw [List.length_map]; exact hiB)
          have hcell : wr.cell? ⟨bs, off + i, none⟩ = some (.string ⟨nm.1.toArray⟩) := by rw [hcs, hnm, List.getElem_map]
          have HNM0 : Hid (∀ w', Below wr.heap.size wr w' → ∀ j v, (encN.f nm)[j]? = some v → w'.cell? ⟨gq, i * 32 + j, none⟩ = some v) := Lib.hid (fun w' hb j v hv => by
            obtain ⟨b', o', e, _, c1⟩ := ((HQ3.out.old HW.out).old hb).rd i hiB
            cases e
            rw [← hnm] at c1
            have := c1 j v hv
            rw [Nat.zero_add] at this
            exact this)
          have hcv : (convert 68 9 (.slice (some ⟨gq, i * 32, none⟩) 32 32)).run Tryz.prog wr = .ok (.string ⟨nm.1.toArray⟩) wr := by
            have hl := nm.2
            rw [run_convert_bytes_arg wr 68 5 Tryz.underlying68 Tryz.underlying5 gq (i * 32) 32 32 (nm.1.map fun x => (x.toNat : Int)) (by simpa using hl) (fun j hj => by
              rw [HNM0.out wr (Below.refl _ _) j _ (vals_get nm.1 j (by omega))]
              simp [List.getD, hl, hj]) 9 Tryz.underlying9]
            simp [strOfNums, Function.comp_def]
          obtain ⟨b0, hb0, hb0n⟩ := HBM.out nm (by rw [hnm]; exact List.getElem_mem _)
          have HBLK := Lib.hid (dgblock_any ((HDG.out.old HB3.out).old HW.out) nm)
          have HHE : Hid (hasE nm (kE X.K) = true) := Lib.hid ((kE_has _ _).2 ⟨b0, hb0, hb0n⟩)
          rw [HHE.out] at HBLK
          have HBW : Hid (Below u.heap.size u wr) := Lib.hid (HB3.out.trans (HW.out.mono HB3.out.size))
          have HLD : Hid (∀ w', Below wr.heap.size wr w' → ∀ (o : Oper) (a : Act), o.op = .load 70 (.tmp 59) → a.eval (.tmp 59) = .pointer (some ⟨gq, i * 32, none⟩) → (execOp a.eval o).run Tryz.prog w' = .ok (.value (.agg (vals nm.1).toArray)) w') := Lib.hid (fun w' hb o a ho ha => exec_load_mid (.tmp 59) ho gq (i * 32) ha nm (fun j v hv => HNM0.out w' hb j v hv))
          clear hcs hnm hiB hb0 hb0n hlt
          go_wp2_with (refine wpList_exec rfl (HLD.out wr (Below.refl _ _) _ _ rfl rfl) ?_; go_frame)
          refine HBLK.out.mono ?_
          rintro r w5 ⟨b0, b1, rfl, hbis, hbok, hbin, hb5⟩
          obtain ⟨hb0K, hb0i⟩ := hbin trivial
          have HNI : Hid (nm = b1.id) := Lib.hid (by rw [← hb0i]; exact (congrArg (·.1) hbis).symm)
          have HBO : Hid (Rd encN w5 b1.q b1.h.ps) := Lib.hid hbok.rw.rd
          have hbh : b1.h = b0.h := congrArg (·.2) hbis
          have HOK : Hid (HOk b1.h) := Lib.hid (by rw [hbh]; exact (HDG.out.ko b0 hb0K).1)
          have HNN : Hid (nmH b1.h = nm) := Lib.hid (by rw [hbh, ← HID.out b0 hb0K, hb0i])
          have HB5 := Lib.hid hb5
          have HSZ : Hid (b1.cells.toArray.size = 39) := Lib.hid b1.size
          have HQB := Lib.hid (blk_info b1)
          have HQ4 : Hid (∀ v ∈ b1.cells.toArray.toList, v.oneCell' = true) := Lib.hid (by simpa using b1.one)
          clear hbis hbok hbin hb5 hb0K hb0i hbh HBLK hcell hcv
          go_upto_region 17 with (refine wpList_store_row rfl rfl 72 (.tmp 11) (.tmp 62) rfl w5.heap.size rfl 72 _ b1.cells.toArray rfl (heap_alloc_new w5 _) HSZ.out.symm HQB.out HQ4.out ?_)
          refine wp_gen (fun W => W.heap[w5.heap.size]? = some (.cells b1.cells.toArray 72 (0, 0)) ∧ Below w5.heap.size w5 W) (row_new w5 _ _ b1.cells.toArray 72 rfl) (fun W8 hW8 => ?_)
          have HR11 := Lib.hid hW8.1
          have HB58 := Lib.hid (HB5.out.trans (hW8.2.mono HB5.out.size))
          have HBO8 := Lib.hid (HBO.out.old hW8.2)
          have HNM : Hid (∀ w', Below W8.heap.size W8 w' → ∀ j v, (encN.f nm)[j]? = some v → w'.cell? ⟨gq, i * 32 + j, none⟩ = some v) := Lib.hid (fun w' hb => HNM0.out w' (HB58.out.trans (hb.mono HB58.out.size)))
          have HBW8 : Hid (Below u.heap.size u W8) := Lib.hid (HBW.out.trans (HB58.out.mono HBW.out.size))
          have HIDC : Hid (∀ w1, Below W8.heap.size W8 w1 → Calls Tryz.prog 34 #[.agg (hcells b1.h b1.q b1.c)] w1 fun r w' => r = .returned (.agg (vals nm.1).toArray) ∧ Below w1.heap.size w1 w') := Lib.hid (fun w1 hb => by
            have h := hid_any b1.h b1.q b1.c w1 (HBO8.out.old hb) HOK.out ((HT.out.old HBW8.out).old hb)
            have e : shaB (hbytes (·.1) b1.h) = nm.1 := congrArg (·.1) HNN.out
            rw [e] at h; exact h)
          have HHAS : Hid (∀ w1, Below W8.heap.size W8 w1 → Calls Tryz.prog 33 #[.pointer (some ⟨da, 0, none⟩), .agg (vals nm.1).toArray] w1 fun r w' => r = .returned (.bool true) ∧ Below w1.heap.size w1 w') := Lib.hid (fun w1 hb => by
            have h := dghas_any ((HDG.out.old HBW8.out).old hb) nm
            rw [HHE.out] at h; exact h)
          obtain ⟨g11, hg11⟩ : ∃ g, g = w5.heap.size := ⟨_, rfl⟩
          rw [← hg11] at HR11
          rw [← hg11]
          clear hW8 hg11 HQ4 HQB HSZ
          have HNE : Hid (∀ w, (binOp .neq 70 (.agg (vals nm.1).toArray) (.agg (vals nm.1).toArray)).run Tryz.prog w = .ok (.bool false) w) := Lib.hid (fun w => by rw [id_neq nm.1 nm.1 nm.2 nm.2 w]; simp)
          refine wp_region_puts (fun t v w => VK (match t with
            | 64 => .eq (Value.bool true)
            | 65 => .eq (Value.bool false)
            | 66 => .eq (Value.bool false)
            | 67 => .eq (.pointer (some ⟨g11, 0, none⟩))
            | 68 => .eq (.agg (vals nm.1).toArray)
            | 69 => .eq (.slice (some ⟨gq, 0, none⟩) n cq)
            | 70 => .eq (.int .i64 (i : Int))
            | 71 => .eq (.pointer (some ⟨gq, i * 32, none⟩))
            | 72 => .eq (.agg (vals nm.1).toArray)
            | 73 => .eq (Value.bool false)
            | 74 => .eq (Value.bool false)
            | 75 => .eq (Value.bool false)
            | 76 => .eq (.pointer (some ⟨g11, 32, none⟩))
            | 77 => .eq (.agg (hcells b1.h b1.q b1.c))
            | 78 => .eq (.agg (vals nm.1).toArray)
            | 79 => .eq (.slice (some ⟨gq, 0, none⟩) n cq)
            | 80 => .eq (.int .i64 (i : Int))
            | 81 => .eq (.pointer (some ⟨gq, i * 32, none⟩))
            | 82 => .eq (.agg (vals nm.1).toArray)
            | 83 => .eq (Value.bool false)
            | 84 => .eq (Value.bool false)
            | 85 => .eq (Value.bool false)
            | 86 => .eq (.pointer (some ⟨da, 0, none⟩))
            | 87 => .eq (.slice (some ⟨gq, 0, none⟩) n cq)
            | 88 => .eq (.int .i64 (i : Int))
            | 89 => .eq (.pointer (some ⟨gq, i * 32, none⟩))
            | 90 => .eq (.agg (vals nm.1).toArray)
            | 91 => .eq (Value.bool true)
            | 92 => .eq (Value.bool false)
            | 93 => .eq (Value.bool false)
            | _ => .any) v w) (fun w' => Below W8.heap.size W8 w') 95 (by kernel_rfl) (by decide +kernel) rfl (Below.refl _ _).drew (by
            refine OweAll.cons (owesK rfl rfl fun a w1 ha hG hV => ?_) ?_
            · skip
              have h12 := ha.outer 12 (by decide +kernel)
              simp only [Act.eval] at h12
              exact ⟨Value.bool true, w1, wanted_free rfl, by simp [execOp, go_sem, h12], Below.refl _ _, rfl⟩
            refine OweAll.cons (owesK rfl rfl fun a w1 ha hG hV => ?_) ?_
            · skip
              have h64 : a.tmps.getD 64 undef = Value.bool true := hV.get 64 (by decide +kernel)
              exact ⟨Value.bool false, w1, wanted_free rfl, by simp [execOp, go_sem, h64], Below.refl _ _, rfl⟩
            refine OweAll.cons (owesK rfl rfl fun a w1 ha hG hV => ?_) ?_
            · skip
              have h65 : a.tmps.getD 65 undef = Value.bool false := hV.get 65 (by decide +kernel)
              exact ⟨Value.bool false, w1, wanted_free rfl, by simp [execOp, go_sem, h65], Below.refl _ _, rfl⟩
            refine OweAll.cons (owesK rfl rfl fun a w1 ha hG hV => ?_) ?_
            · skip
              have h11 := ha.outer 11 (by decide +kernel)
              simp only [Act.eval] at h11
              exact ⟨.pointer (some ⟨g11, 0, none⟩), w1, (wanted_of (t := 66) rfl rfl (hV.get 66 (by decide +kernel))), by simp [execOp, go_sem, h11], Below.refl _ _, rfl⟩
            refine OweAll.cons (owesK rfl rfl fun a w1 ha hG hV => ?_) ?_
            · skip
              have h67 : a.tmps.getD 67 undef = .pointer (some ⟨g11, 0, none⟩) := hV.get 67 (by decide +kernel)
              have hrow := (hG.block _ (Array.getElem?_eq_some_iff.1 HR11.out).1).trans HR11.out
              have hni := HNI.out
              exact ⟨.agg (vals nm.1).toArray, w1, (wanted_of (t := 66) rfl rfl (hV.get 66 (by decide +kernel))), exec_load_mid (.tmp 67) rfl g11 0 h67 nm (fun _ u hu => by rw [hni] at hu; exact blk_id hrow hu), Below.refl _ _, rfl⟩
            refine OweAll.cons (owesK rfl rfl fun a w1 ha hG hV => ?_) ?_
            · skip
              have h8 := ha.outer 8 (by decide +kernel)
              simp only [Act.eval] at h8
              exact ⟨.slice (some ⟨gq, 0, none⟩) n cq, w1, (wanted_of (t := 66) rfl rfl (hV.get 66 (by decide +kernel))), by simp [execOp, go_sem, h8], Below.refl _ _, rfl⟩
            refine OweAll.cons (owesK rfl rfl fun a w1 ha hG hV => ?_) ?_
            · skip
              have h9 := ha.outer 9 (by decide +kernel)
              simp only [Act.eval] at h9
              exact ⟨.int .i64 (i : Int), w1, (wanted_of (t := 66) rfl rfl (hV.get 66 (by decide +kernel))), by simp [execOp, go_sem, h9], Below.refl _ _, rfl⟩
            refine OweAll.cons (owesK rfl rfl fun a w1 ha hG hV => ?_) ?_
            · skip
              have h69 : a.tmps.getD 69 undef = .slice (some ⟨gq, 0, none⟩) n cq := hV.get 69 (by decide +kernel)
              have h70 : a.tmps.getD 70 undef = .int .i64 (i : Int) := hV.get 70 (by decide +kernel)
              exact ⟨.pointer (some ⟨gq, i * 32, none⟩), w1, (wanted_of (t := 66) rfl rfl (hV.get 66 (by decide +kernel))), by simp [execOp, go_sem, h69, h70, i0, ik], Below.refl _ _, rfl⟩
            refine OweAll.cons (owesK rfl rfl fun a w1 ha hG hV => ?_) ?_
            · skip
              have h71 : a.tmps.getD 71 undef = .pointer (some ⟨gq, i * 32, none⟩) := hV.get 71 (by decide +kernel)
              exact ⟨.agg (vals nm.1).toArray, w1, (wanted_of (t := 66) rfl rfl (hV.get 66 (by decide +kernel))), exec_load_mid (.tmp 71) rfl gq (i * 32) h71 nm (fun j u hu => HNM.out w1 hG j u hu), Below.refl _ _, rfl⟩
            refine OweAll.cons (owesK rfl rfl fun a w1 ha hG hV => ?_) ?_
            · skip
              have h68 : a.tmps.getD 68 undef = .agg (vals nm.1).toArray := hV.get 68 (by decide +kernel)
              have h72 : a.tmps.getD 72 undef = .agg (vals nm.1).toArray := hV.get 72 (by decide +kernel)
              have hne := HNE.out
              exact ⟨Value.bool false, w1, (wanted_of (t := 66) rfl rfl (hV.get 66 (by decide +kernel))), by simp [execOp, go_sem, h68, h72, hne], Below.refl _ _, rfl⟩
            refine OweAll.cons (owesK rfl rfl fun a w1 ha hG hV => ?_) ?_
            · skip
              have h66 : a.tmps.getD 66 undef = Value.bool false := hV.get 66 (by decide +kernel)
              have h73 : a.tmps.getD 73 undef = Value.bool false := hV.get 73 (by decide +kernel)
              exact ⟨Value.bool false, w1, wanted_free rfl, by simp [execOp, go_sem, h66, h73], Below.refl _ _, rfl⟩
            refine OweAll.cons (owesK rfl rfl fun a w1 ha hG hV => ?_) ?_
            · skip
              have h74 : a.tmps.getD 74 undef = Value.bool false := hV.get 74 (by decide +kernel)
              exact ⟨Value.bool false, w1, wanted_free rfl, by simp [execOp, go_sem, h74], Below.refl _ _, rfl⟩
            refine OweAll.cons (owesK rfl rfl fun a w1 ha hG hV => ?_) ?_
            · skip
              have h11 := ha.outer 11 (by decide +kernel)
              simp only [Act.eval] at h11
              exact ⟨.pointer (some ⟨g11, 32, none⟩), w1, (wanted_of (t := 75) rfl rfl (hV.get 75 (by decide +kernel))), by simp [execOp, go_sem, h11], Below.refl _ _, rfl⟩
            refine OweAll.cons (owesK rfl rfl fun a w1 ha hG hV => ?_) ?_
            · skip
              have h76 : a.tmps.getD 76 undef = .pointer (some ⟨g11, 32, none⟩) := hV.get 76 (by decide +kernel)
              have hrow := (hG.block _ (Array.getElem?_eq_some_iff.1 HR11.out).1).trans HR11.out
              exact ⟨.agg (hcells b1.h b1.q b1.c), w1, (wanted_of (t := 75) rfl rfl (hV.get 75 (by decide +kernel))), exec_load_hd (.tmp 76) rfl g11 32 h76 b1.h b1.q b1.c (fun i u hu => blk_hd hrow hu), Below.refl _ _, rfl⟩
            refine OweAll.cons (owesK_call rfl rfl 34 fun a w1 ha hG hV => ?_) ?_
            · skip
              have h77 : a.tmps.getD 77 undef = .agg (hcells b1.h b1.q b1.c) := hV.get 77 (by decide +kernel)
              refine ⟨#[.agg (hcells b1.h b1.q b1.c)], (wanted_of (t := 75) rfl rfl (hV.get 75 (by decide +kernel))), by simp [execOp, resolve, invoke, go_sem, h77], ?_⟩
              refine (HIDC.out w1 hG).mono ?_
              rintro r u2 ⟨rfl, hb⟩; exact ⟨_, rfl, rfl, hb⟩
            refine OweAll.cons (owesK rfl rfl fun a w1 ha hG hV => ?_) ?_
            · skip
              have h8 := ha.outer 8 (by decide +kernel)
              simp only [Act.eval] at h8
              exact ⟨.slice (some ⟨gq, 0, none⟩) n cq, w1, (wanted_of (t := 75) rfl rfl (hV.get 75 (by decide +kernel))), by simp [execOp, go_sem, h8], Below.refl _ _, rfl⟩
            refine OweAll.cons (owesK rfl rfl fun a w1 ha hG hV => ?_) ?_
            · skip
              have h9 := ha.outer 9 (by decide +kernel)
              simp only [Act.eval] at h9
              exact ⟨.int .i64 (i : Int), w1, (wanted_of (t := 75) rfl rfl (hV.get 75 (by decide +kernel))), by simp [execOp, go_sem, h9], Below.refl _ _, rfl⟩
            refine OweAll.cons (owesK rfl rfl fun a w1 ha hG hV => ?_) ?_
            · skip
              have h79 : a.tmps.getD 79 undef = .slice (some ⟨gq, 0, none⟩) n cq := hV.get 79 (by decide +kernel)
              have h80 : a.tmps.getD 80 undef = .int .i64 (i : Int) := hV.get 80 (by decide +kernel)
              exact ⟨.pointer (some ⟨gq, i * 32, none⟩), w1, (wanted_of (t := 75) rfl rfl (hV.get 75 (by decide +kernel))), by simp [execOp, go_sem, h79, h80, i0, ik], Below.refl _ _, rfl⟩
            refine OweAll.cons (owesK rfl rfl fun a w1 ha hG hV => ?_) ?_
            · skip
              have h81 : a.tmps.getD 81 undef = .pointer (some ⟨gq, i * 32, none⟩) := hV.get 81 (by decide +kernel)
              exact ⟨.agg (vals nm.1).toArray, w1, (wanted_of (t := 75) rfl rfl (hV.get 75 (by decide +kernel))), exec_load_mid (.tmp 81) rfl gq (i * 32) h81 nm (fun j u hu => HNM.out w1 hG j u hu), Below.refl _ _, rfl⟩
            refine OweAll.cons (owesK rfl rfl fun a w1 ha hG hV => ?_) ?_
            · skip
              have h78 : a.tmps.getD 78 undef = .agg (vals nm.1).toArray := hV.get 78 (by decide +kernel)
              have h82 : a.tmps.getD 82 undef = .agg (vals nm.1).toArray := hV.get 82 (by decide +kernel)
              have hne := HNE.out
              exact ⟨Value.bool false, w1, (wanted_of (t := 75) rfl rfl (hV.get 75 (by decide +kernel))), by simp [execOp, go_sem, h78, h82, hne], Below.refl _ _, rfl⟩
            refine OweAll.cons (owesK rfl rfl fun a w1 ha hG hV => ?_) ?_
            · skip
              have h75 : a.tmps.getD 75 undef = Value.bool false := hV.get 75 (by decide +kernel)
              have h83 : a.tmps.getD 83 undef = Value.bool false := hV.get 83 (by decide +kernel)
              exact ⟨Value.bool false, w1, wanted_free rfl, by simp [execOp, go_sem, h75, h83], Below.refl _ _, rfl⟩
            refine OweAll.cons (owesK rfl rfl fun a w1 ha hG hV => ?_) ?_
            · skip
              have h84 : a.tmps.getD 84 undef = Value.bool false := hV.get 84 (by decide +kernel)
              exact ⟨Value.bool false, w1, wanted_free rfl, by simp [execOp, go_sem, h84], Below.refl _ _, rfl⟩
            refine OweAll.cons (owesK rfl rfl fun a w1 ha hG hV => ?_) ?_
            · skip
              have h0 := ha.outer 0 (by decide +kernel)
              simp only [Act.eval] at h0
              exact ⟨.pointer (some ⟨da, 0, none⟩), w1, (wanted_of (t := 85) rfl rfl (hV.get 85 (by decide +kernel))), by simp [execOp, go_sem, h0], Below.refl _ _, rfl⟩
            refine OweAll.cons (owesK rfl rfl fun a w1 ha hG hV => ?_) ?_
            · skip
              have h8 := ha.outer 8 (by decide +kernel)
              simp only [Act.eval] at h8
              exact ⟨.slice (some ⟨gq, 0, none⟩) n cq, w1, (wanted_of (t := 85) rfl rfl (hV.get 85 (by decide +kernel))), by simp [execOp, go_sem, h8], Below.refl _ _, rfl⟩
            refine OweAll.cons (owesK rfl rfl fun a w1 ha hG hV => ?_) ?_
            · skip
              have h9 := ha.outer 9 (by decide +kernel)
              simp only [Act.eval] at h9
              exact ⟨.int .i64 (i : Int), w1, (wanted_of (t := 85) rfl rfl (hV.get 85 (by decide +kernel))), by simp [execOp, go_sem, h9], Below.refl _ _, rfl⟩
            refine OweAll.cons (owesK rfl rfl fun a w1 ha hG hV => ?_) ?_
            · skip
              have h87 : a.tmps.getD 87 undef = .slice (some ⟨gq, 0, none⟩) n cq := hV.get 87 (by decide +kernel)
              have h88 : a.tmps.getD 88 undef = .int .i64 (i : Int) := hV.get 88 (by decide +kernel)
              exact ⟨.pointer (some ⟨gq, i * 32, none⟩), w1, (wanted_of (t := 85) rfl rfl (hV.get 85 (by decide +kernel))), by simp [execOp, go_sem, h87, h88, i0, ik], Below.refl _ _, rfl⟩
            refine OweAll.cons (owesK rfl rfl fun a w1 ha hG hV => ?_) ?_
            · skip
              have h89 : a.tmps.getD 89 undef = .pointer (some ⟨gq, i * 32, none⟩) := hV.get 89 (by decide +kernel)
              exact ⟨.agg (vals nm.1).toArray, w1, (wanted_of (t := 85) rfl rfl (hV.get 85 (by decide +kernel))), exec_load_mid (.tmp 89) rfl gq (i * 32) h89 nm (fun j u hu => HNM.out w1 hG j u hu), Below.refl _ _, rfl⟩
            refine OweAll.cons (owesK_call rfl rfl 33 fun a w1 ha hG hV => ?_) ?_
            · skip
              have h86 : a.tmps.getD 86 undef = .pointer (some ⟨da, 0, none⟩) := hV.get 86 (by decide +kernel)
              have h90 : a.tmps.getD 90 undef = .agg (vals nm.1).toArray := hV.get 90 (by decide +kernel)
              refine ⟨#[.pointer (some ⟨da, 0, none⟩), .agg (vals nm.1).toArray], (wanted_of (t := 85) rfl rfl (hV.get 85 (by decide +kernel))), by simp [execOp, resolve, invoke, go_sem, h86, h90], ?_⟩
              refine (HHAS.out w1 hG).mono ?_
              rintro r u2 ⟨rfl, hb⟩; exact ⟨_, rfl, rfl, hb⟩
            refine OweAll.cons (owesK rfl rfl fun a w1 ha hG hV => ?_) ?_
            · skip
              have h91 : a.tmps.getD 91 undef = Value.bool true := hV.get 91 (by decide +kernel)
              exact ⟨Value.bool false, w1, (wanted_of (t := 85) rfl rfl (hV.get 85 (by decide +kernel))), by simp [execOp, go_sem, h91], Below.refl _ _, rfl⟩
            refine OweAll.cons (owesK rfl rfl fun a w1 ha hG hV => ?_) ?_
            · skip
              have h85 : a.tmps.getD 85 undef = Value.bool false := hV.get 85 (by decide +kernel)
              have h92 : a.tmps.getD 92 undef = Value.bool false := hV.get 92 (by decide +kernel)
              exact ⟨Value.bool false, w1, wanted_free rfl, by simp [execOp, go_sem, h85, h92], Below.refl _ _, rfl⟩
            exact OweAll.nil
            ) ?_
          intro f wz hG hv
          have e93 : f 93 = Value.bool false := hv 29 _ 93 rfl rfl
          rename_i hK
          refine hK _ _ ?_
          clear hK hv
          simp only [dsts, puts, List.filterMap_cons, List.filterMap_nil, List.foldl_cons, List.foldl_nil, Act.put, List.setIfInBounds_toArray, List.set_cons_succ, List.set_cons_zero, e93]
          clear e93
          have HE := Lib.hid (HW.out.trans ((HB58.out.trans (hG.mono HB58.out.size)).mono HW.out.size))
          clear hG
          go_wp2_with fail
          go_roundw
          case rel => exact ⟨i + 1, by omega, by go_num, HE⟩
          case measure => simp [intOf]; omega
        · obtain rfl : i = n := by omega
          have ik : ¬ (i : Int) < i := by omega
          have HF := Lib.hid (HB3.out.trans (HW.out.mono HB3.out.size))
          go_wp2_with fail
          go_ret
          exact ⟨rfl, HF.out⟩
theorem dagAdds_any (sq : Option Addr) (sc : Nat) (L : List SD) (w : World) (hL : Rd encSD w sq L) (hA : ∀ s ∈ L, argS w s) (hl : L.length ≤ 9223372036854775807) (hT : TabAt w) :
    Calls Tryz.prog 3 #[.slice sq L.length sc] w fun r w' => r = .returned (.bool true) ∧ Below w.heap.size w w' := dagAdds_of dgis_any sq sc L w hL hA hl hT
end Go.Proofs.YtemnebbdaljfbaaGreatDoor
