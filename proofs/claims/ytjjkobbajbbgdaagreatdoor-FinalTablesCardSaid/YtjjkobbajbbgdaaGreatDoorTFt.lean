/- FinalTables. (PARTS) -/
import Derived.Test.YtjjkobbajbbgdaaGreatDoorZ6
namespace Go.Proofs.YtjjkobbajbbgdaaGreatDoor
open Go.RowKit

/-- A View of one key, which has the base behind it, and fits. -/
def sy1 (w2 : World) (B K : List UInt8) : Sy := ⟨K, 0, some ⟨w2.heap.size, 0, none⟩, 1, [B], true⟩
theorem view_at (w2 W3 : World) (B K : List UInt8) (h : W3 = ((w2.alloc (.cells #[.string ⟨B.toArray⟩] 9)).alloc (.cells #[.string ⟨K.toArray⟩, .int .i64 0, .slice (some ⟨w2.heap.size, 0, none⟩) 1 1, .bool true] 41)).alloc (.cells #[.slice (some ⟨w2.heap.size + 1, 0, none⟩) 1 1] 44)) :
    Rd encSy W3 (some ⟨w2.heap.size + 1, 0, none⟩) [sy1 w2 B K] ∧ Rd encS W3 (some ⟨w2.heap.size, 0, none⟩) [B] ∧ W3.heap[w2.heap.size + 2]? = some (.cells #[.slice (some ⟨w2.heap.size + 1, 0, none⟩) 1 1] 44 (0, 0)) ∧ Below w2.heap.size w2 W3 := by
  have hb1 : Below w2.heap.size w2 (w2.alloc (.cells #[.string ⟨B.toArray⟩] 9)) := (Below.refl _ _).alloc (Nat.le_refl _) _
  obtain ⟨u1, hu1⟩ : ∃ u1, u1 = w2.alloc (.cells #[.string ⟨B.toArray⟩] 9) := ⟨_, rfl⟩
  have s1 : u1.heap.size = w2.heap.size + 1 := by rw [hu1]; simp
  have r1 : Rd encS u1 (some ⟨w2.heap.size, 0, none⟩) [B] := by
    have := (Rw.made (E := encS) 9 w2 [B] (by simp [maxLen])).rd
    rw [hu1]; exact this
  rw [← hu1] at h hb1
  have hb2 : Below u1.heap.size u1 (u1.alloc (.cells #[.string ⟨K.toArray⟩, .int .i64 0, .slice (some ⟨w2.heap.size, 0, none⟩) 1 1, .bool true] 41)) := (Below.refl _ _).alloc (Nat.le_refl _) _
  obtain ⟨u2, hu2⟩ : ∃ u2, u2 = u1.alloc (.cells #[.string ⟨K.toArray⟩, .int .i64 0, .slice (some ⟨w2.heap.size, 0, none⟩) 1 1, .bool true] 41) := ⟨_, rfl⟩
  have s2 : u2.heap.size = w2.heap.size + 2 := by rw [hu2]; simp [s1]
  have r2 : Rd encSy u2 (some ⟨w2.heap.size + 1, 0, none⟩) [sy1 w2 B K] := by
    have := (Rw.made (E := encSy) 41 u1 [sy1 w2 B K] (by simp [maxLen])).rd
    rw [hu2, ← s1]; exact this
  rw [← hu2] at h hb2
  have hb3 : Below u2.heap.size u2 W3 := by rw [h]; exact (Below.refl _ _).alloc (Nat.le_refl _) _
  have r3 : W3.heap[w2.heap.size + 2]? = some (.cells #[.slice (some ⟨w2.heap.size + 1, 0, none⟩) 1 1] 44 (0, 0)) := by
    rw [h, ← s2]; exact heap_alloc_new u2 _
  exact ⟨r2.old hb3, (r1.old hb2).old hb3, r3, hb1.trans ((hb2.trans (hb3.mono hb2.size)).mono hb1.size)⟩
theorem cert_at (W3 W4 : World) (i pn j : Nat) (B K : List UInt8) (h : W4 = ((W3.alloc (.cells #[.int .i64 (j : Int)] 3)).alloc (.cells #[.int .i64 (i : Int), .int .i64 0, .int .i64 ((i : Int) + 1), .int .i64 (pn : Int)] 31)).alloc (.cells #[.int .i64 (i : Int), .string ⟨B.toArray⟩, .string ⟨K.toArray⟩, .slice (some ⟨W3.heap.size, 0, none⟩) 1 1, .slice (some ⟨W3.heap.size + 1, 0, none⟩) 2 2] 47)) :
    CtAt W4 (crt i pn j B K) (some ⟨W3.heap.size, 0, none⟩) (some ⟨W3.heap.size + 1, 0, none⟩) ∧ W4.heap[W3.heap.size + 1 + 1]? = some (.cells (ctc (crt i pn j B K) (some ⟨W3.heap.size, 0, none⟩) (some ⟨W3.heap.size + 1, 0, none⟩) 1 2) 47 (0, 0)) ∧ Below W3.heap.size W3 W4 := by
  obtain ⟨u1, hu1⟩ : ∃ u1, u1 = W3.alloc (.cells #[.int .i64 (j : Int)] 3) := ⟨_, rfl⟩
  have hb1 : Below W3.heap.size W3 u1 := by rw [hu1]; exact (Below.refl _ _).alloc (Nat.le_refl _) _
  have s1 : u1.heap.size = W3.heap.size + 1 := by rw [hu1]; simp
  have r1 : Rd encI u1 (some ⟨W3.heap.size, 0, none⟩) [(j : Int)] := by
    have := (Rw.made (E := encI) 3 W3 [(j : Int)] (by simp [maxLen])).rd
    rw [hu1]; exact this
  rw [← hu1] at h
  obtain ⟨u2, hu2⟩ : ∃ u2, u2 = u1.alloc (.cells #[.int .i64 (i : Int), .int .i64 0, .int .i64 ((i : Int) + 1), .int .i64 (pn : Int)] 31) := ⟨_, rfl⟩
  have hb2 : Below u1.heap.size u1 u2 := by rw [hu2]; exact (Below.refl _ _).alloc (Nat.le_refl _) _
  have s2 : u2.heap.size = W3.heap.size + 1 + 1 := by rw [hu2]; simp [s1]
  have r2 : Rd encP u2 (some ⟨W3.heap.size + 1, 0, none⟩) (chg2 i pn) := by
    have := (Rw.made (E := encP) 31 u1 (chg2 i pn) (by simp [maxLen, chg2])).rd
    rw [hu2, ← s1]; exact this
  rw [← hu2] at h
  have hb3 : Below u2.heap.size u2 W4 := by rw [h]; exact (Below.refl _ _).alloc (Nat.le_refl _) _
  have r3 : W4.heap[W3.heap.size + 1 + 1]? = some (.cells (ctc (crt i pn j B K) (some ⟨W3.heap.size, 0, none⟩) (some ⟨W3.heap.size + 1, 0, none⟩) 1 2) 47 (0, 0)) := by
    rw [h, ← s2]; exact heap_alloc_new u2 _
  exact ⟨⟨(r1.old hb2).old hb3, r2.old hb3⟩, r3, hb1.trans ((hb2.trans (hb3.mono hb2.size)).mono hb1.size)⟩
theorem crt_sign (w5 W6 : World) (g i pn j : Nat) (B K : List UInt8) (p q : Option Addr) (hrow : w5.heap[g]? = some (.cells (ctc (crt i pn j B K) p q 1 2) 47 (0, 0))) (hq : Rd encP w5 q (chg2 i pn)) (hqg : ∀ a, q = some a → a.block ≠ g) (h : W6 = (w5.alloc (.cells #[.int .i64 (i : Int)] 3)).setCell ⟨g, 3, none⟩ (.slice (some ⟨w5.heap.size, 0, none⟩) 1 1)) :
    CtAt W6 (crt i pn i B K) (some ⟨w5.heap.size, 0, none⟩) q ∧ W6.heap[g]? = some (.cells (ctc (crt i pn i B K) (some ⟨w5.heap.size, 0, none⟩) q 1 2) 47 (0, 0)) ∧ Mod (fun k => k = g) w5 W6 := by
  have hg := (Array.getElem?_eq_some_iff.1 hrow).1
  obtain ⟨u1, hu1⟩ : ∃ u1, u1 = w5.alloc (.cells #[.int .i64 (i : Int)] 3) := ⟨_, rfl⟩
  have hb1 : Below w5.heap.size w5 u1 := by rw [hu1]; exact (Below.refl _ _).alloc (Nat.le_refl _) _
  have r1 : Rw encI 3 u1 (some ⟨w5.heap.size, 0, none⟩) 1 [(i : Int)] := by
    have := Rw.made (E := encI) 3 w5 [(i : Int)] (by simp [maxLen])
    rw [hu1]; exact this
  rw [← hu1] at h
  have hrow1 := (hb1.block g hg).trans hrow
  have hm : Mod (fun k => k = g) u1 W6 := by rw [h]; exact (Mod.refl (fun k => k = g) u1).setCell (fun _ => rfl) _
  have hm0 : Mod (fun k => k = g) w5 W6 := ((Mod.of_below hb1).mono (T := fun k => k = g) (fun k hk h => by omega)).trans hm (fun _ _ h => h)
  refine ⟨⟨(r1.kept hm (fun a e => by cases e; simp only; omega)).rd, ?_⟩, ?_, hm0⟩
  · exact hq.mod hm0 hqg
  · rw [h, heap_setCell_same u1 g 3 _ 47 _ hrow1]; rfl
/-- What stands at the head of the i-th round. -/
structure FS (w wr : World) (b0 wp mb i m : Nat) (B : List UInt8) (D : List Cc) (qd : Option Addr) (cap : Nat) : Prop where
  fc : FC wr b0 (oneT i m) D qd cap wp mb
  len : D.length = i
  fin : finB D = B
  bl : B.length = 32
  m1 : 1 ≤ m
  m2 : m ≤ 1099511627776
  b : Below w.heap.size w wr
  q : ∀ a, qd = some a → w.heap.size ≤ a.block
set_option maxRecDepth 20000 in
set_option maxHeartbeats 16000000 in
theorem finalTables_any (ao : Option Addr) (cap : Nat) (L : List Int) (w : World) (hL : Rd encI w ao L) (hr : ∀ x ∈ L, I64 x) (hT : TabAt w) :
    Calls Tryz.prog 3 #[.slice ao L.length cap] w fun r w' => r = .returned (.bool true) ∧ Below w.heap.size w w' := by
  have HT := Lib.hid hT
  have HL := Lib.hid hL
  have HRG := Lib.hid hr
  obtain ⟨n, hnl⟩ : ∃ n, n = L.length := ⟨_, rfl⟩
  have HNL := Lib.hid hnl
  rw [← hnl]
  have KA := Lib.hid (fun u (h : TabAt u) => awake17_any u h)
  have hTT := T1f_tab 5 (by decide) (by decide)
  have HTT := Lib.hid hTT
  have KN := Lib.hid (fun u => tnew1_any 5 (by decide) (by decide) u)
  have KF := Lib.hid (fun u => fnew_any (T1f 5) hTT u)
  obtain ⟨T1, hT1⟩ : ∃ T1, T1 = T1f 5 := ⟨_, rfl⟩
  have HT1 := Lib.hid hT1
  rw [← hT1] at KN KF HTT
  obtain ⟨Z, hZ⟩ : ∃ Z, Z = (nums .i64 (List.replicate 64 0)).toArray := ⟨_, rfl⟩
  have hz : ∀ w : World, (zeroValue 26).run Tryz.prog w = .ok (.agg Z) w := by rw [hZ]; exact fun _ => by kernel_rfl
  have hZs : Z.size = 64 := by rw [hZ]; simp [nums_len]
  obtain ⟨A, hA⟩ : ∃ A, A = (nums .i64 T1).toArray := ⟨_, rfl⟩
  have hAs : A.size = 64 := HTT.out.row hA
  have HA : tval T1 = .agg A := by rw [hA]; rfl
  have h1 := (tab_one hA).out
  have hzA : Z.size = A.size := by rw [hZs, hAs]
  have hi : (Tryz.prog.info? 26).map (·.size) = some A.size := by rw [hAs]; kernel_rfl
  rw [HA] at KN KF
  have HII := Lib.hid hi
  have KR := Lib.hid root_any
  have KK := Lib.hid rootkey_any
  obtain ⟨RB, hRB⟩ : ∃ RB, RB = rootB := ⟨_, rfl⟩
  have HRL : Hid (RB.length = 32) := Lib.hid (by rw [hRB]; exact rootB_len)
  have KE : Hid (finB [] = RB) := Lib.hid (by rw [hRB]; rfl)
  rw [← hRB] at KR KK
  clear hT hTT hT1 hZ hA hRB HA hZs hAs hL hr hnl
  go_enter Tryz.func3, Tryz.ntmps3
  go_wp2_with fail
  refine (KA.out w HT.out).mono ?_
  rintro r w1 ⟨rfl, hb1⟩
  have HB1 := Lib.hid hb1
  obtain ⟨W2, hW2⟩ : ∃ W2, W2 = w1.alloc (.cells #[.int .i64 0, .int .i64 5] 31) := ⟨_, rfl⟩
  have KN1 := KN.out w1
  rw [show ((5 : Nat) : Int) = 5 from rfl, ← hW2] at KN1
  have HKN := Lib.hid KN1
  have HW2 := Lib.hid hW2
  clear KN1 hW2 KN KA hb1
  go_wp2_with fail
  rw [← HW2.out]
  refine HKN.out.mono ?_
  rintro r w3 ⟨rfl, hb3⟩
  have HB3 := Lib.hid (HB1.out.trans (hb3.mono HB1.out.size))
  have hg3 := heap_alloc_new w3 (.cells Z 26)
  obtain ⟨W4, hW4⟩ : ∃ W4, W4 = (w3.alloc (.cells Z 26)).setRow w3.heap.size A := ⟨_, rfl⟩
  have HB4 : Hid (Below w.heap.size w W4) := Lib.hid (by rw [hW4]; exact HB3.out.trans (stored_below.mono HB3.out.size))
  have hr4 : W4.heap[w3.heap.size]? = some (.cells A 26 (0, 0)) := by rw [hW4]; exact setRow_heap _ _ _ _ _ _ hg3
  have HW4 := Lib.hid hW4
  clear hb3 hW4 HKN HB3
  go_wp2_with (first
    | (refine wpList_store_row rfl rfl 26 (.tmp 3) (.tmp 22) rfl w3.heap.size rfl 26 Z A rfl hg3 hzA hi h1 ?_; rw [← HW4.out])
    | (refine wpList_exec rfl (exec_load_row 26 (.tmp 3) rfl w3.heap.size rfl 26 A (0, 0) _ hr4 Tryz.underlying26 rfl HII.out) ?_))
  refine (KF.out W4).mono ?_
  rintro r w5 ⟨b0, wp, mb, rfl, hf, hb0, hb5⟩
  have HF5 := Lib.hid hf
  have HB0 : Hid (w.heap.size ≤ b0) := Lib.hid (Nat.le_trans HB4.out.size hb0)
  have HB5 := Lib.hid (HB4.out.trans (hb5.mono HB4.out.size))
  clear hf hb5 hb0 hr4 hg3 KF HB4
  go_wp2_with fail
  refine (KR.out w5 (HT.out.old HB5.out)).mono ?_
  rintro r w7 ⟨rfl, hb7⟩
  have HB7 := Lib.hid (HB5.out.trans (hb7.mono HB5.out.size))
  have HF7 := Lib.hid (HF5.out.old hb7)
  have HK7 := Lib.hid (KK.out w7)
  obtain ⟨W8, hW8⟩ : ∃ W8, W8 = w7.alloc (.cells (vals RB).toArray 36) := ⟨_, rfl⟩
  rw [← hW8] at HK7
  have HW8 := Lib.hid hW8
  clear hb7 HF5 hW8 KR KK HB5
  go_wp2_with (refine wpList_exec rfl (build_name (.tmp 28) rfl RB HRL.out rfl) ?_; rw [← HW8.out])
  refine HK7.out.mono ?_
  rintro r w9 ⟨rfl, hb9⟩
  have HB9 := Lib.hid (HB7.out.trans (hb9.mono HB7.out.size))
  have HF9 : Hid (FC w9 b0 (oneT 0 5) [] none 0 wp mb) := Lib.hid (by have := HF7.out.old hb9; rw [HT1.out, oneT_zero] at this; exact this)
  clear hb9 HF7 HK7 HB7 HT1 HTT h1 hi hzA hz HII
  go_wp2_with fail
  go_loopw [6, 7] (fun s6 s7 wr => ∃ (i m : Nat) (B : List UInt8) (D : List Cc) (qd : Option Addr) (cd : Nat), i ≤ 12 ∧ i ≤ n ∧ s7 = .int .i64 (i : Int) ∧ s6 = .string ⟨B.toArray⟩ ∧ Hid (FS w wr b0 wp mb i m B D qd cd)) (fun _ s7 _ => 13 - (intOf s7).toNat)
  case atStart => exact ⟨0, 5, RB, [], none, 0, by omega, by omega, by go_num, rfl, Lib.hid ⟨HF9.out, rfl, KE.out, HRL.out, by omega, by omega, HB9.out, fun a e => by cases e⟩⟩
  case round =>
    clear HF9 HB9 HRL KE
    obtain ⟨i, m, B, D, qd, cd, hi12, hin, rfl, rfl, HS⟩ := hrel
    have i0 : (0 : Int) ≤ i := by omega
    by_cases hlt : i < n
    · have hlt' : (i : Int) < n := by omega
      by_cases hl12 : i < 12
      · have hl12' : (i : Int) < 12 := by omega
        obtain ⟨xb, hxb⟩ : ∃ xb : UInt8, (xb.toNat : Int) = i := ⟨UInt8.ofNat i, by rw [UInt8.toNat_ofNat_of_lt' (show i < 256 by omega)]⟩
        have hwu : IntKind.u8.wrap (i : Int) = i := by rw [IntKind.wrap_u8]; omega
        have KNM : Hid (∀ u, Calls Tryz.prog 9 #[.int .u8 (i : Int)] u fun r w' => r = .returned (.string ⟨(nameL xb).toArray⟩) ∧ Below u.heap.size u w') := Lib.hid (fun u => by rw [← hxb]; exact lawname_any xb u)
        have HKL : Hid ((nameL xb).length = 32) := Lib.hid (nameL_len xb)
        obtain ⟨K, hK⟩ : ∃ K, K = nameL xb := ⟨_, rfl⟩
        rw [← hK] at KNM HKL
        obtain ⟨bs, off, rfl, hbs, cx⟩ := (HL.out.old HS.out.b).int i (by have := HNL.out; omega)
        obtain ⟨x, hx⟩ : ∃ x, x = L[i]'(by have := HNL.out; omega) := ⟨_, rfl⟩
        rw [← hx] at cx
        have HCX := Lib.hid cx
        have HBS := Lib.hid hbs
        clear hxb hK hx cx hbs
        go_wp2_with fail
        refine (KNM.out _).mono ?_
        rintro r w2 ⟨rfl, hb2⟩
        have HB2 := Lib.hid hb2
        have hcx2 := (World.cell?_of_block (hb2.block bs HBS.out)).trans HCX.out
        have hbs2 : bs < w2.heap.size := Nat.lt_of_lt_of_le HBS.out hb2.size
        have hw1 : IntKind.i64.wrap ((i : Int) + 1) = (i : Int) + 1 := by rw [IntKind.wrap_i64]; omega
        obtain ⟨pn, hpn, hp1, hp2⟩ : ∃ pn : Nat, max 1 (min x 1099511627776) = (pn : Int) ∧ 1 ≤ pn ∧ pn ≤ 1099511627776 := ⟨(max 1 (min x 1099511627776)).toNat, by omega, by omega, by omega⟩
        have hb2 := HB2.out
        obtain ⟨W3, hW3⟩ : ∃ W3, W3 = ((w2.alloc (.cells #[.string ⟨B.toArray⟩] 9)).alloc (.cells #[.string ⟨K.toArray⟩, .int .i64 0, .slice (some ⟨w2.heap.size, 0, none⟩) 1 1, .bool true] 41)).alloc (.cells #[.slice (some ⟨w2.heap.size + 1, 0, none⟩) 1 1] 44) := ⟨_, rfl⟩
        have HV := Lib.hid (view_at w2 W3 B K hW3)
        have HW3 := Lib.hid hW3
        obtain ⟨a2, ha2⟩ : ∃ a2, a2 = w2.heap.size := ⟨_, rfl⟩
        have HA2 := Lib.hid ha2
        have hcx3 := (World.cell?_of_block ((HV.out.2.2.2).block bs hbs2)).trans hcx2
        clear hb2 KNM hcx2 hW3 ha2 hbs2
        go_upto_region 13 with fail
        rw [← HW3.out, ← HA2.out]
        go_upto_region 14 with fail
        have hS := HS.out
        have HFC3 : Hid (FC W3 b0 (oneT i m) D qd cd wp mb) := Lib.hid ((hS.fc.old HB2.out).old HV.out.2.2.2)
        have HBB3 : Hid (Below w.heap.size w W3) := Lib.hid ((hS.b.trans (HB2.out.mono hS.b.size)).trans (HV.out.2.2.2.mono (Nat.le_trans hS.b.size HB2.out.size)))
        have HV1 : Hid (Rd encSy W3 (some ⟨a2 + 1, 0, none⟩) [⟨K, 0, some ⟨a2, 0, none⟩, 1, [B], true⟩]) := Lib.hid (by rw [HA2.out]; exact HV.out.1)
        have HV2 : Hid (Rd encS W3 (some ⟨a2, 0, none⟩) [B]) := Lib.hid (by rw [HA2.out]; exact HV.out.2.1)
        have HV3 : Hid (W3.heap[a2 + 1 + 1]? = some (.cells #[.slice (some ⟨a2 + 1, 0, none⟩) 1 1] 44 (0, 0))) := Lib.hid (by rw [HA2.out]; exact HV.out.2.2.1)
        obtain ⟨W4, hW4⟩ : ∃ W4, W4 = ((W3.alloc (.cells #[.int .i64 ((i + 1 : Nat) : Int)] 3)).alloc (.cells #[.int .i64 (i : Int), .int .i64 0, .int .i64 ((i : Int) + 1), .int .i64 (pn : Int)] 31)).alloc (.cells #[.int .i64 (i : Int), .string ⟨B.toArray⟩, .string ⟨K.toArray⟩, .slice (some ⟨W3.heap.size, 0, none⟩) 1 1, .slice (some ⟨W3.heap.size + 1, 0, none⟩) 2 2] 47) := ⟨_, rfl⟩
        have hC4 := cert_at W3 W4 i pn (i + 1) B K hW4
        rw [show ((i + 1 : Nat) : Int) = (i : Int) + 1 by omega] at hW4
        obtain ⟨a3, ha3⟩ : ∃ a3, a3 = W3.heap.size := ⟨_, rfl⟩
        rw [← ha3] at hC4
        have HA3 := Lib.hid ha3
        have HW4 := Lib.hid hW4
        have hbl := HS.out.bl
        have hkl := HKL.out
        have HOK1 : Hid (CtOk (crt i pn (i + 1) B K)) := Lib.hid (crt_ok i pn (i + 1) B K (by omega) (by omega) hp2 hbl hkl)
        have HOK2 : Hid (CtOk (crt i pn i B K)) := Lib.hid (crt_ok i pn i B K (by omega) (by omega) hp2 hbl hkl)
        have HFC4 : Hid (FC W4 b0 (oneT i m) D qd cd wp mb) := Lib.hid (HFC3.out.old (by have := hC4.2.2; rw [ha3] at this; exact this))
        have HB34 : Hid (Below W3.heap.size W3 W4) := Lib.hid (by have := hC4.2.2; rw [ha3] at this; exact this)
        have HBB4 : Hid (Below w.heap.size w W4) := Lib.hid (HBB3.out.trans (HB34.out.mono HBB3.out.size))
        have hO1 := offer_no HFC4.out (HT.out.old HBB4.out) (by rw [hS.len]; omega) (crt i pn (i + 1) B K) (some ⟨a3, 0, none⟩) (some ⟨a3 + 1, 0, none⟩) 1 2 hC4.1 (.inr ⟨_, _, rfl⟩) (.inr ⟨_, _, rfl⟩) HOK1.out (by rw [hS.len]; rfl) hS.fin.symm (by show 1 ≤ 1000000; decide) (by show 2 ≤ 1000000; decide) (by show B.length ≤ 1000000; omega) (by show K.length ≤ 1000000; omega)
          (.iface 44 (.agg #[.slice (some ⟨a2 + 1, 0, none⟩) 1 1])) (by rw [show (crt i pn (i + 1) B K).sg = [((i + 1 : Nat) : Int)] from rfl, sig_other i m (i + 1) (by omega) (by omega) (by omega), tsum_zero]; omega)
        obtain ⟨X4, hX4⟩ : ∃ X, X = ctc (crt i pn (i + 1) B K) (some ⟨a3, 0, none⟩) (some ⟨a3 + 1, 0, none⟩) 1 2 := ⟨_, rfl⟩
        have hX4i : (Tryz.prog.info? 47).map (·.size) = some X4.size := by rw [hX4]; unfold ctc; kernel_rfl
        rw [← hX4] at hO1
        have HO1 := Lib.hid hO1
        have hrow4 : W4.heap[a3 + 1 + 1]? = some (.cells X4 47 (0, 0)) := by rw [hX4]; exact hC4.2.1
        have HROW4 := Lib.hid hrow4
        have hv4 := (HB34.out.block _ (Array.getElem?_eq_some_iff.1 HV3.out).1).trans HV3.out
        have HV4 := Lib.hid hv4
        have HX4 := Lib.hid hX4
        have HX4I := Lib.hid hX4i
        have HCP := Lib.hid hC4.1.2
        have hvi : (Tryz.prog.info? 44).map (·.size) = some 1 := by kernel_rfl
        have HVI := Lib.hid hvi
        clear hC4 hO1 hW4 ha3 hX4 hX4i hrow4 hv4 hbl hkl hcx3 hvi hS
        go_upto_region 15 with fail
        rw [← HW4.out, ← HA3.out]
        go_wp2_with (first
          | (refine wpList_exec rfl (exec_load_row 47 (.tmp 11) rfl (a3 + 1 + 1) rfl 47 X4 (0, 0) _ HROW4.out Tryz.underlying47 rfl HX4I.out) ?_)
          | (refine wpList_exec rfl (exec_load_row 44 (.tmp 9) rfl (a2 + 1 + 1) rfl 44 #[.slice (some ⟨a2 + 1, 0, none⟩) 1 1] (0, 0) _ HV4.out Tryz.underlying44 rfl HVI.out) ?_))
        refine HO1.out.mono ?_
        rintro r w5 ⟨rfl, hb5⟩
        have HB45 := Lib.hid hb5
        have hrow5 : w5.heap[a3 + 1 + 1]? = some (.cells (ctc (crt i pn (i + 1) B K) (some ⟨a3, 0, none⟩) (some ⟨a3 + 1, 0, none⟩) 1 2) 47 (0, 0)) := by rw [← HX4.out]; exact (hb5.block _ (Array.getElem?_eq_some_iff.1 HROW4.out).1).trans HROW4.out
        have hu5 : Below w5.heap.size w5 (w5.alloc (.cells #[.int .i64 (i : Int)] 3)) := (Below.refl _ _).alloc (Nat.le_refl _) _
        have hrow5u := (hu5.block _ (Array.getElem?_eq_some_iff.1 hrow5).1).trans hrow5
        have hc53 := cell_of_row _ (a3 + 1 + 1) 3 _ 47 (0, 0) hrow5u
        have hf53 := frozen_of_row _ (a3 + 1 + 1) 3 _ 47 hrow5u
        obtain ⟨W6, hW6⟩ : ∃ W6, W6 = (w5.alloc (.cells #[.int .i64 (i : Int)] 3)).setCell ⟨a3 + 1 + 1, 3, none⟩ (.slice (some ⟨w5.heap.size, 0, none⟩) 1 1) := ⟨_, rfl⟩
        have hS6 := crt_sign w5 W6 (a3 + 1 + 1) i pn (i + 1) B K (some ⟨a3, 0, none⟩) (some ⟨a3 + 1, 0, none⟩) hrow5 (HCP.out.old hb5) (fun a e => by cases e; simp only; omega) hW6
        have HS6 := Lib.hid hS6
        have HW6 := Lib.hid hW6
        have HC53 : Hid ((w5.alloc (.cells #[.int .i64 (i : Int)] 3)).cell? ⟨a3 + 1 + 1, 3, none⟩ = some (.slice (some ⟨a3, 0, none⟩) 1 1)) := Lib.hid hc53
        have hc53' := HC53.out
        clear hb5 HO1 hrow5 hu5 hrow5u hc53 hW6 hS6
        go_upto_region 19 with fail
        rw [← HW6.out]
        have hS := HS.out
        have hw3w : w.heap.size ≤ W3.heap.size := HBB3.out.size
        have ha3 := HA3.out
        have HBB5 : Hid (Below w.heap.size w w5) := Lib.hid (HBB4.out.trans (HB45.out.mono HBB4.out.size))
        have HBB6 : Hid (Below w.heap.size w W6) := Lib.hid (HBB5.out.trans (HS6.out.2.2.to_below HBB5.out.size (by rintro k hk rfl; omega)))
        have HB46 : Hid (Mod (fun k => k = a3 + 1 + 1) W4 W6) := Lib.hid (((Mod.of_below HB45.out).mono (T := fun k => k = a3 + 1 + 1) (fun k hk h => by omega)).trans HS6.out.2.2 (fun _ _ h => h))
        have HB36 : Hid (Below W3.heap.size W3 W6) := Lib.hid (by
          have h1 := HB34.out.trans (HB45.out.mono HB34.out.size)
          exact h1.trans (HS6.out.2.2.to_below h1.size (by rintro k hk rfl; omega)))
        have HFC6 : Hid (FC W6 b0 (oneT i m) D qd cd wp mb) := Lib.hid (HFC3.out.old HB36.out)
        have hv6 := (HB36.out.block _ (Array.getElem?_eq_some_iff.1 HV3.out).1).trans HV3.out
        have HV6 := Lib.hid hv6
        have hrd6 := HV1.out.old HB36.out
        have hrs6 := HV2.out.old HB36.out
        have hbl := hS.bl
        have hkl := HKL.out
        have hlk : lookY K [(⟨K, 0, some ⟨a2, 0, none⟩, 1, [B], true⟩ : Sy)] = ⟨K, 0, some ⟨a2, 0, none⟩, 1, [B], true⟩ := by simp [lookY]
        have hO2 := offer_yes HFC6.out (HT.out.old HBB6.out) (by rw [hS.len]; omega) (crt i pn i B K) (some ⟨w5.heap.size, 0, none⟩) (some ⟨a3 + 1, 0, none⟩) 1 2 HS6.out.1 (.inr ⟨_, _, rfl⟩) (.inr ⟨_, _, rfl⟩) HOK2.out (by rw [hS.len]; rfl) hS.fin.symm (by show 1 ≤ 1000000; decide) (by show 2 ≤ 1000000; decide) (by show B.length ≤ 1000000; omega) (by show K.length ≤ 1000000; omega)
          (.iface 44 (.agg #[.slice (some ⟨a2 + 1, 0, none⟩) 1 1])) (by rw [show (crt i pn i B K).sg = [(i : Int)] from rfl, sig_self i m (by omega) (by have := hS.m1; omega), tsum_one i m (by omega)]; have := hS.m1; omega) (chg2_e i m pn (by omega) (by omega) hp2)
          (fun u p' q' cp' cq' hu => seen_ok (crt i pn i B K) p' q' cp' cq' (some ⟨a2 + 1, 0, none⟩) 1 [⟨K, 0, some ⟨a2, 0, none⟩, 1, [B], true⟩] u (hrd6.old hu) (by simp) (by show Rd encS u (lookY K _).bp (lookY K _).bh; rw [hlk]; exact hrs6.old hu) (by show (lookY K _).bh.length ≤ _; rw [hlk]; simp) (by show (lookY K _).kn = 0; rw [hlk]) (by show hasT B (lookY K _).bh = true; rw [hlk]; simp [hasT]) (by show (lookY K _).ft = true; rw [hlk]))
        rw [show chgT (oneT i m) (crt i pn i B K).ch = oneT (i + 1) pn from chg2_t i m pn (by omega) (by omega) hp2] at hO2
        obtain ⟨X6, hX6⟩ : ∃ X, X = ctc (crt i pn i B K) (some ⟨w5.heap.size, 0, none⟩) (some ⟨a3 + 1, 0, none⟩) 1 2 := ⟨_, rfl⟩
        have hX6i : (Tryz.prog.info? 47).map (·.size) = some X6.size := by rw [hX6]; unfold ctc; kernel_rfl
        have hrow6 : W6.heap[a3 + 1 + 1]? = some (.cells X6 47 (0, 0)) := by rw [hX6]; exact HS6.out.2.1
        rw [← hX6] at hO2
        have HO2 := Lib.hid hO2
        have HROW6 := Lib.hid hrow6
        have HX6I := Lib.hid hX6i
        clear hO2 hX6 hX6i hrow6 hv6 hrd6 hrs6 hbl hkl hlk hc53' hf53 hw3w ha3 hS
        go_wp2_with (first
          | (refine wpList_exec rfl (exec_load_row 47 (.tmp 11) rfl (a3 + 1 + 1) rfl 47 X6 (0, 0) _ HROW6.out Tryz.underlying47 rfl HX6I.out) ?_)
          | (refine wpList_exec rfl (exec_load_row 44 (.tmp 9) rfl (a2 + 1 + 1) rfl 44 #[.slice (some ⟨a2 + 1, 0, none⟩) 1 1] (0, 0) _ HV6.out Tryz.underlying44 rfl HVI.out) ?_))
        refine HO2.out.mono ?_
        rintro r w7' ⟨rfl, p', q', cp', cq', qd', cd', hf7, hm7, ho7⟩
        have hqq : ∀ a, qd' = some a → w.heap.size ≤ a.block := fun a e => by
          rcases ho7 a e with h | h
          · exact HS.out.q a h
          · exact Nat.le_trans HBB6.out.size h
        have HF7 := Lib.hid hf7
        have HQQ := Lib.hid hqq
        have HBB7 : Hid (Below w.heap.size w w7') := Lib.hid (HBB6.out.trans (hm7.to_below HBB6.out.size (by
          rintro k hk (rfl | ⟨a, e, rfl⟩)
          · have := HB0.out; omega
          · have := HS.out.q a e; omega)))
        have hlen : (D ++ [(⟨crt i pn i B K, p', q', cp', cq'⟩ : Cc)]).length = i + 1 := by rw [List.length_append, List.length_singleton, HS.out.len]
        have HLEN := Lib.hid hlen
        have hfin : finB (D ++ [(⟨crt i pn i B K, p', q', cp', cq'⟩ : Cc)]) = K := finB_snoc _ _
        have HFIN := Lib.hid hfin
        obtain ⟨D', hD'⟩ : ∃ D', D' = D ++ [(⟨crt i pn i B K, p', q', cp', cq'⟩ : Cc)] := ⟨_, rfl⟩
        rw [← hD'] at HF7 HLEN HFIN
        have HTB := Lib.hid (fun (u : World) (h : FC u b0 (oneT (i + 1) pn) D' qd' cd' wp mb) => ftable_any h)
        have hz0 := power_any (oneT (i + 1) pn) (i : Int)
        have hz1 := power_any (oneT (i + 1) pn) ((i : Int) + 1)
        have htt := oneT_tab (i + 1) pn hp2
        have HPW0 : Hid (∀ u, Calls Tryz.prog 12 #[tval (oneT (i + 1) pn), .int .i64 (i : Int)] u fun r w' => r = .returned (.int .i64 0) ∧ Below u.heap.size u w') := Lib.hid (fun u => by
          have := hz0 u htt
          rw [if_pos (by omega), Int.toNat_natCast, oneT_get (i + 1) pn i (by omega), if_neg (by omega)] at this; exact this)
        have HPW1 : Hid (∀ u, Calls Tryz.prog 12 #[tval (oneT (i + 1) pn), .int .i64 ((i : Int) + 1)] u fun r w' => r = .returned (.int .i64 (pn : Int)) ∧ Below u.heap.size u w') := Lib.hid (fun u => by
          have := hz1 u htt
          rw [if_pos (by omega), show ((i : Int) + 1).toNat = i + 1 by omega, oneT_get (i + 1) pn (i + 1) (by omega), if_pos rfl] at this; exact this)
        obtain ⟨TV, hTV⟩ : ∃ TV, TV = tval (oneT (i + 1) pn) := ⟨_, rfl⟩
        rw [← hTV] at HTB HPW0 HPW1
        clear hf7 hm7 ho7 hqq hlen hfin hD' hz0 hz1 htt hTV HO2 HROW6 HX6I HV6 HFC6
        go_wp2_with fail
        refine (HTB.out w7' HF7.out).mono ?_
        rintro r w8 ⟨rfl, hb8⟩
        have HF8 := Lib.hid (HF7.out.old hb8)
        have HBB8 := Lib.hid (HBB7.out.trans (hb8.mono HBB7.out.size))
        clear hb8 HF7 HBB7
        go_wp2_with fail
        refine (HPW0.out w8).mono ?_
        rintro r w9' ⟨rfl, hb9⟩
        have HF9 := Lib.hid (HF8.out.old hb9)
        have HBB9 := Lib.hid (HBB8.out.trans (hb9.mono HBB8.out.size))
        clear hb9 HF8 HBB8
        go_wp2_with fail
        refine (HTB.out w9' HF9.out).mono ?_
        rintro r w10 ⟨rfl, hb10⟩
        have HF10 := Lib.hid (HF9.out.old hb10)
        have HBB10 := Lib.hid (HBB9.out.trans (hb10.mono HBB9.out.size))
        clear hb10 HF9 HBB9
        go_wp2_with fail
        refine (HPW1.out w10).mono ?_
        rintro r w11 ⟨rfl, hb11⟩
        have HF11 := Lib.hid (HF10.out.old hb11)
        have HBB11 := Lib.hid (HBB10.out.trans (hb11.mono HBB10.out.size))
        have HFI := Lib.hid (final_any HF11.out (HT.out.old HBB11.out) (by rw [HLEN.out]; omega))
        rw [HFIN.out] at HFI
        clear hb11 HF10 HBB10
        go_wp2_with fail
        refine HFI.out.mono ?_
        rintro r w12 ⟨rfl, hb12⟩
        have HF12 := Lib.hid (HF11.out.old hb12)
        have HBB12 := Lib.hid (HBB11.out.trans (hb12.mono HBB11.out.size))
        clear hb12 HF11 HBB11 HFI
        go_wp2_with fail
        go_roundw
        case rel => exact ⟨i + 1, pn, K, D', qd', cd', by omega, by omega, by go_num, rfl, Lib.hid ⟨HF12.out, HLEN.out, HFIN.out, HKL.out, hp1, hp2, HBB12.out, HQQ.out⟩⟩
        case measure => simp [intOf]; omega
      · have h12 : i = 12 := by omega
        subst h12
        have hNX := Lib.hid (fnext_any HS.out.fc)
        rw [HS.out.len] at hNX
        have hl12' : ¬ ((12 : Nat) : Int) < 12 := by omega
        have hmn : min (n : Int) 12 = 12 := by omega
        go_wp2_with fail
        refine hNX.out.mono ?_
        rintro r w2 ⟨rfl, rfl⟩
        go_wp2_with fail
        go_ret
        exact ⟨rfl, HS.out.b⟩
    · have hN : i = n := by omega
      subst hN
      have hNX := Lib.hid (fnext_any HS.out.fc)
      rw [HS.out.len] at hNX
      have i1 : ¬ (i : Int) < i := by omega
      have hmn : min (i : Int) 12 = i := by omega
      go_wp2_with fail
      refine hNX.out.mono ?_
      rintro r w2 ⟨rfl, rfl⟩
      go_wp2_with fail
      go_ret
      exact ⟨rfl, HS.out.b⟩
end Go.Proofs.YtjjkobbajbbgdaaGreatDoor
