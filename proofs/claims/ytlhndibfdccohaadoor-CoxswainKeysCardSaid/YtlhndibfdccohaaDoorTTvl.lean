/- CoxswainKeys' walk. (PARTS; tools/mk-tvl.py) -/
import Derived.Test.YtlhndibfdccohaaDoorTTvk
namespace Go.Proofs.YtlhndibfdccohaaDoor
open Go.RowKit Go.Sort

/-- A slice whose first block is z. -/
def bkSt (z : BI) : Stays := ⟨fun v w => ∃ (bs off n c : Nat) (b : Blk), v = .slice (some ⟨bs, off, none⟩) n c ∧ (0 : Int) < (n : Int) ∧ bs < w.heap.size ∧ (∀ i u, b.cells[i]? = some u → w.cell? ⟨bs, off + i, none⟩ = some u) ∧ okK w b ∧ b.is = z,
  fun ⟨bs, off, n, c, b, h1, h2, h3, h4, h5, h6⟩ hb => ⟨bs, off, n, c, b, h1, h2, Nat.lt_of_lt_of_le h3 hb.size, fun i u hu => (hb.cell (p := ⟨bs, off + i, none⟩) h3).trans (h4 i u hu), h5.old hb, h6⟩⟩
/-- A place in a block z. -/
def ptSt (z : BI) (d : Nat) : Stays := ⟨fun v w => ∃ (bs off : Nat) (b : Blk), v = .pointer (some ⟨bs, off + d, none⟩) ∧ bs < w.heap.size ∧ (∀ i u, b.cells[i]? = some u → w.cell? ⟨bs, off + i, none⟩ = some u) ∧ okK w b ∧ b.is = z,
  fun ⟨bs, off, b, h1, h3, h4, h5, h6⟩ hb => ⟨bs, off, b, h1, Nat.lt_of_lt_of_le h3 hb.size, fun i u hu => (hb.cell (p := ⟨bs, off + i, none⟩) h3).trans (h4 i u hu), h5.old hb, h6⟩⟩
/-- The header of z. -/
def hdSt (z : BI) : Stays := ⟨fun v w => ∃ b : Blk, v = .agg (hcells b.h b.q b.c) ∧ okK w b ∧ b.is = z, fun ⟨b, h1, h5, h6⟩ hb => ⟨b, h1, h5.old hb, h6⟩⟩
theorem hd_of_blk {w : World} {bs off : Nat} {b : Blk} (h : ∀ i u, b.cells[i]? = some u → w.cell? ⟨bs, off + i, none⟩ = some u) {i : Nat} {u : Value} (hu : (hcells b.h b.q b.c).toList[i]? = some u) : w.cell? ⟨bs, off + 32 + i, none⟩ = some u := by
  have h1 : b.cells[32 + i]? = some u := by
    unfold Blk.cells
    rw [List.getElem?_append_right (by rw [vals_len, b.id.2]; omega), vals_len, b.id.2, Nat.add_sub_cancel_left]
    exact hu
  have := h _ _ h1
  rwa [← Nat.add_assoc] at this
theorem TsW.row {W w : World} {q : Option Addr} {c : Nat} {K : List Blk} (h : TsW W w q c K) (i : Nat) (hi : i < K.length) : ∃ bs, q = some ⟨bs, 0, none⟩ ∧ bs < w.heap.size ∧ ∀ j u, (K[i]).cells[j]? = some u → w.cell? ⟨bs, i * 39 + j, none⟩ = some u := by
  obtain ⟨bs, off, e, hb, hc⟩ := h.rw.rd i hi
  rcases h.rw.shape with ⟨e1, _⟩ | ⟨g, e1, _⟩
  · rw [e1] at e; cases e
  · rw [e1] at e; cases e
    exact ⟨_, e1, hb, fun j u hu => by have := hc j u hu; rwa [Nat.zero_add] at this⟩
theorem bk_of {W w : World} {q : Option Addr} {c k : Nat} {K : List Blk} {Z Z' : List BI} {z0 : BI} (hK : K.map Blk.is = Z) (hT : TsW W w q c K) (hz : Z = z0 :: Z') (hl : Z.length = k) : (bkSt z0).p (.slice q k c) w := by
  cases K with
  | nil => rw [hz] at hK; cases hK
  | cons b l =>
    obtain ⟨bs, rfl, hbs, hc⟩ := hT.row 0 (by simp)
    refine ⟨bs, 0, k, c, b, rfl, by rw [← hl, hz]; simp only [List.length_cons]; omega, hbs, fun i u hu => ?_, (hT.ok b (List.mem_cons_self ..)).ok, ?_⟩
    · have := hc i u hu
      rwa [Nat.zero_mul] at this
    · rw [hz, List.map_cons] at hK
      exact (List.cons.inj hK).1
set_option maxRecDepth 20000 in
set_option maxHeartbeats 8000000 in
theorem coxswainKeys_any (ao : Option Addr) (cap : Nat) (L : List RH) (w : World) (hL : Rd encR w ao L) (hA : ∀ s ∈ L, argR w s) (_ : L.length ≤ 9223372036854775807) (hT : TabAt w) :
    Calls Tryd.prog 5 #[.slice ao L.length cap] w fun r w' => r = .returned (.bool true) ∧ Below w.heap.size w w' := by
  have HBE := Lib.hid (beside_any ao cap L w hL hA)
  have HT := Lib.hid hT
  obtain ⟨n0, hn0⟩ : ∃ n, n = L.length := ⟨_, rfl⟩
  rw [← hn0] at HBE ⊢
  clear hL hA hT hn0
  go_enter Tryd.func5, Tryd.ntmps5
  go_wp2_with fail
  refine HBE.out.mono ?_
  rintro r w2 ⟨n, q, c, D, rfl, hn7, _, _, hB⟩
  have HD := Lib.hid hB
  have HB2 := Lib.hid hB.b
  have HNL : Hid (D.length = n) := Lib.hid hB.len
  have H0 : Hid (BkR w2 w2 D 0 none 0 []) := Lib.hid ⟨rfl, Rw.empty _ _, rfl, (fun x h => by cases h), Below.refl _ _, (fun a e => by cases e)⟩
  clear hB HBE
  go_wp2_with fail
  go_loopw [3, 18] (fun s3 s18 wr => ∃ (k : Nat) (q3 : Option Addr) (c3 : Nat) (K : List Blk), k ≤ n ∧ s3 = .slice q3 k c3 ∧ s18 = .int .i64 (k : Int) ∧ Hid (BkR w2 wr D k q3 c3 K)) (fun _ s18 _ => n - (intOf s18).toNat)
  case atStart => exact ⟨0, none, 0, [], by omega, rfl, rfl, H0⟩
  case round =>
    clear H0
    obtain ⟨k, q3, c3, K, hkn, rfl, rfl, HS⟩ := hrel
    have k0 : (0 : Int) ≤ k := by omega
    by_cases hlt : k < n
    · have hlt' : (k : Int) < n := by omega
      have hkl : k < D.length := by have := HNL.out; omega
      obtain ⟨bs, off, rfl, hbs, hc⟩ := (HD.out.rw.rd.old HS.out.b) k hkl
      obtain ⟨y, hy⟩ : ∃ y, y = D[k] := ⟨_, rfl⟩
      rw [← hy] at hc
      have HCC : Hid (∀ i u, y.cells[i]? = some u → wr.cell? ⟨bs, off + k * 7 + i, none⟩ = some u) := Lib.hid hc
      have hya : okR wr y := hy ▸ (HD.out.ok _ (List.getElem_mem hkl)).old HS.out.b
      have HNX : Hid ((D.take (k + 1)).map blkI = (D.take k).map blkI ++ [blkI y]) := Lib.hid (by rw [List.take_succ_eq_append_getElem hkl, List.map_append, ← hy]; rfl)
      have HOW : Hid (∀ w', Below wr.heap.size wr w' → Calls Tryd.prog 21 #[.agg y.cells.toArray] w' fun r w2 => ∃ q c, r = .returned (.agg (hcells (ownH y.h) q c)) ∧ Rw encN 43 w2 q c (ownH y.h).ps ∧ Below w'.heap.size w' w2) := Lib.hid (fun w' hb => (own_any y.h y.q y.c w' (hya.rd.old hb) (by have := hya.good.ps; omega)).mono (by rintro r w2 ⟨q, c, h1, h2, h3, _⟩; exact ⟨q, c, h1, h2, h3⟩))
      have HGD := Lib.hid hya.good
      obtain ⟨S, hS⟩ : ∃ S, S = hbytes (·.1) (ownH y.h) := ⟨_, rfl⟩
      have HBY : Hid (∀ w' q c, Rd encN w' q (ownH y.h).ps → Calls Tryd.prog 22 #[.agg (hcells (ownH y.h) q c)] w' fun r w2 => r = .returned (.string ⟨S.toArray⟩) ∧ Below w'.heap.size w' w2) := Lib.hid (fun w' q c h => by
        have ok := HGD.out.hk
        rw [hS]
        exact hbytes_any (ownH y.h) q c w' h ok.n ok.k ok.pw ok.b1 ok.b2 ok.b3 ok.b4)
      have HPA : Hid (∀ w', Calls Tryd.prog 20 #[.string ⟨S.toArray⟩] w' (HPost (ownH y.h) 0 w')) := Lib.hid (fun w' => by rw [hS]; exact parse_good HGD.out w')
      have HSZ : Hid (y.cells.toArray.size = 7) := Lib.hid rfl
      have HQ3 : Hid ((Tryd.prog.info? 34).map (·.size) = some y.cells.toArray.size) := Lib.hid rhinfo
      have HQ4 : Hid (∀ v ∈ y.cells.toArray.toList, v.oneCell' = true) := Lib.hid (by simpa using y.one)
      clear hy hc hbs hkl hya hS
      go_upto_region 6 with (first
        | (refine wpList_exec rfl (exec_load_rhm (.tmp 20) rfl bs (off + k * 7) rfl y HCC.out) ?_; go_frame)
        | (refine wpList_store_row rfl rfl 34 (.tmp 5) (.tmp 21) rfl wr.heap.size rfl 34 _ y.cells.toArray rfl (heap_alloc_new wr _) HSZ.out.symm HQ3.out HQ4.out ?_))
      refine wp_gen (fun W1 => W1.heap[wr.heap.size]? = some (.cells y.cells.toArray 34 (0, 0)) ∧ Below wr.heap.size wr W1) (row_new wr _ _ y.cells.toArray 34 rfl) (fun W1 hW1 => ?_)
      have HRW := Lib.hid hW1.1
      have HB1 := Lib.hid hW1.2
      clear hW1 HCC HQ4 HSZ
      go_wp2_with (refine wpList_exec rfl (exec_load_rh (.tmp 5) rfl wr.heap.size rfl y.cells.toArray HQ3.out HRW.out) ?_; go_frame)
      refine (HOW.out W1 HB1.out).mono ?_
      rintro r w3 ⟨q2, c2, rfl, hr2, hb2⟩
      have hbw2 := HB1.out.trans (hb2.mono HB1.out.size)
      have HBY2 := Lib.hid (HBY.out w3 q2 c2 hr2.rd)
      have HB3 := Lib.hid hbw2
      clear hr2 hb2 hbw2 HOW HB1 HRW HQ3 HBY
      go_wp2_with fail
      refine HBY2.out.mono ?_
      rintro r w4 ⟨rfl, hb4⟩
      have HB4 := Lib.hid (HB3.out.trans (hb4.mono HB3.out.size))
      clear hb4 HBY2 HB3
      go_wp2_with fail
      refine (HPA.out w4).mono ?_
      rintro r w5 ⟨q5, c5, rfl, hr5, hb5, hf5⟩
      have HB5 := Lib.hid (HB4.out.trans (hb5.mono HB4.out.size))
      have HR5 := Lib.hid hr5
      clear hr5 hb5 hf5 HPA HB4
      obtain ⟨CH, hCH⟩ : ∃ C, C = hcells (ownH y.h) q5 c5 := ⟨_, rfl⟩
      have HCH := Lib.hid hCH
      have hCs : CH.size = 7 := by rw [hCH]; rfl
      have HCI : Hid ((Tryd.prog.info? 46).map (·.size) = some CH.size) := Lib.hid (by rw [hCs]; exact hinfo)
      have HCS : Hid ((7 : Nat) = CH.size) := Lib.hid hCs.symm
      have HC1 : Hid (∀ v ∈ CH.toList, v.oneCell' = true) := Lib.hid (by rw [hCH]; exact hcells_one _ _ _)
      rw [← hCH]
      clear hCH hCs
      go_upto_region 7 with (refine wpList_store_row rfl rfl 46 (.tmp 6) (.tmp 27) rfl w5.heap.size rfl 46 _ CH rfl (heap_alloc_new w5 _) HCS.out HCI.out HC1.out ?_)
      refine wp_gen (fun W1 => W1.heap[w5.heap.size]? = some (.cells CH 46 (0, 0)) ∧ Below w5.heap.size w5 W1) (row_new w5 _ _ CH 46 rfl) (fun W6 hW6 => ?_)
      have HR6 := Lib.hid hW6.1
      have hbw6 := HB5.out.trans (hW6.2.mono HB5.out.size)
      have hT6 : TabAt W6 := (HT.out.old HB2.out).old (HS.out.b.trans (hbw6.mono HS.out.b.size))
      have HMK : Hid (Calls Tryd.prog 23 #[.agg CH] W6 fun r w' => ∃ q c, r = .returned (.agg (⟨nmH (ownH y.h), ownH y.h, q, c⟩ : Blk).cells.toArray) ∧ Rw encN 43 w' q c (ownH y.h).ps ∧ (∀ a, q = some a → W6.heap.size ≤ a.block) ∧ Below W6.heap.size W6 w') := Lib.hid (by rw [HCH.out]; exact tsmake_any (ownH y.h) q5 c5 W6 (HR5.out.rd.old hW6.2) HR5.out.addr HGD.out.hk hT6)
      have HB6 := Lib.hid hbw6
      clear hW6 hbw6 hT6 HR5 HB5 HC1 HCS HCH
      go_wp2_with (refine wpList_exec rfl (exec_load_row 46 (.tmp 6) rfl w5.heap.size rfl 46 CH (0, 0) _ HR6.out Tryd.underlying46 rfl HCI.out) ?_; go_frame)
      refine HMK.out.mono ?_
      rintro r w7 ⟨q7, c7, rfl, hr7, hf7, hb7⟩
      obtain ⟨b, hb⟩ : ∃ b : Blk, b = ⟨nmH (ownH y.h), ownH y.h, q7, c7⟩ := ⟨_, rfl⟩
      rw [← hb]
      have hbw7 := HB6.out.trans (hb7.mono HB6.out.size)
      have hrb : Rw encN 43 w7 b.q b.c b.h.ps := by rw [hb]; exact hr7
      have hbx := alloc1 w7 (.cells b.cells.toArray 48)
      have HOK : Hid (okW w2 (w7.alloc (.cells b.cells.toArray 48)) b) := Lib.hid ⟨hrb.old hbx, fun a e => by
          have h1 := hf7 a (by rw [hb] at e; exact e)
          have h2 := HS.out.b.size
          have h3 := HB6.out.size
          omega, by rw [hb]; have := HGD.out.hok; unfold HOkay at this; simp only; omega, by rw [hb]; have := HGD.out.hok; unfold HOkay at this; simp only; omega⟩
      have HS3 := Lib.hid (HS.out.old (hbw7.trans (hbx.mono hbw7.size)))
      have HRD : Hid (Rd encK (w7.alloc (.cells b.cells.toArray 48)) (some ⟨w7.heap.size, 0, none⟩) [b]) := Lib.hid (by have := Rd.made encK w7 48 [b] (by simp [maxLen]); rw [enc_oneK] at this; exact this)
      have HBI : Hid ((D.take (k + 1)).map blkI = (D.take k).map blkI ++ [b.is]) := Lib.hid (by rw [HNX.out, hb]; rfl)
      have HKL : Hid (K.length = k) := Lib.hid HS.out.len
      obtain ⟨zz, hz1, hz2, hz3⟩ := info_blk
      have HZ1 := Lib.hid hz1
      have HZ2 := Lib.hid hz2
      have HZ3 := Lib.hid hz3
      clear hr7 hf7 hb7 hb hrb hbx hbw7 HMK HS HB6 hz1 hz2 hz3 HNX HR6 HCI HGD
      go_wp2_with (first
        | (refine wpList_exec rfl (build_blks (.tmp 33) rfl b rfl) ?_; go_frame)
        | (at_builtin; refine wpList_pushR encK rfl (.tmp 31) (.tmp 34) 25 48 zz _ rfl Tryd.underlying25 HZ1.out HZ2.out HZ3.out q3 c3 k K HKL.out rfl HS3.out.rw (some ⟨w7.heap.size, 0, none⟩) 1 1 [b] rfl rfl HRD.out (by omega) ?_; intro q4 c4 w9 hP; have HP := Lib.hid (HS3.out.push HOK.out HBI.out hP); clear hP; go_frame))
      go_roundw
      case rel => exact ⟨k + 1, q4, c4, K ++ [b], by omega, rfl, by go_num, HP⟩
      case measure => simp [intOf]; omega
    · obtain rfl : k = n := by omega
      have hlt' : ¬ (k : Int) < k := by omega
      have hK : K.map Blk.is = D.map blkI := by rw [HS.out.is, List.take_of_length_le (by rw [HNL.out]; exact Nat.le_refl _)]
      have hnew := tsnew_any q3 c3 K wr HS.out.rw.rd (by rw [HS.out.len]; omega) HS.out.rw.cap_le (newOk_of (fun x hx => (HD.out.ok x hx).good) hK (fun b hb => (HS.out.ok b hb).ok))
      rw [HS.out.len, hK] at hnew
      obtain ⟨X, hX⟩ : ∃ X, X = D.map blkI := ⟨_, rfl⟩
      have hXl : X.length = k := by rw [hX, List.length_map, HNL.out]
      have HXM : Hid (∀ x ∈ X, x.1 = nmH x.2 ∧ HOk x.2) := Lib.hid (fun x hx => by
        rw [hX] at hx
        obtain ⟨y, hy, rfl⟩ := List.mem_map.1 hx
        exact ⟨rfl, (HD.out.ok y hy).good.hk⟩)
      rw [← hX] at hnew
      have HNEW : Hid (Calls Tryd.prog 8 #[.slice q3 k c3] wr fun r w2 => ∃ v, r = .returned (.tuple #[.agg #[v], .int .i64 (newE X)]) ∧ TsV w2 v (newX X) ∧ Below wr.heap.size wr w2) := Lib.hid (hnew.mono (fun r w2 h => h.v hXl.symm))
      have HBR := Lib.hid (HB2.out.trans (HS.out.b.mono HB2.out.size))
      have HXL := Lib.hid hXl
      have HQ3 : Hid ((Tryd.prog.info? 27).map (·.size) = some 1) := Lib.hid (by kernel_rfl)
      clear hK hnew hX hXl hlt HS HD HNL
      go_wp2_with fail
      refine HNEW.out.mono ?_
      rintro r w3 ⟨tv, rfl, hv, hb3⟩
      have HV0 := Lib.hid hv
      have HB3 := Lib.hid (HBR.out.trans (hb3.mono HBR.out.size))
      have HONE : Hid (∀ x ∈ (#[tv] : Array Value).toList, x.oneCell' = true) := Lib.hid (by
        obtain ⟨p, c, L, rfl, _⟩ := hv
        intro x hx; simp at hx; rw [hx]; rfl)
      clear hv hb3 HNEW HBR
      obtain ⟨ec, hec⟩ : ∃ e, e = newE X := ⟨_, rfl⟩
      rw [← hec]
      have HEC := Lib.hid hec
      clear hec
      go_upto_region 12 with (refine wpList_store_row rfl rfl 27 (.tmp 8) (.tmp 40) rfl w3.heap.size rfl 27 _ #[tv] rfl (heap_alloc_new w3 _) rfl HQ3.out HONE.out ?_)
      refine wp_gen (fun W => W.heap[w3.heap.size]? = some (.cells #[tv] 27 (0, 0)) ∧ Below w3.heap.size w3 W) (row_new w3 _ _ #[tv] 27 rfl) (fun W4 hW4 => ?_)
      have HR8 := Lib.hid hW4.1
      have HV := Lib.hid (HV0.out.old hW4.2)
      have HB4 := Lib.hid (HB3.out.trans (hW4.2.mono HB3.out.size))
      obtain ⟨g8, hg8⟩ : ∃ g, g = w3.heap.size := ⟨_, rfl⟩
      rw [← hg8] at HR8
      rw [← hg8]
      clear hW4 HV0 HB3 hg8 HONE
      by_cases he : ec = 0
      · subst he
        have hNK := NewK.of HEC.out.symm
        obtain ⟨Z, hZ⟩ : ∃ Z, Z = isort X := ⟨_, rfl⟩
        have hnx : newX X = Z := by unfold newX; rw [if_pos HEC.out.symm, hZ]
        rw [← hZ] at hNK
        rw [hnx] at HV
        have hZl : Z.length = k := by rw [hNK.len, HXL.out]
        obtain ⟨hk1, hk2, hk3, hk4⟩ := hNK.key
        obtain ⟨KX, hKX⟩ : ∃ K, K = keyX Z := ⟨_, rfl⟩
        rw [← hKX] at hk1 hk2 hk3 hk4
        have HNA : Hid (∀ w', Calls Tryd.prog 26 #[.string ⟨KX.toArray⟩] w' fun r w2 => ∃ q c, r = .returned (.tuple #[.slice q k c, .bool true]) ∧ Rw encN 43 w2 q c (Z.map (·.1)) ∧ Below w'.heap.size w' w2) := Lib.hid (fun w' => by
          refine (hnames_any KX w' (by omega)).mono ?_
          rintro r w2 ⟨q, c, L, h1, h2, h3, _, h5⟩
          rw [hk2, if_pos rfl, hk3] at h2
          subst h2
          rw [hk2, List.length_map, hZl] at h1
          exact ⟨q, c, h1, h3, h5⟩)
        have HKC : Hid (∀ w', TsV w' tv Z → Calls Tryd.prog 10 #[.agg #[tv]] w' fun r w2 => r = .returned (.string ⟨KX.toArray⟩) ∧ Below w'.heap.size w' w2) := Lib.hid (fun w' h => by rw [hKX]; exact h.key)
        have HKN : Hid (∀ w' q c, Rw encN 43 w' q c (Z.map (·.1)) → Calls Tryd.prog 29 #[.slice q k c] w' fun r w2 => r = .returned (.string ⟨KX.toArray⟩) ∧ Below w'.heap.size w' w2) := Lib.hid (fun w' q c h => by
          have := key_any q c (Z.map (·.1)) w' h.rd h.addr (by rw [List.length_map]; have := hNK.le; omega)
          rw [kset_self hNK.strict, ← hk1, List.length_map, hZl] at this
          exact this)
        obtain ⟨z0, Z', hz0⟩ : ∃ z0 Z', Z = z0 :: Z' := by
          cases Z with
          | nil => exact absurd rfl hNK.ne
          | cons a l => exact ⟨a, l, rfl⟩
        have hz0m : z0 ∈ Z := by rw [hz0]; exact List.mem_cons_self ..
        obtain ⟨fam, hfam⟩ : ∃ f, f = famI z0 := ⟨_, rfl⟩
        have hmem : ∀ z ∈ Z, z.1 = nmH z.2 ∧ HOk z.2 := fun z hz => HXM.out z ((hNK.mem z).1 hz)
        have HFA : Hid (∀ (w' : World) (b : Blk), okK w' b → b.is ∈ Z → Calls Tryd.prog 28 #[.agg (hcells b.h b.q b.c)] w' fun r w2 => r = .returned (.string ⟨fam.toArray⟩) ∧ Below w'.heap.size w' w2) := Lib.hid (fun w' b hb hz => by
          have ok := (hmem _ hz).2
          have := hfamily_any b.h b.q b.c w' hb.rd hb.ad hb.n ok.pw ok.b1
          rw [hfam, ← hNK.fam _ hz _ hz0m]
          exact this)
        have HIDA : Hid (∀ (w' : World) (b : Blk), TabAt w' → okK w' b → b.is ∈ Z → Calls Tryd.prog 27 #[.agg (hcells b.h b.q b.c)] w' fun r w2 => r = .returned (.agg (vals b.id.1).toArray) ∧ Below w'.heap.size w' w2) := Lib.hid (fun w' b hT hb hz => by
          have ok := (hmem _ hz).2
          have e : b.id = nmH b.h := (hmem _ hz).1
          rw [e]
          exact hid_any b.h b.q b.c w' hb.rd ok hT)
        have HBK : Hid (∀ w', TsV w' tv Z → Calls Tryd.prog 15 #[.agg #[tv]] w' fun r w2 => ∃ q c K, r = .returned (.slice q k c) ∧ K.map Blk.is = Z ∧ TsW w' w2 q c K ∧ Below w'.heap.size w' w2) := Lib.hid (fun w' h => by have := h.blocks; rw [hZl] at this; exact this)
        have HZL := Lib.hid hZl
        have HZ0 := Lib.hid hz0
        have HZM := Lib.hid hz0m
        have hkp : 0 < k := by rw [← hZl, hz0]; simp
        clear hNK hZ hnx hZl hk1 hk2 hk3 hk4 hKX hz0 hz0m hfam hmem HEC HXM HXL
        have c8 : W4.cell? ⟨g8, 0, none⟩ = some tv := cell_of_row W4 g8 0 _ _ _ HR8.out
        go_wp2_with fail
        refine (HKC.out W4 HV.out).mono ?_
        rintro r w5 ⟨rfl, hb5⟩
        have HV5 := Lib.hid (HV.out.old hb5)
        have HR85 := Lib.hid ((hb5.block _ (Array.getElem?_eq_some_iff.1 HR8.out).1).trans HR8.out)
        have HB5 := Lib.hid (HB4.out.trans (hb5.mono HB4.out.size))
        clear hb5 c8 HV HR8 HB4
        go_wp2_with fail
        refine (HNA.out w5).mono ?_
        rintro r w6 ⟨qn, cn, rfl, hrn, hb6⟩
        have HV6 := Lib.hid (HV5.out.old hb6)
        have HR86 := Lib.hid ((hb6.block _ (Array.getElem?_eq_some_iff.1 HR85.out).1).trans HR85.out)
        have HB6 := Lib.hid (HB5.out.trans (hb6.mono HB5.out.size))
        obtain ⟨gq, rfl⟩ : ∃ g, qn = some ⟨g, 0, none⟩ := by
          rcases hrn.shape with ⟨_, h0, _⟩ | ⟨g, e, _⟩
          · have := congrArg List.length h0
            rw [List.length_map, HZL.out] at this; simp at this; omega
          · exact ⟨g, e⟩
        have HRN := Lib.hid hrn
        have c8 : w6.cell? ⟨g8, 0, none⟩ = some tv := cell_of_row w6 g8 0 _ _ _ HR86.out
        clear hb6 hrn HNA HV5 HR85 HB5
        go_wp2_with fail
        refine (HBK.out w6 HV6.out).mono ?_
        rintro r w7 ⟨qb, cb, Kb, rfl, hKb, hTb, hb7⟩
        have HV7 := Lib.hid (HV6.out.old hb7)
        have HR87 := Lib.hid ((hb7.block _ (Array.getElem?_eq_some_iff.1 HR86.out).1).trans HR86.out)
        have HB7 := Lib.hid (HB6.out.trans (hb7.mono HB6.out.size))
        have HRN7 := Lib.hid (HRN.out.old hb7)
        have HKB := Lib.hid hKb
        have HTB := Lib.hid hTb
        clear hb7 hKb hTb HV6 HR86 HB6 HRN c8
        go_wp2_with fail
        go_loopw [69] (fun s69 wr => ∃ i : Nat, i ≤ k ∧ s69 = .int .i64 (i : Int) ∧ Hid (Below w7.heap.size w7 wr)) (fun s69 _ => k - (intOf s69).toNat)
        case atStart => exact ⟨0, Nat.zero_le _, rfl, Lib.hid (Below.refl _ _)⟩
        case round =>
          obtain ⟨i, hik, rfl, HW⟩ := hrel
          have i0 : (0 : Int) ≤ (i : Int) := by omega
          by_cases hlt : i < k
          · have ik : (i : Int) < (k : Int) := by omega
            have hiK : i < Kb.length := by
              have := congrArg List.length HKB.out
              rw [List.length_map, HZL.out] at this; omega
            obtain ⟨bq, rfl, hbq, hcq⟩ := (HTB.out.old HW.out).row i hiK
            obtain ⟨b, hb⟩ : ∃ b, b = Kb[i] := ⟨_, rfl⟩
            rw [← hb] at hcq
            have HCQ := Lib.hid hcq
            have hbz : b.is = Z[i]'(by rw [HZL.out]; exact hlt) := by
              have : (Kb.map Blk.is)[i]'(by rw [List.length_map]; exact hiK) = b.is := by rw [List.getElem_map, ← hb]
              rw [← this]; simp only [HKB.out]
            have HBZ : Hid (b.is ∈ Z) := Lib.hid (by rw [hbz]; exact List.getElem_mem _)
            have HBO : Hid (okK wr b) := Lib.hid ((hb ▸ HTB.out.ok _ (List.getElem_mem hiK)).ok.old HW.out)
            have HNM : Hid (∀ w', Below wr.heap.size wr w' → ∀ j u, (encN.f b.id)[j]? = some u → w'.cell? ⟨gq, i * 32 + j, none⟩ = some u) := Lib.hid (fun w' hw j u hu => by
              have hi2 : i < (Z.map (·.1)).length := by rw [List.length_map, HZL.out]; exact hlt
              have e : (Z.map (·.1))[i] = b.id := by rw [List.getElem_map, ← hbz]; rfl
              have := rd_nm ((HRN7.out.old HW.out).old hw).rd i hi2 j u (by rw [e]; exact hu)
              exact this)
            have HSZ : Hid (b.cells.toArray.size = 39) := Lib.hid b.size
            have HQB := Lib.hid (blk_info b)
            have HQ4 : Hid (∀ v ∈ b.cells.toArray.toList, v.oneCell' = true) := Lib.hid (by simpa using b.one)
            clear hbq hcq hb hbz hiK
            go_upto_region 20 with (first
              | (refine wpList_load_blk rfl (.tmp 72) rfl bq (i * 39) rfl b HCQ.out ?_; go_frame)
              | (refine wpList_store_row rfl rfl 48 (.tmp 13) (.tmp 73) rfl wr.heap.size rfl 48 _ b.cells.toArray rfl (heap_alloc_new wr _) HSZ.out.symm HQB.out HQ4.out ?_))
            refine wp_gen (fun W => W.heap[wr.heap.size]? = some (.cells b.cells.toArray 48 (0, 0)) ∧ Below wr.heap.size wr W) (row_new wr _ _ b.cells.toArray 48 rfl) (fun W8 hW8 => ?_)
            have HR13 := Lib.hid hW8.1
            have HW8 := Lib.hid hW8.2
            have HB78 := Lib.hid (HW.out.trans (hW8.2.mono HW.out.size))
            have HBO8 := Lib.hid (HBO.out.old hW8.2)
            have HT8 : Hid (TabAt W8) := Lib.hid (HT.out.old (HB7.out.trans (HB78.out.mono HB7.out.size)))
            have HV8 := Lib.hid (HV7.out.old HB78.out)
            have HR88 := Lib.hid ((HB78.out.block _ (Array.getElem?_eq_some_iff.1 HR87.out).1).trans HR87.out)
            obtain ⟨g13, hg13⟩ : ∃ g, g = wr.heap.size := ⟨_, rfl⟩
            rw [← hg13] at HR13
            rw [← hg13]
            clear hW8 hg13 HQ4 HQB HSZ HCQ HBO
            obtain ⟨nm, hnm⟩ : ∃ s, s = b.id := ⟨_, rfl⟩
            have HNE : Hid (∀ w, (binOp .neq 43 (.agg (vals nm.1).toArray) (.agg (vals nm.1).toArray)).run Tryd.prog w = .ok (.bool false) w) := Lib.hid (fun w => by rw [id_neq nm.1 nm.1 nm.2 nm.2 w]; simp)
            rw [← hnm] at HNM
            have HNI := Lib.hid hnm
            clear hnm
            refine wp_region_puts (fun t v w => VK (match t with
              | 74 => .eq (.slice (some ⟨gq, 0, none⟩) k cn)
              | 75 => .eq (.int .i64 (i : Int))
              | 76 => .eq (.pointer (some ⟨gq, i * 32, none⟩))
              | 77 => .eq (.agg (vals nm.1).toArray)
              | 78 => .eq (.pointer (some ⟨g13, 0, none⟩))
              | 79 => .eq (.agg (vals nm.1).toArray)
              | 80 => .eq (Value.bool false)
              | 81 => .eq (Value.bool false)
              | 82 => .eq (.pointer (some ⟨g13, 32, none⟩))
              | 83 => .eq (.agg (hcells b.h b.q b.c))
              | 84 => .eq (.agg (vals nm.1).toArray)
              | 85 => .eq (.pointer (some ⟨g13, 0, none⟩))
              | 86 => .eq (.agg (vals nm.1).toArray)
              | 87 => .eq (Value.bool false)
              | 88 => .eq (Value.bool false)
              | 89 => .eq (Value.bool false)
              | 90 => .eq (.pointer (some ⟨g13, 32, none⟩))
              | 91 => .eq (.agg (hcells b.h b.q b.c))
              | 92 => .eq (.string ⟨fam.toArray⟩)
              | 93 => .eq (.agg #[tv])
              | 94 => .st (bkSt z0)
              | 95 => .st (ptSt z0 0)
              | 96 => .st (ptSt z0 32)
              | 97 => .st (hdSt z0)
              | 98 => .eq (.string ⟨fam.toArray⟩)
              | 99 => .eq (Value.bool false)
              | 100 => .eq (Value.bool false)
              | _ => .any) v w) (fun w' => Below W8.heap.size W8 w') 107 (by kernel_rfl) (by decide +kernel) rfl (Below.refl _ _).drew (by
              refine OweAll.cons (owesK rfl rfl fun a w1 ha hG hV => ?_) ?_
              · skip
                have h10 := ha.outer 10 (by decide +kernel)
                simp only [Act.eval] at h10
                exact ⟨.slice (some ⟨gq, 0, none⟩) k cn, w1, wanted_free rfl, by simp [execOp, go_sem, h10], Below.refl _ _, rfl⟩
              refine OweAll.cons (owesK rfl rfl fun a w1 ha hG hV => ?_) ?_
              · skip
                have h12 := ha.outer 12 (by decide +kernel)
                simp only [Act.eval] at h12
                exact ⟨.int .i64 (i : Int), w1, wanted_free rfl, by simp [execOp, go_sem, h12], Below.refl _ _, rfl⟩
              refine OweAll.cons (owesK rfl rfl fun a w1 ha hG hV => ?_) ?_
              · skip
                have h74 : a.tmps.getD 74 undef = .slice (some ⟨gq, 0, none⟩) k cn := hV.get 74 (by decide +kernel)
                have h75 : a.tmps.getD 75 undef = .int .i64 (i : Int) := hV.get 75 (by decide +kernel)
                exact ⟨.pointer (some ⟨gq, i * 32, none⟩), w1, wanted_free rfl, by simp [execOp, go_sem, h74, h75, i0, ik], Below.refl _ _, rfl⟩
              refine OweAll.cons (owesK rfl rfl fun a w1 ha hG hV => ?_) ?_
              · skip
                have h76 : a.tmps.getD 76 undef = .pointer (some ⟨gq, i * 32, none⟩) := hV.get 76 (by decide +kernel)
                exact ⟨.agg (vals nm.1).toArray, w1, wanted_free rfl, exec_load_mid (.tmp 76) rfl gq (i * 32) h76 nm (fun j u hu => HNM.out w1 (HW8.out.trans (hG.mono HW8.out.size)) j u hu), Below.refl _ _, rfl⟩
              refine OweAll.cons (owesK rfl rfl fun a w1 ha hG hV => ?_) ?_
              · skip
                have h13 := ha.outer 13 (by decide +kernel)
                simp only [Act.eval] at h13
                exact ⟨.pointer (some ⟨g13, 0, none⟩), w1, wanted_free rfl, by simp [execOp, go_sem, h13], Below.refl _ _, rfl⟩
              refine OweAll.cons (owesK rfl rfl fun a w1 ha hG hV => ?_) ?_
              · skip
                have h78 : a.tmps.getD 78 undef = .pointer (some ⟨g13, 0, none⟩) := hV.get 78 (by decide +kernel)
                have hrow := (hG.block _ (Array.getElem?_eq_some_iff.1 HR13.out).1).trans HR13.out
                have hni := HNI.out
                exact ⟨.agg (vals nm.1).toArray, w1, wanted_free rfl, exec_load_mid (.tmp 78) rfl g13 0 h78 nm (fun _ u hu => by rw [hni] at hu; exact blk_id hrow hu), Below.refl _ _, rfl⟩
              refine OweAll.cons (owesK rfl rfl fun a w1 ha hG hV => ?_) ?_
              · skip
                have h77 : a.tmps.getD 77 undef = .agg (vals nm.1).toArray := hV.get 77 (by decide +kernel)
                have h79 : a.tmps.getD 79 undef = .agg (vals nm.1).toArray := hV.get 79 (by decide +kernel)
                have hne := HNE.out
                exact ⟨Value.bool false, w1, wanted_free rfl, by simp [execOp, go_sem, h77, h79, hne], Below.refl _ _, rfl⟩
              refine OweAll.cons (owesK rfl rfl fun a w1 ha hG hV => ?_) ?_
              · skip
                have h80 : a.tmps.getD 80 undef = Value.bool false := hV.get 80 (by decide +kernel)
                exact ⟨Value.bool false, w1, wanted_free rfl, by simp [execOp, go_sem, h80], Below.refl _ _, rfl⟩
              refine OweAll.cons (owesK rfl rfl fun a w1 ha hG hV => ?_) ?_
              · skip
                have h13 := ha.outer 13 (by decide +kernel)
                simp only [Act.eval] at h13
                exact ⟨.pointer (some ⟨g13, 32, none⟩), w1, (wanted_of (t := 81) rfl rfl (hV.get 81 (by decide +kernel))), by simp [execOp, go_sem, h13], Below.refl _ _, rfl⟩
              refine OweAll.cons (owesK rfl rfl fun a w1 ha hG hV => ?_) ?_
              · skip
                have h82 : a.tmps.getD 82 undef = .pointer (some ⟨g13, 32, none⟩) := hV.get 82 (by decide +kernel)
                have hrow := (hG.block _ (Array.getElem?_eq_some_iff.1 HR13.out).1).trans HR13.out
                exact ⟨.agg (hcells b.h b.q b.c), w1, (wanted_of (t := 81) rfl rfl (hV.get 81 (by decide +kernel))), exec_load_hd (.tmp 82) rfl g13 32 h82 b.h b.q b.c (fun i u hu => blk_hd hrow hu), Below.refl _ _, rfl⟩
              refine OweAll.cons (owesK_call rfl rfl 27 fun a w1 ha hG hV => ?_) ?_
              · skip
                have h83 : a.tmps.getD 83 undef = .agg (hcells b.h b.q b.c) := hV.get 83 (by decide +kernel)
                refine ⟨#[.agg (hcells b.h b.q b.c)], (wanted_of (t := 81) rfl rfl (hV.get 81 (by decide +kernel))), by simp [go_sem, h83], ?_⟩
                refine (HIDA.out w1 b (HT8.out.old hG) (HBO8.out.old hG) HBZ.out).mono ?_
                rintro r u2 ⟨rfl, hb⟩; exact ⟨_, rfl, (by show Value.agg _ = _; rw [HNI.out]), hb⟩
              refine OweAll.cons (owesK rfl rfl fun a w1 ha hG hV => ?_) ?_
              · skip
                have h13 := ha.outer 13 (by decide +kernel)
                simp only [Act.eval] at h13
                exact ⟨.pointer (some ⟨g13, 0, none⟩), w1, (wanted_of (t := 81) rfl rfl (hV.get 81 (by decide +kernel))), by simp [execOp, go_sem, h13], Below.refl _ _, rfl⟩
              refine OweAll.cons (owesK rfl rfl fun a w1 ha hG hV => ?_) ?_
              · skip
                have h85 : a.tmps.getD 85 undef = .pointer (some ⟨g13, 0, none⟩) := hV.get 85 (by decide +kernel)
                have hrow := (hG.block _ (Array.getElem?_eq_some_iff.1 HR13.out).1).trans HR13.out
                have hni := HNI.out
                exact ⟨.agg (vals nm.1).toArray, w1, (wanted_of (t := 81) rfl rfl (hV.get 81 (by decide +kernel))), exec_load_mid (.tmp 85) rfl g13 0 h85 nm (fun _ u hu => by rw [hni] at hu; exact blk_id hrow hu), Below.refl _ _, rfl⟩
              refine OweAll.cons (owesK rfl rfl fun a w1 ha hG hV => ?_) ?_
              · skip
                have h84 : a.tmps.getD 84 undef = .agg (vals nm.1).toArray := hV.get 84 (by decide +kernel)
                have h86 : a.tmps.getD 86 undef = .agg (vals nm.1).toArray := hV.get 86 (by decide +kernel)
                have hne := HNE.out
                exact ⟨Value.bool false, w1, (wanted_of (t := 81) rfl rfl (hV.get 81 (by decide +kernel))), by simp [execOp, go_sem, h84, h86, hne], Below.refl _ _, rfl⟩
              refine OweAll.cons (owesK rfl rfl fun a w1 ha hG hV => ?_) ?_
              · skip
                have h81 : a.tmps.getD 81 undef = Value.bool false := hV.get 81 (by decide +kernel)
                have h87 : a.tmps.getD 87 undef = Value.bool false := hV.get 87 (by decide +kernel)
                exact ⟨Value.bool false, w1, wanted_free rfl, by simp [execOp, go_sem, h81, h87], Below.refl _ _, rfl⟩
              refine OweAll.cons (owesK rfl rfl fun a w1 ha hG hV => ?_) ?_
              · skip
                have h88 : a.tmps.getD 88 undef = Value.bool false := hV.get 88 (by decide +kernel)
                exact ⟨Value.bool false, w1, wanted_free rfl, by simp [execOp, go_sem, h88], Below.refl _ _, rfl⟩
              refine OweAll.cons (owesK rfl rfl fun a w1 ha hG hV => ?_) ?_
              · skip
                have h13 := ha.outer 13 (by decide +kernel)
                simp only [Act.eval] at h13
                exact ⟨.pointer (some ⟨g13, 32, none⟩), w1, (wanted_of (t := 89) rfl rfl (hV.get 89 (by decide +kernel))), by simp [execOp, go_sem, h13], Below.refl _ _, rfl⟩
              refine OweAll.cons (owesK rfl rfl fun a w1 ha hG hV => ?_) ?_
              · skip
                have h90 : a.tmps.getD 90 undef = .pointer (some ⟨g13, 32, none⟩) := hV.get 90 (by decide +kernel)
                have hrow := (hG.block _ (Array.getElem?_eq_some_iff.1 HR13.out).1).trans HR13.out
                exact ⟨.agg (hcells b.h b.q b.c), w1, (wanted_of (t := 89) rfl rfl (hV.get 89 (by decide +kernel))), exec_load_hd (.tmp 90) rfl g13 32 h90 b.h b.q b.c (fun i u hu => blk_hd hrow hu), Below.refl _ _, rfl⟩
              refine OweAll.cons (owesK_call rfl rfl 28 fun a w1 ha hG hV => ?_) ?_
              · skip
                have h91 : a.tmps.getD 91 undef = .agg (hcells b.h b.q b.c) := hV.get 91 (by decide +kernel)
                refine ⟨#[.agg (hcells b.h b.q b.c)], (wanted_of (t := 89) rfl rfl (hV.get 89 (by decide +kernel))), by simp [go_sem, h91], ?_⟩
                refine (HFA.out w1 b (HBO8.out.old hG) HBZ.out).mono ?_
                rintro r u2 ⟨rfl, hb⟩; exact ⟨_, rfl, rfl, hb⟩
              refine OweAll.cons (owesK rfl rfl fun a w1 ha hG hV => ?_) ?_
              · skip
                have h8 := ha.outer 8 (by decide +kernel)
                simp only [Act.eval] at h8
                have cc : w1.cell? ⟨g8, 0, none⟩ = some tv := cell_of_row w1 g8 0 _ _ _ ((hG.block _ (Array.getElem?_eq_some_iff.1 HR88.out).1).trans HR88.out)
                exact ⟨.agg #[tv], w1, (wanted_of (t := 89) rfl rfl (hV.get 89 (by decide +kernel))), by simp [execOp, go_sem, h8, cc], Below.refl _ _, rfl⟩
              refine OweAll.cons (owesK_call rfl rfl 15 fun a w1 ha hG hV => ?_) ?_
              · skip
                have h93 : a.tmps.getD 93 undef = .agg #[tv] := hV.get 93 (by decide +kernel)
                refine ⟨#[.agg #[tv]], (wanted_of (t := 89) rfl rfl (hV.get 89 (by decide +kernel))), by simp [go_sem, h93], ?_⟩
                refine (HBK.out w1 (HV8.out.old hG)).mono ?_
                rintro r u2 ⟨q, c, K, rfl, hK, hT, hb⟩; exact ⟨_, rfl, bk_of hK hT HZ0.out HZL.out, hb⟩
              refine OweAll.cons (owesK rfl rfl fun a w1 ha hG hV => ?_) ?_
              · skip
                have s94 : (bkSt z0).p (a.tmps.getD 94 undef) w1 := hV.get 94 (by decide +kernel)
                obtain ⟨bs, off, n, c, b0, h94, hn, hbs, hcs, hok, hz⟩ := s94
                have hn0 : ¬ n = 0 := by omega
                exact ⟨.pointer (some ⟨bs, off, none⟩), w1, (wanted_of (t := 89) rfl rfl (hV.get 89 (by decide +kernel))), by simp [execOp, go_sem, h94, hn0], Below.refl _ _, ⟨bs, off, b0, rfl, hbs, hcs, hok, hz⟩⟩
              refine OweAll.cons (owesK rfl rfl fun a w1 ha hG hV => ?_) ?_
              · skip
                have s95 : (ptSt z0 0).p (a.tmps.getD 95 undef) w1 := hV.get 95 (by decide +kernel)
                obtain ⟨bs, off, b0, h95, hbs, hcs, hok, hz⟩ := s95
                exact ⟨.pointer (some ⟨bs, off + 32, none⟩), w1, (wanted_of (t := 89) rfl rfl (hV.get 89 (by decide +kernel))), by simp [execOp, go_sem, h95], Below.refl _ _, ⟨bs, off, b0, rfl, hbs, hcs, hok, hz⟩⟩
              refine OweAll.cons (owesK rfl rfl fun a w1 ha hG hV => ?_) ?_
              · skip
                have s96 : (ptSt z0 32).p (a.tmps.getD 96 undef) w1 := hV.get 96 (by decide +kernel)
                obtain ⟨bs, off, b0, h96, hbs, hcs, hok, hz⟩ := s96
                exact ⟨.agg (hcells b0.h b0.q b0.c), w1, (wanted_of (t := 89) rfl rfl (hV.get 89 (by decide +kernel))), exec_load_hd (.tmp 96) rfl bs (off + 32) h96 b0.h b0.q b0.c (fun i u hu => hd_of_blk hcs hu), Below.refl _ _, ⟨b0, rfl, hok, hz⟩⟩
              refine OweAll.cons (owesK_call rfl rfl 28 fun a w1 ha hG hV => ?_) ?_
              · skip
                have s97 : (hdSt z0).p (a.tmps.getD 97 undef) w1 := hV.get 97 (by decide +kernel)
                obtain ⟨b0, h97, hok, hz⟩ := s97
                refine ⟨#[.agg (hcells b0.h b0.q b0.c)], (wanted_of (t := 89) rfl rfl (hV.get 89 (by decide +kernel))), by simp [go_sem, h97], ?_⟩
                refine (HFA.out w1 b0 hok (by rw [hz]; exact HZM.out)).mono ?_
                rintro r u2 ⟨rfl, hb⟩; exact ⟨_, rfl, rfl, hb⟩
              refine OweAll.cons (owesK rfl rfl fun a w1 ha hG hV => ?_) ?_
              · skip
                have h92 : a.tmps.getD 92 undef = .string ⟨fam.toArray⟩ := hV.get 92 (by decide +kernel)
                have h98 : a.tmps.getD 98 undef = .string ⟨fam.toArray⟩ := hV.get 98 (by decide +kernel)
                exact ⟨Value.bool false, w1, (wanted_of (t := 89) rfl rfl (hV.get 89 (by decide +kernel))), by simp [execOp, go_sem, h92, h98], Below.refl _ _, rfl⟩
              refine OweAll.cons (owesK rfl rfl fun a w1 ha hG hV => ?_) ?_
              · skip
                have h89 : a.tmps.getD 89 undef = Value.bool false := hV.get 89 (by decide +kernel)
                have h99 : a.tmps.getD 99 undef = Value.bool false := hV.get 99 (by decide +kernel)
                exact ⟨Value.bool false, w1, wanted_free rfl, by simp [execOp, go_sem, h89, h99], Below.refl _ _, rfl⟩
              exact OweAll.nil
              ) ?_
            intro f wz hG hv
            have e100 : f 100 = Value.bool false := hv 26 _ 100 rfl rfl
            rename_i hK
            refine hK _ _ ?_
            clear hK hv
            simp only [dsts, puts, List.filterMap_cons, List.filterMap_nil, List.foldl_cons, List.foldl_nil, Act.put, List.setIfInBounds_toArray, List.set_cons_succ, List.set_cons_zero, e100]
            clear e100
            have HE := Lib.hid (HB78.out.trans (hG.mono HB78.out.size))
            clear hG
            go_wp2_with fail
            go_roundw
            case rel => exact ⟨i + 1, by omega, by go_num, HE⟩
            case measure => simp [intOf]; omega
          · obtain rfl : i = k := by omega
            have ik : ¬ (i : Int) < i := by omega
            have HV9 := Lib.hid (HV7.out.old HW.out)
            have HR9 := Lib.hid ((HW.out.block _ (Array.getElem?_eq_some_iff.1 HR87.out).1).trans HR87.out)
            have HRN9 := Lib.hid (HRN7.out.old HW.out)
            have HB9 := Lib.hid (HB7.out.trans (HW.out.mono HB7.out.size))
            go_upto_region 23 with fail
            refine wp_region_puts (fun t v w => VK (match t with
              | 102 => .eq (.slice (some ⟨gq, 0, none⟩) i cn)
              | 103 => .eq (.string ⟨KX.toArray⟩)
              | 104 => .eq (.agg #[tv])
              | 105 => .eq (.string ⟨KX.toArray⟩)
              | 106 => .eq (Value.bool true)
              | 2 => .eq (Value.bool true)
              | _ => .any) v w) (fun w' => Below wr.heap.size wr w') 107 (by kernel_rfl) (by decide +kernel) rfl (Below.refl _ _).drew (by
              refine OweAll.cons (owesK rfl rfl fun a w1 ha hG hV => ?_) ?_
              · skip
                have h10 := ha.outer 10 (by decide +kernel)
                simp only [Act.eval] at h10
                exact ⟨.slice (some ⟨gq, 0, none⟩) i cn, w1, wanted_free rfl, by simp [execOp, go_sem, h10], Below.refl _ _, rfl⟩
              refine OweAll.cons (owesK_call rfl rfl 29 fun a w1 ha hG hV => ?_) ?_
              · skip
                have h102 : a.tmps.getD 102 undef = .slice (some ⟨gq, 0, none⟩) i cn := hV.get 102 (by decide +kernel)
                refine ⟨#[.slice (some ⟨gq, 0, none⟩) i cn], wanted_free rfl, by simp [go_sem, h102], ?_⟩
                refine (HKN.out w1 _ _ (HRN9.out.old hG)).mono ?_
                rintro r u2 ⟨rfl, hb⟩; exact ⟨_, rfl, rfl, hb⟩
              refine OweAll.cons (owesK rfl rfl fun a w1 ha hG hV => ?_) ?_
              · skip
                have h8 := ha.outer 8 (by decide +kernel)
                simp only [Act.eval] at h8
                have cc : w1.cell? ⟨g8, 0, none⟩ = some tv := cell_of_row w1 g8 0 _ _ _ ((hG.block _ (Array.getElem?_eq_some_iff.1 HR9.out).1).trans HR9.out)
                exact ⟨.agg #[tv], w1, wanted_free rfl, by simp [execOp, go_sem, h8, cc], Below.refl _ _, rfl⟩
              refine OweAll.cons (owesK_call rfl rfl 10 fun a w1 ha hG hV => ?_) ?_
              · skip
                have h104 : a.tmps.getD 104 undef = .agg #[tv] := hV.get 104 (by decide +kernel)
                refine ⟨#[.agg #[tv]], wanted_free rfl, by simp [go_sem, h104], ?_⟩
                refine (HKC.out w1 (HV9.out.old hG)).mono ?_
                rintro r u2 ⟨rfl, hb⟩; exact ⟨_, rfl, rfl, hb⟩
              refine OweAll.cons (owesK rfl rfl fun a w1 ha hG hV => ?_) ?_
              · skip
                have h103 : a.tmps.getD 103 undef = .string ⟨KX.toArray⟩ := hV.get 103 (by decide +kernel)
                have h105 : a.tmps.getD 105 undef = .string ⟨KX.toArray⟩ := hV.get 105 (by decide +kernel)
                exact ⟨Value.bool true, w1, wanted_free rfl, by simp [execOp, go_sem, h103, h105], Below.refl _ _, rfl⟩
              refine OweAll.cons (owesK rfl rfl fun a w1 ha hG hV => ?_) ?_
              · skip
                have h106 : a.tmps.getD 106 undef = Value.bool true := hV.get 106 (by decide +kernel)
                exact ⟨Value.bool true, w1, wanted_free rfl, by simp [execOp, go_sem, h106], Below.refl _ _, rfl⟩
              exact OweAll.nil
              ) ?_
            intro f wz hG hv
            have e2 : f 2 = Value.bool true := hv 5 _ 2 rfl rfl
            rename_i hK
            refine hK _ _ ?_
            clear hK hv
            simp only [dsts, puts, List.filterMap_cons, List.filterMap_nil, List.foldl_cons, List.foldl_nil, Act.put, List.setIfInBounds_toArray, List.set_cons_succ, List.set_cons_zero, e2]
            clear e2
            have HE := Lib.hid (HB9.out.trans (hG.mono HB9.out.size))
            clear hG
            go_wp2_with fail
            go_ret
            exact ⟨rfl, HE.out⟩
      · have he' : (ec != 0) = true := by simpa using he
        have HZ : Hid (decide (newX X = []) = true) := Lib.hid (decide_eq_true (by unfold newX; rw [if_neg (fun e => he (HEC.out.trans e))]))
        have HZR := Lib.hid HV.out.zero
        rw [HZ.out] at HZR
        have HGE := Lib.hid (fun w' h => genesisV w' h)
        have c8 : W4.cell? ⟨g8, 0, none⟩ = some tv := cell_of_row W4 g8 0 _ _ _ HR8.out
        go_wp2_with fail
        refine HZR.out.mono ?_
        rintro r w5 ⟨rfl, hb5⟩
        have HB5 := Lib.hid (HB4.out.trans (hb5.mono HB4.out.size))
        clear hb5 HZR
        go_wp2_with fail
        refine (HGE.out w5 (HT.out.old HB5.out)).mono ?_
        rintro r w6 ⟨gv, rfl, hgv, hb6⟩
        have HB6 := Lib.hid (HB5.out.trans (hb6.mono HB5.out.size))
        have HHT := Lib.hid hgv.height
        rw [show htX genX = 0 from rfl] at HHT
        clear hb6 hgv
        go_wp2_with fail
        refine HHT.out.mono ?_
        rintro r w7 ⟨rfl, hb7⟩
        have HB7 := Lib.hid (HB6.out.trans (hb7.mono HB6.out.size))
        clear hb7 HHT
        go_wp2_with fail
        go_ret
        exact ⟨rfl, HB7.out⟩
end Go.Proofs.YtlhndibfdccohaaDoor
