/- Package codec (PARTS). -/
import Derived.Test.YtkejidmomnmdbaaDoorC1
import Derived.Test.YtkejidmomnmdbaaDoorLib2
namespace Go.Proofs.YtkejidmomnmdbaaDoor
open Go.RowKit

theorem OutAt.conv {P : Program} {T E : TypeId} {w : World} {b : Nat} {v : Value} {bs : List UInt8} (h : OutAt T E w b v bs) (src dst : TypeId) (hs : P.underlying src = some (.slice E)) (he : P.underlying E = some (.int .u8)) (hd : P.underlying dst = some .string) :
    (convert src dst v).run P w = .ok (.string ⟨bs.toArray⟩) w := by
  rcases h.own.2 with ⟨rfl, h0⟩ | ⟨g, cap, cur, rfl, _, hg, hnc, _, hcs, htake⟩
  · rw [List.length_eq_zero_iff.1 h0]
    exact run_convert_bytes_nil w src E hs he 0 0 dst hd
  · have hr := run_convert_bytes_arg (P := P) w src E hs he g 0 bs.length cap (bs.map fun x => (x.toNat : Int)) (by simp) (fun i hi => by
      have := h.own.cellAt i (by omega)
      rw [Nat.zero_add, this]
      simp [vals, List.getD, hi]) dst hd
    rw [hr]
    congr 2
    apply ByteArray.ext
    apply Array.toList_inj.1
    rw [strOfNums_data, List.map_map]
    simp only [Function.comp_def, Int.toNat_natCast, UInt8.ofNat_toNat, List.map_id']

set_option maxHeartbeats 400000 in
theorem bytes_any (b : Nat) (v : Value) (bs : List UInt8) (w : World) (hO : OutAt 105 5 w b v bs) :
    Calls Tryd.prog 77 #[.pointer (some ⟨b, 0, none⟩)] w fun r w' => r = .returned (.string ⟨bs.toArray⟩) ∧ w = w' := by
  have hc := hO.cell
  have hcv := hO.conv (P := Tryd.prog) 27 9 Tryd.underlying27 Tryd.underlying5 Tryd.underlying9
  clear hO
  go_enter Tryd.func77, Tryd.ntmps77
  go_wp2
  go_ret
  exact ⟨rfl, rfl⟩

theorem byteCells_vals (l : List UInt8) : byteCells ⟨l.toArray⟩ = vals l := by simp [byteCells, vals]

set_option maxHeartbeats 400000 in
theorem raw_any (b : Nat) (v : Value) (bs s : List UInt8) (w : World) (hO : OutAt 105 5 w b v bs) (hlen : bs.length + s.length ≤ 2199023255552) :
    Calls Tryd.prog 75 #[.pointer (some ⟨b, 0, none⟩), .string ⟨s.toArray⟩] w (NumPost b v (bs ++ s) w) := by
  obtain ⟨i0, hi, hz0, hz1, hz2⟩ := info_parts Tryd.info5
  have hc := hO.cell
  have hf := hO.froz
  go_enter Tryd.func75, Tryd.ntmps75
  go_wp2_with (at_builtin; refine wpList_append_src rfl (.tmp 9) (.tmp 10) 27 9 rfl 5 i0 (.int .u8 0) 1 1 Tryd.underlying27 hi hz0 hz1 hz2 rfl v bs.length (vals bs) rfl hO.own (.string ⟨s.toArray⟩) s.length (vals s) rfl ?c1 ?c2 ?c3 ?_)
  case c1 => have h := Src.ofString (P := Tryd.prog) w Tryd.underlying9 ⟨s.toArray⟩; rwa [byteCells_vals] at h
  case c2 => unfold maxLen; omega
  case c3 => omega
  intro v1 w1 hown1 hgrow1 hat1
  rw [← vals_app, ← List.length_append] at hown1
  have hne : v1.ownBlock ≠ some b := by
    rcases hat1 with h | h
    · rw [h]; exact hO.ne
    · rw [h]; have := hO.lt; intro e; injection e with e; omega
  have hO1 := hO.store hgrow1 hown1 hne
  have hc1 : w1.cell? ⟨b, 0, none⟩ = some v := (World.cell?_of_block (hgrow1.block b hO.lt (fun e => hO.ne e.symm))).trans hc
  have hf1 : w1.frozen? ⟨b, 0, none⟩ = false := (World.frozen?_of_block (hgrow1.block b hO.lt (fun e => hO.ne e.symm))).trans hf
  have hpost : NumPost b v (bs ++ s) w (.returned (.pointer (some ⟨b, 0, none⟩))) (w1.setCell ⟨b, 0, none⟩ v1) := by
    refine ⟨rfl, v1, hO1, ((Mod.refl (fun k => k = b ∨ v.ownBlock = some k) _).grown hgrow1 (fun k hk _ => Or.inr hk)).setCell (p := ⟨b, 0, none⟩) (fun _ => Or.inl rfl) _, ?_⟩
    rcases hat1 with h | h
    · exact .inl h
    · right; intro k hk; rw [h] at hk; injection hk with hk; omega
  have Hp := Lib.hid hpost
  clear hpost hO1 hgrow1 hat1 hc hf
  rcases hown1.2 with ⟨rfl, _⟩ | ⟨g, cap, cur, rfl, _⟩
  · clear hown1 hne
    go_wp2
    go_ret
    exact Hp.out
  · clear hown1 hne
    rw [List.length_append] at Hp ⊢
    go_wp2
    go_ret
    exact Hp.out

theorem NumPost.trans {b : Nat} {v v1 : Value} {out : List UInt8} {w w1 w2 : World} {r : Ending} (hM : Mod (fun k => k = b ∨ v.ownBlock = some k) w w1) (hv : v1.ownBlock = v.ownBlock ∨ ∀ k, v1.ownBlock = some k → w.heap.size ≤ k)
    (h : NumPost b v1 out w1 r w2) : NumPost b v out w r w2 := by
  obtain ⟨hr, v2, hO, hM2, hv2⟩ := h
  refine ⟨hr, v2, hO, hM.trans hM2 ?_, ?_⟩
  · intro i hi h
    rcases h with h | h
    · exact .inl h
    · rcases hv with h' | h'
      · exact .inr (h' ▸ h)
      · have := h' i h; omega
  · rcases hv2 with h2 | h2
    · rw [h2]; exact hv
    · right; intro k hk; have := h2 k hk; have := hM.size; omega

theorem numL_len (x : Int) (hx : x ≤ 18446744073709551615) : (numL x).length ≤ 9 := by
  have := beBytes_len 8 x.toNat (by simp; omega)
  simp [numL]; omega

set_option maxHeartbeats 400000 in
theorem text_any (b : Nat) (v : Value) (bs s : List UInt8) (w : World) (hO : OutAt 105 5 w b v bs) (hlen : bs.length ≤ 1099511627776) (hs : s.length ≤ 549755813888) :
    Calls Tryd.prog 72 #[.pointer (some ⟨b, 0, none⟩), .string ⟨s.toArray⟩] w (NumPost b v (bs ++ (numL s.length ++ s)) w) := by
  go_enter Tryd.func72, Tryd.ntmps72
  go_wp2_with fail
  refine (num_any s.length b v bs w (by omega) (by omega) hO hlen).mono ?_
  rintro e w1 ⟨rfl, v1, hO1, hM1, hv1⟩
  have hl := numL_len s.length (by omega)
  go_wp2_with fail
  refine (raw_any b v1 (bs ++ numL s.length) s w1 hO1 (by simp; omega)).mono ?_
  intro e w2 h2
  have h3 := NumPost.trans hM1 hv1 h2
  rw [List.append_assoc] at h3
  have he := h3.1
  have Hp := Lib.hid h3
  clear h2 h3 hO1 hM1 hv1 hO
  subst he
  go_wp2
  go_ret
  exact Hp.out

end Go.Proofs.YtkejidmomnmdbaaDoor
