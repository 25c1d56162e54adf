/- SightMore's walk. -/
import Derived.Test.YtmoohefoilaigaaMq
import Derived.Deep.RegionLaw
import Derived.Deep.DeepCutAuto
import Derived.Deep.QuietTactic
import Derived.BigQuiet
import Derived.Deep.CutBlock
namespace Go.Proofs.Ytmoohefoilaigaa
open Go.RowKit Go.Shelf

/-- Cells that a region reads. -/
def RegM (xb cb gq k vb : Nat) (v1 v2 v3 v4 : Value) (W : World) : Prop := W.cell? ⟨xb, 4, none⟩ = some v1 ∧ W.cell? ⟨cb, 2, none⟩ = some v2 ∧ W.cell? ⟨gq, k, none⟩ = some v3 ∧ W.cell? ⟨vb, k, none⟩ = some v4
set_option maxRecDepth 100000 in
set_option maxHeartbeats 4000000 in
theorem more_walk (a0 : Option Addr) (len0 cap0 : Nat) (w : World) (hr : NumRow w a0 len0) : Calls Try.prog 9 #[.slice a0 len0 cap0] w (EnoughPost w) := by
  go_enter Try.func9, Try.ntmps9
  go_wp2_with fail
  refine (newUrn_any _ _ _ _ hr).mono ?_
  rintro e w1 ⟨rfl, hu1, hb1⟩
  have HB1 := Lib.hid hb1
  have HU1 := Lib.hid hu1
  clear hu1 hb1 hr
  go_wp2_with fail
  refine (lineOf_any _ 3 5 5 _ (by omega) (by omega) (by omega) (by omega) (by omega) (by omega) HU1.out).mono ?_
  rintro e w2 ⟨L, lv, vv, hand, ks, vis, lts, H, rfl, hlb, hok, hl3, hsm, hl5, htr, hH, hmk, -, hvv, -, hu2, hk2⟩
  obtain ⟨vh, vs, rfl, hhb, hsb⟩ := hlb
  obtain ⟨hb, hc, hcur, hsvs, rfl, -⟩ := id hhb
  obtain ⟨sb, sc, scur, slvs, rfl, -⟩ := id hsb
  obtain ⟨vb, vc, vcur, rfl, hvb⟩ := hvv
  have hg2 : w.heap.size < w2.heap.size := by have := HU1.out.size; have := hk2.size; omega
  have hne : handsOf L ≠ [] := List.ne_nil_of_mem (truth_hand htr H hH hmk)
  have HNE := Lib.hid hne
  have HTR := Lib.hid htr
  have HHH := Lib.hid hH
  have HOK := Lib.hid hok
  have HI := Lib.hid (TrueI.make (w := w) (vv := .slice (some ⟨vb, 0, none⟩) vis.length vc) (hand := hand) (lts := lts) hhb hsb hu2 (HB1.out.trans (hk2.below HB1.out.size (Nat.le_refl _))))
  clear hhb hsb hu2 hk2 hok HB1 HU1 htr hH hmk hne
  go_wp2_with fail
  refine (copyLine_any L hb hc sb sc _ HOK.out HI.out.1.2.1 HI.out.1.2.2.1).mono ?_
  rintro e w3 ⟨gh, ch, gq, cq, lvs, rfl, hhx, hox, hsx, hgh, hb3⟩
  obtain ⟨W, hW⟩ : ∃ W, W = (w2.alloc (.cells #[.slice (some ⟨hb, 0, none⟩) L.hands.length hc, .int .i64 L.worn, .int .i64 L.scr, .int .i64 L.total, .slice (some ⟨sb, 0, none⟩) L.squares.length sc] 25)).alloc (.cells #[.int .i64 hand, .string lts, .slice (some ⟨vb, 0, none⟩) vis.length vc] 32) := ⟨_, rfl⟩
  rw [← hW] at HI hox hsx hgh hb3
  have hWs : W.heap.size = w2.heap.size + 2 := by rw [hW]; simp
  have HVB := Lib.hid (show Blok W vb 3 vcur by rw [hW]; exact (hvb.1.alloc _).alloc _)
  have HVT := Lib.hid hvb.2
  have HU3 := Lib.hid (HI.out.2.2.keep hb3 HI.out.2.2.size)
  have HK3 := Lib.hid (Kg.of_below (g := w.heap.size) hb3)
  have HHX := Lib.hid hhx
  have HOX := Lib.hid hox
  have HSX := Lib.hid hsx
  have hz3 := hb3.size
  clear hhx hox hsx hb3 hW
  go_wp2_with fail
  refine (up_any _ _ _ (by omega) (HU3.out.alloc _)).mono ?_
  rintro e w4 ⟨r, rfl, hr4, hu4, hk4⟩
  go_upto_block 0 with fail
  go_cut [] (fun wx => ∃ xh xs X, XI w.heap.size W wx w3.heap.size xh xs X ∧ X.ok ∧ More X L)
  case first =>
    have hcp : Cpy w.heap.size W w4 w3.heap.size gh ch gq cq lvs L := by
      have b3 := Blok.new w3 25 [.slice (some ⟨gh, 0, none⟩) L.hands.length ch, .int .i64 L.worn, .int .i64 L.scr, .int .i64 L.total, .slice (some ⟨gq, 0, none⟩) L.squares.length cq]
      have hb := (Below.refl w3.heap.size w3).alloc (Nat.le_refl _) (.cells #[.slice (some ⟨gh, 0, none⟩) L.hands.length ch, .int .i64 L.worn, .int .i64 L.scr, .int .i64 L.total, .slice (some ⟨gq, 0, none⟩) L.squares.length cq] 25)
      have hc : Cpy w.heap.size W (w3.alloc (.cells #[.slice (some ⟨gh, 0, none⟩) L.hands.length ch, .int .i64 L.worn, .int .i64 L.scr, .int .i64 L.total, .slice (some ⟨gq, 0, none⟩) L.squares.length cq] 25)) w3.heap.size gh ch gq cq lvs L :=
        ⟨HK3.out.alloc _, HU3.out.alloc _, b3, HHX.out.below hb, own_mono (own_below HOX.out hb (Nat.le_refl _)) (by omega), ⟨HSX.out.1, fun k q v h1 h2 => own_mono (own_below (HSX.out.2.1 k q v h1 h2) hb (Nat.le_refl _)) (by omega), HSX.out.2.2⟩, hz3⟩
      exact hc.kg hk4 hu4
    have HCP := Lib.hid hcp
    have HXI := Lib.hid (hcp.xi HOK.out.2.2.2.2.2.2.1)
    have c0 : w4.cell? ⟨w3.heap.size, 0, none⟩ = some (.slice (some ⟨gh, 0, none⟩) L.hands.length ch) := hcp.2.2.1.cell 0
    have c1 : w4.cell? ⟨w3.heap.size, 1, none⟩ = some (.int .i64 L.worn) := hcp.2.2.1.cell 1
    have c2 : w4.cell? ⟨w3.heap.size, 2, none⟩ = some (.int .i64 L.scr) := hcp.2.2.1.cell 2
    have c3 : w4.cell? ⟨w3.heap.size, 3, none⟩ = some (.int .i64 L.total) := hcp.2.2.1.cell 3
    have c4 : w4.cell? ⟨w3.heap.size, 4, none⟩ = some (.slice (some ⟨gq, 0, none⟩) L.squares.length cq) := hcp.2.2.1.cell 4
    have HU4 := Lib.hid hu4
    have t40 := HOK.out.2.2.2.2.2.1
    have w10 := HOK.out.2.2.2.1
    have s10 := HOK.out.2.2.2.2.1
    clear hcp HU3 HK3 HHX HOX HSX hu4 hk4
    have hr4' : r = 0 ∨ r = 1 ∨ r = 2 ∨ r = 3 := by omega
    clear hr4
    rcases hr4' with rfl | rfl | rfl | rfl
    · clear c0 c1 c2 c3
      have hn8 : L.squares.length ≤ 8 := HOK.out.2.2.2.2.2.2.2.1
      have hn1 : 1 ≤ L.squares.length := HOK.out.2.2.2.2.2.2.1
      go_wp2_with fail
      refine (up_any _ _ _ (by omega) HU4.out).mono ?_
      rintro e w5 ⟨k, rfl, hk, hu5, hk5⟩
      have HU5 := Lib.hid hu5
      have HCP5 := Lib.hid (HCP.out.kg hk5 hu5)
      clear hu5 hk5 HCP HXI c4
      go_wp2_with fail
      refine (up_any _ _ _ (by omega) HU5.out).mono ?_
      rintro e w6 ⟨t, rfl, ht, hu6, hk6⟩
      have HCP6 := Lib.hid (HCP5.out.kg hk6 hu6)
      clear hu6 hk6 HCP5
      have hkl : k < L.squares.length := by omega
      have htl : t < 32 := by omega
      have hkv : k < lvs.length := by rw [HCP6.out.2.2.2.2.2.1.1]; exact hkl
      obtain ⟨A, c, hAc⟩ := own_slice (HCP6.out.2.2.2.2.2.1.2.1 k L.squares[k] lvs[k] (List.getElem?_eq_getElem hkl) (List.getElem?_eq_getElem hkv))
      have c4 : w6.cell? ⟨w3.heap.size, 4, none⟩ = some (.slice (some ⟨gq, 0, none⟩) L.squares.length cq) := HCP6.out.2.2.1.cell 4
      obtain ⟨nq, hnq⟩ : ∃ nq, nq = L.squares[k].length := ⟨_, rfl⟩
      have d1 : w6.cell? ⟨gq, k, none⟩ = some (.slice A nq c) := by
        rw [HCP6.out.2.2.2.2.1.cellAt k (by omega), List.getElem?_eq_getElem hkv, hAc, hnq]
      have HLV := Lib.hid (show lvs[k]? = some (.slice A nq c) by rw [List.getElem?_eq_getElem hkv, hAc, hnq])
      have HNQ := Lib.hid hnq
      have hk0 : (0 : Int) ≤ (k : Int) := by omega
      have hk1 : (k : Int) < (L.squares.length : Int) := by omega
      have hnq4 : nq ≤ 4 := by rw [hnq]; exact (HOK.out.2.2.2.2.2.2.2.2 _ (List.getElem_mem hkl)).1
      clear hAc hnq hk ht
      by_cases h4 : nq < 4
      · have hvl : k < vis.length := by rw [HTR.out.len']; exact hkl
        have hkk : k < ks.length := by rw [HTR.out.len]; exact hkl
        obtain ⟨s, -, hsq⟩ := HTR.out.sq k H L.squares[k] ks[k] vis[k] HHH.out (List.getElem?_eq_getElem hkl) (List.getElem?_eq_getElem hkk) (List.getElem?_eq_getElem hvl)
        obtain ⟨v, hv⟩ : ∃ v, v = vis[k] := ⟨_, rfl⟩
        rw [← hv] at hsq
        have hv32 : v < 32 := hsq.2.1
        have HQ32 := Lib.hid (show q32 L.squares[k] from fun x hx => by
          obtain ⟨g1, g2⟩ := hsq.2.2.2.2 x hx
          exact ⟨g1, by rw [g2]; exact Nat.lt_of_le_of_lt Nat.and_le_left hv32⟩)
        have hxok := light_ok hv32 htl
        have HXOK := Lib.hid hxok
        have hv2 : t < 32 ∧ v &&& t < 32 := ⟨htl, Nat.lt_of_le_of_lt Nat.and_le_left hv32⟩
        have HV2 := Lib.hid hv2
        have cv : w6.cell? ⟨vb, k, none⟩ = some (.int .i64 v) := by
          have b6 := HVB.out.kg HCP6.out.1 ((HI.out.2.2.ne HVB.out (by decide)))
          have e1 := HVT.out
          have e2 : vcur[k]? = some (.int .i64 v) := by
            have e3 : (vcur.take vis.length)[k]? = vcur[k]? := by rw [List.getElem?_take, if_pos hvl]
            rw [← e3, e1, List.getElem?_map, List.getElem?_eq_getElem hvl, hv]
            rfl
          rw [b6.cell, e2]
        have cc : w6.cell? ⟨w2.heap.size + 1, 2, none⟩ = some (.slice (some ⟨vb, 0, none⟩) vis.length vc) := (HI.out.kg HCP6.out.1 HCP6.out.2.1 (Nat.le_refl _)).2.1.cell 2
        have zc : w2.heap.size + 1 < w6.heap.size := (HI.out.kg HCP6.out.1 HCP6.out.2.1 (Nat.le_refl _)).2.1.size
        have ea : bits .and .i64 (v : Int) (t : Int) = ((v &&& t : Nat) : Int) := and_lights v t hv32
        have hv0 : (k : Int) < (vis.length : Int) := by omega
        have zx : w3.heap.size < w6.heap.size := HCP6.out.2.2.1.size
        have zq : gq < w6.heap.size := (HCP6.out.2.2.2.2.1.lt gq rfl).2
        have zv : vb < w6.heap.size := (HVB.out.kg HCP6.out.1 ((HI.out.2.2.ne HVB.out (by decide)))).size
        obtain ⟨il, hil, hil0, hil1, hil2⟩ := info_parts info_cplight
        have HIL := Lib.hid hil
        have HIL0 := Lib.hid hil0
        have HIL1 := Lib.hid hil1
        have HIL2 := Lib.hid hil2
        have HCPD := Lib.hid (HCP6.out.kg (Kg.refl _ w6).drew (show UrnAt w6.drew w.heap.size from HCP6.out.2.1))
        have HOWN := Lib.hid (show w6.drew.ownsRow W.heap.size 27 2 (.slice A nq c) nq (ltCells L.squares[k]) by rw [HNQ.out]; exact HCPD.out.2.2.2.2.2.1.2.1 k _ _ (List.getElem?_eq_getElem hkl) (by rw [← HNQ.out]; exact HLV.out))
        have hbs : W.heap.size ≤ w6.heap.size := HCP6.out.1.size
        clear hsq hv hxok hv2 hil hil0 hil1 hil2 hkk
        go_wp2_with fail
        have hS : RegM w3.heap.size (w2.heap.size + 1) gq k vb (.slice (some ⟨gq, 0, none⟩) L.squares.length cq) (.slice (some ⟨vb, 0, none⟩) vis.length vc) (.slice A nq c) (.int .i64 v) w6.drew := ⟨c4, cc, d1, cv⟩
        refine wp_region_t (RegM w3.heap.size (w2.heap.size + 1) gq k vb (.slice (some ⟨gq, 0, none⟩) L.squares.length cq) (.slice (some ⟨vb, 0, none⟩) vis.length vc) (.slice A nq c) (.int .i64 v)) (fun j => j == 20) (by kernel_rfl) ?_
        refine wpAnyT_take (i := 0) (v := ?_) (by simp only [List.getElem?_toArray, List.getElem?_cons_zero, List.getElem?_cons_succ]; rfl) (by kernel_rfl) (by kernel_rfl) (by kernel_rfl) (by kernel_rfl) (by exact fun _ _ _ h => h) (Or.inl ⟨by rfl, ?hy0⟩) hS ?rest0
        case hy0 => (intro W' hSW; obtain ⟨x1, x2, x3, x4⟩ := hSW; go_simp; try with_reducible rfl)
        try simp only [Act.put, List.setIfInBounds_toArray, List.set_cons_zero, List.set_cons_succ]
        refine wpAnyT_take (i := 1) (v := ?_) (by simp only [List.getElem?_toArray, List.getElem?_cons_zero, List.getElem?_cons_succ]; rfl) (by kernel_rfl) (by kernel_rfl) (by kernel_rfl) (by kernel_rfl) (by exact fun _ _ _ h => h) (Or.inl ⟨by rfl, ?hy1⟩) hS ?rest1
        case hy1 => (intro W' hSW; obtain ⟨x1, x2, x3, x4⟩ := hSW; go_simp; try with_reducible rfl)
        try simp only [Act.put, List.setIfInBounds_toArray, List.set_cons_zero, List.set_cons_succ]
        refine wpAnyT_take (i := 2) (v := ?_) (by simp only [List.getElem?_toArray, List.getElem?_cons_zero, List.getElem?_cons_succ]; rfl) (by kernel_rfl) (by kernel_rfl) (by kernel_rfl) (by kernel_rfl) (by exact fun _ _ _ h => h) (Or.inl ⟨by rfl, ?hy2⟩) hS ?rest2
        case hy2 => (intro W' hSW; obtain ⟨x1, x2, x3, x4⟩ := hSW; go_simp; try with_reducible rfl)
        try simp only [Act.put, List.setIfInBounds_toArray, List.set_cons_zero, List.set_cons_succ]
        refine wpAnyT_take (i := 3) (v := ?_) (by simp only [List.getElem?_toArray, List.getElem?_cons_zero, List.getElem?_cons_succ]; rfl) (by kernel_rfl) (by kernel_rfl) (by kernel_rfl) (by kernel_rfl) (by exact fun _ _ _ h => h) (Or.inl ⟨by rfl, ?hy3⟩) hS ?rest3
        case hy3 => (intro W' hSW; obtain ⟨x1, x2, x3, x4⟩ := hSW; go_simp; try with_reducible rfl)
        try simp only [Act.put, List.setIfInBounds_toArray, List.set_cons_zero, List.set_cons_succ]
        refine wpAnyT_take (i := 4) (v := ?_) (by simp only [List.getElem?_toArray, List.getElem?_cons_zero, List.getElem?_cons_succ]; rfl) (by kernel_rfl) (by kernel_rfl) (by kernel_rfl) (by kernel_rfl) (by exact fun _ _ _ h => h) (Or.inl ⟨by rfl, ?hy4⟩) hS ?rest4
        case hy4 => (intro W' hSW; obtain ⟨x1, x2, x3, x4⟩ := hSW; go_simp; try with_reducible rfl)
        try simp only [Act.put, List.setIfInBounds_toArray, List.set_cons_zero, List.set_cons_succ]
        refine wpAnyT_take (i := 5) (v := ?_) (by simp only [List.getElem?_toArray, List.getElem?_cons_zero, List.getElem?_cons_succ]; rfl) (by kernel_rfl) (by kernel_rfl) (by kernel_rfl) (by kernel_rfl) (by exact fun _ _ _ h => h) (Or.inl ⟨by rfl, ?hy5⟩) hS ?rest5
        case hy5 => (intro W' hSW; obtain ⟨x1, x2, x3, x4⟩ := hSW; go_simp; try with_reducible rfl)
        try simp only [Act.put, List.setIfInBounds_toArray, List.set_cons_zero, List.set_cons_succ]
        refine wpAnyT_take (i := 6) (v := ?_) (by simp only [List.getElem?_toArray, List.getElem?_cons_zero, List.getElem?_cons_succ]; rfl) (by kernel_rfl) (by kernel_rfl) (by kernel_rfl) (by kernel_rfl) (by exact fun _ _ _ h => h) (Or.inl ⟨by rfl, ?hy6⟩) hS ?rest6
        case hy6 => (intro W' hSW; obtain ⟨x1, x2, x3, x4⟩ := hSW; go_simp; try with_reducible rfl)
        try simp only [Act.put, List.setIfInBounds_toArray, List.set_cons_zero, List.set_cons_succ]
        refine wpAnyT_take (i := 7) (v := ?_) (by simp only [List.getElem?_toArray, List.getElem?_cons_zero, List.getElem?_cons_succ]; rfl) (by kernel_rfl) (by kernel_rfl) (by kernel_rfl) (by kernel_rfl) (by exact fun _ _ _ h => h) (Or.inl ⟨by rfl, ?hy7⟩) hS ?rest7
        case hy7 => (intro W' hSW; obtain ⟨x1, x2, x3, x4⟩ := hSW; go_simp; try with_reducible rfl)
        try simp only [Act.put, List.setIfInBounds_toArray, List.set_cons_zero, List.set_cons_succ]
        refine wpAnyT_take (i := 8) (v := ?_) (by simp only [List.getElem?_toArray, List.getElem?_cons_zero, List.getElem?_cons_succ]; rfl) (by kernel_rfl) (by kernel_rfl) (by kernel_rfl) (by kernel_rfl) (by exact fun _ _ _ h => h) (Or.inl ⟨by rfl, ?hy8⟩) hS ?rest8
        case hy8 => (intro W' hSW; obtain ⟨x1, x2, x3, x4⟩ := hSW; go_simp; try with_reducible rfl)
        try simp only [Act.put, List.setIfInBounds_toArray, List.set_cons_zero, List.set_cons_succ]
        refine wpAnyT_take (i := 9) (v := ?_) (by simp only [List.getElem?_toArray, List.getElem?_cons_zero, List.getElem?_cons_succ]; rfl) (by kernel_rfl) (by kernel_rfl) (by kernel_rfl) (by kernel_rfl) (by exact fun _ _ _ h => h) (Or.inl ⟨by rfl, ?hy9⟩) hS ?rest9
        case hy9 => (intro W' hSW; obtain ⟨x1, x2, x3, x4⟩ := hSW; go_simp; try with_reducible rfl)
        try simp only [Act.put, List.setIfInBounds_toArray, List.set_cons_zero, List.set_cons_succ]
        refine wpAnyT_take (i := 10) (v := ?_) (by simp only [List.getElem?_toArray, List.getElem?_cons_zero, List.getElem?_cons_succ]; rfl) (by kernel_rfl) (by kernel_rfl) (by kernel_rfl) (by kernel_rfl) (by exact fun _ _ _ h => h) (Or.inl ⟨by rfl, ?hy10⟩) hS ?rest10
        case hy10 => (intro W' hSW; obtain ⟨x1, x2, x3, x4⟩ := hSW; go_simp; try with_reducible rfl)
        try simp only [Act.put, List.setIfInBounds_toArray, List.set_cons_zero, List.set_cons_succ]
        refine wpAnyT_take (i := 11) (v := ?_) (by simp only [List.getElem?_toArray, List.getElem?_cons_zero, List.getElem?_cons_succ]; rfl) (by kernel_rfl) (by kernel_rfl) (by kernel_rfl) (by kernel_rfl) (by exact fun _ _ _ h => h) (Or.inl ⟨by rfl, ?hy11⟩) hS ?rest11
        case hy11 => (intro W' hSW; obtain ⟨x1, x2, x3, x4⟩ := hSW; go_simp; try with_reducible rfl)
        try simp only [Act.put, List.setIfInBounds_toArray, List.set_cons_zero, List.set_cons_succ]
        refine wpAnyT_take (i := 12) (v := ?_) (by simp only [List.getElem?_toArray, List.getElem?_cons_zero, List.getElem?_cons_succ]; rfl) (by kernel_rfl) (by kernel_rfl) (by kernel_rfl) (by kernel_rfl) (by exact fun _ _ _ h => h) (Or.inl ⟨by rfl, ?hy12⟩) hS ?rest12
        case hy12 => (intro W' hSW; obtain ⟨x1, x2, x3, x4⟩ := hSW; go_simp; try with_reducible rfl)
        try simp only [Act.put, List.setIfInBounds_toArray, List.set_cons_zero, List.set_cons_succ]
        refine wpAnyT_take (i := 13) (v := ?_) (by simp only [List.getElem?_toArray, List.getElem?_cons_zero, List.getElem?_cons_succ]; rfl) (by kernel_rfl) (by kernel_rfl) (by kernel_rfl) (by kernel_rfl) (by exact fun _ _ _ h => h) (Or.inl ⟨by rfl, ?hy13⟩) hS ?rest13
        case hy13 => (intro W' hSW; obtain ⟨x1, x2, x3, x4⟩ := hSW; go_simp; try with_reducible rfl)
        try simp only [Act.put, List.setIfInBounds_toArray, List.set_cons_zero, List.set_cons_succ]
        refine wpAnyT_take (i := 14) (v := ?_) (by simp only [List.getElem?_toArray, List.getElem?_cons_zero, List.getElem?_cons_succ]; rfl) (by kernel_rfl) (by kernel_rfl) (by kernel_rfl) (by kernel_rfl) (by exact fun _ _ _ h => h) (Or.inl ⟨by rfl, ?hy14⟩) hS ?rest14
        case hy14 => (intro W' hSW; obtain ⟨x1, x2, x3, x4⟩ := hSW; go_simp; try with_reducible rfl)
        try simp only [Act.put, List.setIfInBounds_toArray, List.set_cons_zero, List.set_cons_succ]
        refine wpAnyT_take (i := 15) (v := ?_) (by simp only [List.getElem?_toArray, List.getElem?_cons_zero, List.getElem?_cons_succ]; rfl) (by kernel_rfl) (by kernel_rfl) (by kernel_rfl) (by kernel_rfl) (by exact fun _ _ _ h => h) (Or.inl ⟨by rfl, ?hy15⟩) hS ?rest15
        case hy15 => (intro W' hSW; obtain ⟨x1, x2, x3, x4⟩ := hSW; go_simp; try with_reducible rfl)
        try simp only [Act.put, List.setIfInBounds_toArray, List.set_cons_zero, List.set_cons_succ]
        refine wpAnyT_take (i := 16) (v := ?_) (by simp only [List.getElem?_toArray, List.getElem?_cons_zero, List.getElem?_cons_succ]; rfl) (by kernel_rfl) (by kernel_rfl) (by kernel_rfl) (by kernel_rfl) (by exact fun _ _ _ h => h) (Or.inl ⟨by rfl, ?hy16⟩) hS ?rest16
        case hy16 => (intro W' hSW; obtain ⟨x1, x2, x3, x4⟩ := hSW; go_simp; try with_reducible rfl)
        try simp only [Act.put, List.setIfInBounds_toArray, List.set_cons_zero, List.set_cons_succ]
        refine wpAnyT_ready (rs := [17]) (by kernel_rfl) (by simp) ?_
        refine AllReadyT.cons (by simp only [List.getElem?_toArray, List.getElem?_cons_zero, List.getElem?_cons_succ]; rfl) (fun K hK => ?_) AllReadyT.nil
        go_simp
        have hbO := (Below.refl w6.heap.size w6.drew).alloc (Nat.le_refl _) (.cells #[.int .i64 t, .int .i64 ((v &&& t : Nat) : Int)] 27)
        refine hK.out _ _ (fun _ => ⟨bcell hbO zx c4, bcell hbO zc cc, bcell hbO zq d1, bcell hbO zv cv⟩) ?_
        clear hK K
        try simp only [Act.put, List.setIfInBounds_toArray, List.set_cons_zero, List.set_cons_succ]
        refine wpAnyT_ready (rs := [18]) (by kernel_rfl) (by simp) ?_
        refine AllReadyT.cons (by simp only [List.getElem?_toArray, List.getElem?_cons_zero, List.getElem?_cons_succ]; rfl) (fun K hK => ?_) AllReadyT.nil
        refine step_append_lies (w6.drew.alloc (.cells #[.int .i64 t, .int .i64 ((v &&& t : Nat) : Int)] 27)) (by rfl) (.tmp 62) (.tmp 72) 39 (by rfl) W.heap.size 27 il (.agg #[.int .i64 0, .int .i64 0]) 2 16 Try.underlying39 HIL.out HIL0.out HIL1.out HIL2.out rfl (by decide) (.slice A nq c) nq (ltCells L.squares[k]) (by rfl) (HOWN.out.alloc (.cells #[.int .i64 t, .int .i64 ((v &&& t : Nat) : Int)] 27)) ⟨w6.heap.size, 0, none⟩ 1 1 [.int .i64 t, .int .i64 ((v &&& t : Nat) : Int)] (by rfl) (by rfl) (World.news_of_block (heap_alloc_new w6.drew (.cells #[.int .i64 t, .int .i64 ((v &&& t : Nat) : Int)] 27))) (by simp [Value.oneCell']) (by omega) (by unfold maxLen; omega) (by omega) (by simp; omega) (w6.heap.size + 1) (by simp) ?_
        intro g8 c8 w8 hown8 hgrow8 hat8 hlt8
        have hq8 := (HCPD.out.2.2.2.2.1.alloc (.cells #[.int .i64 t, .int .i64 ((v &&& t : Nat) : Int)] 27)).kept hgrow8 (own_own_ne (HCPD.out.2.2.2.2.1.alloc (.cells #[.int .i64 t, .int .i64 ((v &&& t : Nat) : Int)] 27)) (HOWN.out.alloc (.cells #[.int .i64 t, .int .i64 ((v &&& t : Nat) : Int)] 27)) (by decide))
        have s8 : w8.cell? ⟨gq, k, none⟩ = some (.slice A nq c) := by rw [hq8.cellAt k (by omega)]; exact HLV.out
        have f8 := hq8.frozenAt k
        have hcw := HI.out.kg HCP6.out.1 HCP6.out.2.1 (Nat.le_refl _)
        have bvb := HVB.out.kg HCP6.out.1 ((HI.out.2.2.ne HVB.out (by decide)))
        have x8 := ((HCPD.out.2.2.1.alloc (.cells #[.int .i64 t, .int .i64 ((v &&& t : Nat) : Int)] 27)).grown hgrow8 (own_ne_row (HOWN.out.alloc (.cells #[.int .i64 t, .int .i64 ((v &&& t : Nat) : Int)] 27)) (HCPD.out.2.2.1.alloc (.cells #[.int .i64 t, .int .i64 ((v &&& t : Nat) : Int)] 27)) (by decide))).cell 4
        have y8 := (((show Blok w6.drew _ _ _ from hcw.2.1).alloc (.cells #[.int .i64 t, .int .i64 ((v &&& t : Nat) : Int)] 27)).grown hgrow8 (own_ne_row (HOWN.out.alloc (.cells #[.int .i64 t, .int .i64 ((v &&& t : Nat) : Int)] 27)) ((show Blok w6.drew _ _ _ from hcw.2.1).alloc (.cells #[.int .i64 t, .int .i64 ((v &&& t : Nat) : Int)] 27)) (by decide))).cell 2
        have z8 : w8.cell? ⟨vb, k, none⟩ = some (.int .i64 v) := by rw [((((show Blok w6.drew _ _ _ from bvb).alloc (.cells #[.int .i64 t, .int .i64 ((v &&& t : Nat) : Int)] 27)).grown hgrow8 (own_ne_row (HOWN.out.alloc (.cells #[.int .i64 t, .int .i64 ((v &&& t : Nat) : Int)] 27)) ((show Blok w6.drew _ _ _ from bvb).alloc (.cells #[.int .i64 t, .int .i64 ((v &&& t : Nat) : Int)] 27)) (by decide))).cell k), ← bvb.cell k]; exact cv
        have hS8 : RegM w3.heap.size (w2.heap.size + 1) gq k vb (.slice (some ⟨gq, 0, none⟩) L.squares.length cq) (.slice (some ⟨vb, 0, none⟩) vis.length vc) (.slice A nq c) (.int .i64 v) w8 := ⟨x8, y8, s8, z8⟩
        try go_simp
        refine hK.out _ _ (fun _ => hS8) ?_
        clear hK K hS hbO hcw bvb x8 y8 z8 hq8
        try simp only [Act.put, List.setIfInBounds_toArray, List.set_cons_zero, List.set_cons_succ]
        refine wpAnyT_take (i := 19) (v := ?_) (by simp only [List.getElem?_toArray, List.getElem?_cons_zero, List.getElem?_cons_succ]; rfl) (by kernel_rfl) (by kernel_rfl) (by kernel_rfl) (by kernel_rfl) (by exact fun _ _ _ h => h) (Or.inl ⟨by rfl, ?hy19⟩) hS8 ?rest19
        case hy19 => (intro W' hSW; obtain ⟨x1, x2, x3, x4⟩ := hSW; go_simp; try with_reducible rfl)
        try simp only [Act.put, List.setIfInBounds_toArray, List.set_cons_zero, List.set_cons_succ]
        refine wpAnyT_ready (rs := [20]) (by kernel_rfl) (by simp) ?_
        refine AllReadyT.cons (by simp only [List.getElem?_toArray, List.getElem?_cons_zero, List.getElem?_cons_succ]; rfl) (fun K hK => ?_) AllReadyT.nil
        go_simp
        refine hK.out _ _ (fun h => by simp at h) ?_
        clear hK K hS8
        try simp only [Act.put, List.setIfInBounds_toArray, List.set_cons_zero, List.set_cons_succ]
        refine wpAnyT_done (by kernel_rfl) ?_ _
        go_wp2_with fail
        go_meet
        have hnq := HNQ.out
        subst hnq
        exact ⟨_, _, L.withSquare k (L.squares[k] ++ [⟨t, v &&& t⟩]), Cpy.light HCPD.out hkl (List.getElem?_eq_getElem hkl) HLV.out ⟨t, v &&& t⟩ hgrow8 hown8, Line.ok_light HOK.out (List.getElem?_eq_getElem hkl) h4 _ HXOK.out, More.light k _ _ (List.getElem?_eq_getElem hkl) HQ32.out HV2.out⟩
      · go_wp2_with fail
        go_meet
        exact ⟨_, _, L, HCP6.out.xi hn1, HOK.out, More.refl L⟩
    · clear c0 c1 c2 c4 HCP
      go_wp2_with fail
      refine (up_any _ _ _ (by omega) HU4.out).mono ?_
      rintro e w5 ⟨t, rfl, ht, hu5, hk5⟩
      have HXI5 := Lib.hid (HXI.out.kg hk5 hu5)
      have f5 := HXI5.out.2.2.1.free 3
      have c5 : w5.cell? ⟨w3.heap.size, 3, none⟩ = some (.int .i64 L.total) := HXI5.out.2.2.1.cell 3
      have htt : t ≤ L.total := by omega
      clear hu5 hk5 HXI ht
      go_wp2_with fail
      go_meet
      exact ⟨_, _, L.withTotal t, HXI5.out.total t, Line.ok_total HOK.out t (by omega), More.total' t htt⟩
    · clear c0 c3 c4 HCP
      have e1 : IntKind.i64.wrap ((L.worn : Int) + 1) = (L.worn : Int) + 1 := IntWalk.i64_in _ (by omega)
      have e2 : IntKind.i64.wrap ((L.scr : Int) + 1) = (L.scr : Int) + 1 := IntWalk.i64_in _ (by omega)
      have E1 := Lib.hid e1
      have E2 := Lib.hid e2
      clear e1 e2
      go_wp2_with fail
      have HE1 := Lib.hid (show IntKind.i64.wrap ((L.worn : Int) + 1) ≤ 9223372036854775807 by rw [E1.out]; omega)
      have HE2 := Lib.hid (show IntKind.i64.wrap ((L.scr : Int) + 1) ≤ 9223372036854775807 by rw [E2.out]; omega)
      have HU4D := Lib.hid (show UrnAt w4.drew w.heap.size from HU4.out)
      go_region_law (first
        | (go_simp; go_at_call 42; (with_reducible refine (up_any w.heap.size (IntKind.i64.wrap ((L.worn : Int) + 1)) w4.drew HE1.out HU4D.out).mono ?_); rintro e w5 ⟨t1, rfl, ht1, hu5, hk5⟩; rw [E1.out] at ht1; have HT1 := Lib.hid ht1; clear ht1; have HXI5 := Lib.hid (HXI.out.kg ((Kg.refl _ w4).drew.trans hk5) hu5); have HU5 := Lib.hid hu5; have d1 : w5.cell? ⟨w3.heap.size, 2, none⟩ = some (.int .i64 L.scr) := HXI5.out.2.2.1.cell 2; clear hu5 hk5)
        | (go_simp; go_at_call 42; (with_reducible refine (up_any w.heap.size (IntKind.i64.wrap ((L.scr : Int) + 1)) w5 HE2.out HU5.out).mono ?_); rintro e w6 ⟨t2, rfl, ht2, hu6, hk6⟩; rw [E2.out] at ht2; have HT2 := Lib.hid ht2; clear ht2; have HXI6 := Lib.hid (HXI5.out.kg hk6 hu6); have d2 : w6.cell? ⟨w3.heap.size, 2, none⟩ = some (.int .i64 L.scr) := HXI6.out.2.2.1.cell 2; have d3 : w6.cell? ⟨w3.heap.size, 1, none⟩ = some (.int .i64 L.worn) := HXI6.out.2.2.1.cell 1; have f1 := HXI6.out.2.2.1.free 1; have f2 := HXI6.out.2.2.1.free 2; clear hu6 hk6))
      all_goals
        go_wp2_with fail
        go_meet
        have b1 := HT1.out
        have b2 := HT2.out
        exact ⟨_, _, L.withMarks t1 t2, (HXI6.out.worn t1).scr t2, Line.ok_marks HOK.out t1 t2 (by omega) (by omega), More.marks HOK.out t1 t2 (by omega) (by omega)⟩
    · clear c1 c2 c3 c4 HCP
      have hL4 : L.hands.length ≤ 4 := HOK.out.2.1
      have hL1 : 1 ≤ L.hands.length := HOK.out.1
      have HU4D := Lib.hid (show UrnAt w4.drew w.heap.size from HU4.out)
      have HE := Lib.hid (show (L.hands.length : Int) ≤ 9223372036854775807 by omega)
      go_wp2_with fail
      go_region_law ((go_simp; go_at_call 42; (with_reducible refine (up_any w.heap.size (L.hands.length : Int) w4.drew HE.out HU4D.out).mono ?_); rintro e w5 ⟨t, rfl, ht, hu5, hk5⟩; have htl : t < L.hands.length := (by omega); have htl1 : (0 : Int) ≤ (t : Int) := (by omega); have htl2 : (t : Int) < (L.hands.length : Int) := (by omega); have HXI5 := Lib.hid (HXI.out.kg ((Kg.refl _ w4).drew.trans hk5) hu5); obtain ⟨b', c', he, hat⟩ := HXI5.out.2.2.2.1.at_; (injection he with he1 he2 he3); (injection he1 with he1); (injection he1 with he1); obtain ⟨sv, hsv, d1, d2, d3⟩ := hat t L.hands[t] (List.getElem?_eq_getElem htl); rw [← he1] at d1 d2 d3; obtain ⟨bs, cs, scur', rfl, -⟩ := id hsv; have HSV := Lib.hid hsv; have f5 := HXI5.out.2.2.1.free 0; have d5 : w5.cell? ⟨w3.heap.size, 0, none⟩ = some (.slice (some ⟨gh, 0, none⟩) L.hands.length ch) := HXI5.out.2.2.1.cell 0; have z5 := HXI5.out.2.2.1.size; clear hu5 hk5 ht hat he1 he2 he3 hsv))
      all_goals
        go_wp2_with fail
        go_meet
        have hx := XI.hand HXI5.out (H := L.hands[t]) HSV.out
        rw [World.setCell_alloc_past _ _ _ _ z5] at hx
        exact ⟨_, _, L.withHand L.hands[t], hx, Line.ok_hand HOK.out (List.getElem?_eq_getElem htl), More.one t L.hands[t] (List.getElem?_eq_getElem htl)⟩
  case rest =>
    clear hu4 hk4 hr4 HU3 HK3 HHX HOX HSX HTR HHH hsm hvb hz3
    obtain ⟨xh, xs, X, hxi, hxok, hmore⟩ := hcut
    obtain ⟨xb', xc, xcur, xsvs, rfl, -⟩ := id hxi.2.2.2.1
    obtain ⟨xq, xqc, xqcur, xlvs, rfl, -⟩ := id hxi.2.2.2.2.1
    have HT := Lib.hid (Two.of HI.out hxi (Nat.le_refl _))
    have HXO := Lib.hid hxok
    have HM := Lib.hid hmore
    clear hxi hxok hmore HI
    have l0 : wc.cell? ⟨w2.heap.size, 0, none⟩ = some (.slice (some ⟨hb, 0, none⟩) L.hands.length hc) := HT.out.1.1.1.cell 0
    have l1 : wc.cell? ⟨w2.heap.size, 1, none⟩ = some (.int .i64 L.worn) := HT.out.1.1.1.cell 1
    have l2 : wc.cell? ⟨w2.heap.size, 2, none⟩ = some (.int .i64 L.scr) := HT.out.1.1.1.cell 2
    have l3 : wc.cell? ⟨w2.heap.size, 3, none⟩ = some (.int .i64 L.total) := HT.out.1.1.1.cell 3
    have l4 : wc.cell? ⟨w2.heap.size, 4, none⟩ = some (.slice (some ⟨sb, 0, none⟩) L.squares.length sc) := HT.out.1.1.1.cell 4
    go_wp2_with fail
    refine (letters_some Unit _ L _ HOK.out HT.out.lineL HNE.out).mono ?_
    rintro e w5 ⟨ua, rfl, hua, hb5⟩
    have HT5 := Lib.hid (HT.out.below hb5)
    have HA5 := Lib.hid hua
    obtain ⟨Aa, ca, rfl⟩ := own_slice hua
    clear hb5 hua HT l0 l1 l2 l3 l4
    have k0 : w5.cell? ⟨w3.heap.size, 0, none⟩ = some (.slice (some ⟨xb', 0, none⟩) X.hands.length xc) := HT5.out.2.1.cell 0
    have k1 : w5.cell? ⟨w3.heap.size, 1, none⟩ = some (.int .i64 X.worn) := HT5.out.2.1.cell 1
    have k2 : w5.cell? ⟨w3.heap.size, 2, none⟩ = some (.int .i64 X.scr) := HT5.out.2.1.cell 2
    have k3 : w5.cell? ⟨w3.heap.size, 3, none⟩ = some (.int .i64 X.total) := HT5.out.2.1.cell 3
    have k4 : w5.cell? ⟨w3.heap.size, 4, none⟩ = some (.slice (some ⟨xq, 0, none⟩) X.squares.length xqc) := HT5.out.2.1.cell 4
    by_cases hx : handsOf X = []
    · have HX := Lib.hid hx
      clear hx
      go_wp2_with fail
      refine (letters_none Unit _ X _ HXO.out HT5.out.lineX HX.out).mono ?_
      rintro e w6 ⟨rfl, hb6⟩
      have HT6 := Lib.hid (HT5.out.below hb6)
      clear hb6 HT5 HA5 k0 k1 k2 k3 k4
      have l0 : w6.cell? ⟨w2.heap.size, 0, none⟩ = some (.slice (some ⟨hb, 0, none⟩) L.hands.length hc) := HT6.out.1.1.1.cell 0
      have l1 : w6.cell? ⟨w2.heap.size, 1, none⟩ = some (.int .i64 L.worn) := HT6.out.1.1.1.cell 1
      have l2 : w6.cell? ⟨w2.heap.size, 2, none⟩ = some (.int .i64 L.scr) := HT6.out.1.1.1.cell 2
      have l3 : w6.cell? ⟨w2.heap.size, 3, none⟩ = some (.int .i64 L.total) := HT6.out.1.1.1.cell 3
      have l4 : w6.cell? ⟨w2.heap.size, 4, none⟩ = some (.slice (some ⟨sb, 0, none⟩) L.squares.length sc) := HT6.out.1.1.1.cell 4
      go_wp2_with fail
      refine (years_yes _ L _ HOK.out HT6.out.lineL HNE.out).mono ?_
      rintro e w7 ⟨rfl, hb7⟩
      have HT7 := Lib.hid ((HT6.out.below hb7).alloc (.cells #[.int .i64 (yearsOf L).1, .int .i64 (yearsOf L).2] 48))
      have HT7' := Lib.hid (HT6.out.below hb7)
      clear hb7 HT6 l0 l1 l2 l3 l4
      have k0 : w7.cell? ⟨w3.heap.size, 0, none⟩ = some (.slice (some ⟨xb', 0, none⟩) X.hands.length xc) := HT7'.out.2.1.cell 0
      have k1 : w7.cell? ⟨w3.heap.size, 1, none⟩ = some (.int .i64 X.worn) := HT7'.out.2.1.cell 1
      have k2 : w7.cell? ⟨w3.heap.size, 2, none⟩ = some (.int .i64 X.scr) := HT7'.out.2.1.cell 2
      have k3 : w7.cell? ⟨w3.heap.size, 3, none⟩ = some (.int .i64 X.total) := HT7'.out.2.1.cell 3
      have k4 : w7.cell? ⟨w3.heap.size, 4, none⟩ = some (.slice (some ⟨xq, 0, none⟩) X.squares.length xqc) := HT7'.out.2.1.cell 4
      have kz := HT7'.out.2.1.size
      go_wp2_with fail
      refine (years_none _ X _ HXO.out HT7.out.lineX HX.out).mono ?_
      rintro e w8 ⟨rfl, hb8⟩
      have HT8 := Lib.hid ((HT7.out.below hb8).alloc (.cells #[.int .i64 0, .int .i64 0] 48))
      clear hb8 HT7 HT7' k0 k1 k2 k3 k4
      go_wp2_with (go_at_call 14; refine (ready_any Unit _).mono ?_; rintro e w9 ⟨rfl, hb9⟩; have HB9 := Lib.hid hb9; clear hb9)
      go_ret
      exact ⟨rfl, HT8.out.1.1.2.2.2.trans (HB9.out.mono HT8.out.1.1.2.2.2.size)⟩
    · have HX := Lib.hid hx
      clear hx
      go_wp2_with fail
      refine (letters_some Unit _ X _ HXO.out HT5.out.lineX HX.out).mono ?_
      rintro e w6 ⟨ub, rfl, hub, hb6⟩
      have HT6 := Lib.hid (HT5.out.below hb6)
      have HA6 := Lib.hid (own_below HA5.out hb6 (Nat.le_refl _))
      have HB6 := Lib.hid hub
      obtain ⟨Ab, cb, rfl⟩ := own_slice hub
      clear hb6 hub HT5 HA5 k0 k1 k2 k3 k4
      have l0 : w6.cell? ⟨w2.heap.size, 0, none⟩ = some (.slice (some ⟨hb, 0, none⟩) L.hands.length hc) := HT6.out.1.1.1.cell 0
      have l1 : w6.cell? ⟨w2.heap.size, 1, none⟩ = some (.int .i64 L.worn) := HT6.out.1.1.1.cell 1
      have l2 : w6.cell? ⟨w2.heap.size, 2, none⟩ = some (.int .i64 L.scr) := HT6.out.1.1.1.cell 2
      have l3 : w6.cell? ⟨w2.heap.size, 3, none⟩ = some (.int .i64 L.total) := HT6.out.1.1.1.cell 3
      have l4 : w6.cell? ⟨w2.heap.size, 4, none⟩ = some (.slice (some ⟨sb, 0, none⟩) L.squares.length sc) := HT6.out.1.1.1.cell 4
      go_wp2_with fail
      refine (years_yes _ L _ HOK.out HT6.out.lineL HNE.out).mono ?_
      rintro e w7 ⟨rfl, hb7⟩
      have HT7 := Lib.hid ((HT6.out.below hb7).alloc (.cells #[.int .i64 (yearsOf L).1, .int .i64 (yearsOf L).2] 48))
      have HT7' := Lib.hid (HT6.out.below hb7)
      have HA7 := Lib.hid ((own_below HA6.out hb7 (Nat.le_refl _)).alloc (.cells #[.int .i64 (yearsOf L).1, .int .i64 (yearsOf L).2] 48))
      have HB7 := Lib.hid ((own_below HB6.out hb7 (Nat.le_refl _)).alloc (.cells #[.int .i64 (yearsOf L).1, .int .i64 (yearsOf L).2] 48))
      have HY7 := Lib.hid (Blok.new w7 48 [.int .i64 (yearsOf L).1, .int .i64 (yearsOf L).2])
      clear hb7 HT6 HA6 HB6 l0 l1 l2 l3 l4
      have k0 : w7.cell? ⟨w3.heap.size, 0, none⟩ = some (.slice (some ⟨xb', 0, none⟩) X.hands.length xc) := HT7'.out.2.1.cell 0
      have k1 : w7.cell? ⟨w3.heap.size, 1, none⟩ = some (.int .i64 X.worn) := HT7'.out.2.1.cell 1
      have k2 : w7.cell? ⟨w3.heap.size, 2, none⟩ = some (.int .i64 X.scr) := HT7'.out.2.1.cell 2
      have k3 : w7.cell? ⟨w3.heap.size, 3, none⟩ = some (.int .i64 X.total) := HT7'.out.2.1.cell 3
      have k4 : w7.cell? ⟨w3.heap.size, 4, none⟩ = some (.slice (some ⟨xq, 0, none⟩) X.squares.length xqc) := HT7'.out.2.1.cell 4
      have kz := HT7'.out.2.1.size
      go_wp2_with fail
      refine (years_yes _ X _ HXO.out HT7.out.lineX HX.out).mono ?_
      rintro e w8 ⟨rfl, hb8⟩
      have hs78 := hb8.size
      simp only [World.size_alloc] at hs78
      have HT8 := Lib.hid ((HT7.out.below hb8).alloc (.cells #[.int .i64 (yearsOf X).1, .int .i64 (yearsOf X).2] 48))
      have HA8 := Lib.hid ((own_below HA7.out hb8 (Nat.le_refl _)).alloc (.cells #[.int .i64 (yearsOf X).1, .int .i64 (yearsOf X).2] 48))
      have HB8 := Lib.hid ((own_below HB7.out hb8 (Nat.le_refl _)).alloc (.cells #[.int .i64 (yearsOf X).1, .int .i64 (yearsOf X).2] 48))
      have HY8 := Lib.hid (HY7.out.below hb8 HY7.out.size)
      have hyl := (HM.out.years HX.out).1
      have hyh := (HM.out.years HX.out).2
      obtain ⟨la, hla⟩ : ∃ la, la = (yearsOf L).1 := ⟨_, rfl⟩
      obtain ⟨lz, hlz⟩ : ∃ lz, lz = (yearsOf L).2 := ⟨_, rfl⟩
      obtain ⟨xa, hxa⟩ : ∃ xa, xa = (yearsOf X).1 := ⟨_, rfl⟩
      obtain ⟨xz, hxz⟩ : ∃ xz, xz = (yearsOf X).2 := ⟨_, rfl⟩
      rw [← hla, ← hxa] at hyl
      rw [← hlz, ← hxz] at hyh
      rw [← hla, ← hlz] at HY8
      rw [← hxa, ← hxz] at HT8 HA8 HB8
      rw [← hxa, ← hxz]
      have hy8 : w7.heap.size < w8.heap.size := HY8.out.size
      have y0 : w8.cell? ⟨w7.heap.size, 0, none⟩ = some (.int .i64 la) := HY8.out.cell 0
      have y1 : w8.cell? ⟨w7.heap.size, 1, none⟩ = some (.int .i64 lz) := HY8.out.cell 1
      clear hb8 HT7 HT7' HA7 HB7 HY7 k0 k1 k2 k3 k4 hla hlz hxa hxz
      obtain ⟨n, hn⟩ : ∃ n, n = L.squares.length := ⟨_, rfl⟩
      have hxn : X.squares.length = n := by rw [hn]; exact HM.out.sq
      have hn8 : n ≤ 8 := by rw [hn]; exact HOK.out.2.2.2.2.2.2.2.1
      have hn1 : 1 ≤ n := by rw [hn]; exact HOK.out.2.2.2.2.2.2.1
      rw [hxn] at HB8 ⊢
      rw [← hn] at HA8 ⊢
      have HIN := Lib.hid (fun (k : Nat) (x y : ByteArray) (h1 : (lettersOf X)[k]? = some x) (h2 : (lettersOf L)[k]? = some y) => HM.out.byte (show k < L.squares.length by have := (List.getElem?_eq_some_iff.1 h2).1; simpa [lettersOf] using this) h1 h2)
      clear hn hxn
      go_wp2_with (first
        | (go_at_call 43; refine (inside_yes _ _ _ _ n _ _ _ hn1 hn8 HB8.out HA8.out (fun k x h => letters_size h) (fun k x h => letters_size h) HIN.out).mono ?_; rintro e w9 ⟨rfl, d, rfl⟩)
        | (go_at_call 44; refine (within_yes xa xz la lz _ hyl hyh).mono ?_; rintro e w10 ⟨rfl, hb10⟩; have HB10 := Lib.hid hb10; clear hb10)
        | (go_at_call 14; refine (ready_any Unit _).mono ?_; rintro e w11 ⟨rfl, hb11⟩; have HB11 := Lib.hid hb11; clear hb11))
      go_ret
      exact ⟨rfl, ((below_drewN HT8.out.1.1.2.2.2 d).trans (HB10.out.mono HT8.out.1.1.2.2.2.size)).trans (HB11.out.mono (Nat.le_trans HT8.out.1.1.2.2.2.size HB10.out.size))⟩
end Go.Proofs.Ytmoohefoilaigaa
