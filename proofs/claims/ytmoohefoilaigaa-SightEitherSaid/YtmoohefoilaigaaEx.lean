/- SightEither's walk. -/
import Derived.Test.YtmoohefoilaigaaEj
import Derived.Deep.RegionLaw
import Derived.Deep.RegionHeld3
import Derived.Deep.DeepCutAuto
import Derived.Deep.QuietTactic
import Derived.BigQuiet
import Derived.Deep.CutBlock
namespace Go.Proofs.Ytmoohefoilaigaa
open Go.RowKit Go.Shelf

set_option maxRecDepth 100000 in
set_option maxHeartbeats 4000000 in
theorem either_walk (a0 : Option Addr) (len0 cap0 : Nat) (w : World) (hr : NumRow w a0 len0) : Calls Try.prog 10 #[.slice a0 len0 cap0] w (EnoughPost w) := by
  go_enter Try.func10, Try.ntmps10
  go_wp2_with fail
  refine (newUrn_any _ _ _ _ hr).mono ?_
  rintro e w1 ⟨rfl, hu1, hb1⟩
  have HB1 := Lib.hid hb1
  have HU1 := Lib.hid hu1
  clear hu1 hb1 hr
  go_wp2_with fail
  refine (lineOf_any _ 4 4 5 _ (by omega) (by omega) (by omega) (by omega) (by omega) (by omega) HU1.out).mono ?_
  rintro e w2 ⟨L, lv, vv, hand, ks, vis, lts, H, rfl, hlb, hok, hl3, hsm, hl5, htr, hH, hmk, -, hvv, -, hu2, hk2⟩
  obtain ⟨vh, vs, rfl, hhb, hsb⟩ := hlb
  obtain ⟨hb, hc, hcur, hsvs, rfl, -⟩ := id hhb
  obtain ⟨sb, sc, scur, slvs, rfl, -⟩ := id hsb
  obtain ⟨vb, vc, vcur, rfl, hvb⟩ := hvv
  have hg2 : w.heap.size < w2.heap.size := by have := HU1.out.size; have := hk2.size; omega
  have hne : handsOf L ≠ [] := List.ne_nil_of_mem (truth_hand htr H hH hmk)
  have HNE := Lib.hid hne
  have HOK := Lib.hid hok
  have hn4 : L.hands.length ≤ 4 := hok.2.1
  have hn8 : L.squares.length ≤ 8 := hok.2.2.2.2.2.2.2.1
  have HI := Lib.hid (TrueI.make (w := w) (vv := .slice (some ⟨vb, 0, none⟩) vis.length vc) (hand := hand) (lts := lts) hhb hsb hu2 (HB1.out.trans (hk2.below HB1.out.size (Nat.le_refl _))))
  clear hhb hsb hu2 hk2 hok HB1 HU1 htr hH hmk hne hsm hvb hl3 hl5
  go_upto_region 3 with fail
  obtain ⟨W, hW⟩ : ∃ W, W = (w2.alloc (.cells #[.slice (some ⟨hb, 0, none⟩) L.hands.length hc, .int .i64 L.worn, .int .i64 L.scr, .int .i64 L.total, .slice (some ⟨sb, 0, none⟩) L.squares.length sc] 25)).alloc (.cells #[.int .i64 hand, .string lts, .slice (some ⟨vb, 0, none⟩) vis.length vc] 32) := ⟨_, rfl⟩
  rw [← hW] at HI ⊢
  have hWs : W.heap.size = w2.heap.size + 2 := by rw [hW]; simp
  clear hW
  have l0 : W.cell? ⟨w2.heap.size, 0, none⟩ = some (.slice (some ⟨hb, 0, none⟩) L.hands.length hc) := HI.out.1.1.cell 0
  have l4 : W.cell? ⟨w2.heap.size, 4, none⟩ = some (.slice (some ⟨sb, 0, none⟩) L.squares.length sc) := HI.out.1.1.cell 4
  have HUD := Lib.hid (show UrnAt W.drew w.heap.size from HI.out.2.2)
  have HL1 := Lib.hid (show L.hands.length ≤ 1000 by omega)
  have HL2 := Lib.hid (show L.squares.length ≤ 1000 by omega)
  have NE0 := Lib.hid (show w2.heap.size ≠ w.heap.size by omega)
  go_cut [6, 7] (fun s6 s7 wx => ∃ hs qs, Rows2 w.heap.size W wx s6 s7 hs qs ∧ hs.Perm (List.range L.hands.length) ∧ qs.Perm (List.range L.squares.length))
  case first =>
    go_region_law (first
      | (go_simp; go_at_call 45; (with_reducible refine (row_any w.heap.size L.hands.length W.drew HL1.out HUD.out).mono ?_); rintro e w3 ⟨vo, hs, rfl, hp1, ho1, hu3, hk3⟩; have HP1 := Lib.hid hp1; have HO1 := Lib.hid ho1; have HU3 := Lib.hid hu3; have HK3 := Lib.hid hk3; have d4 : w3.cell? ⟨w2.heap.size, 4, none⟩ = some (.slice (some ⟨sb, 0, none⟩) L.squares.length sc) := (HI.out.1.1.kg ((Kg.refl _ W).drew.trans hk3) NE0.out).cell 4; clear hp1 ho1 hu3 hk3)
      | (go_simp; go_at_call 45; (with_reducible refine (row_any w.heap.size L.squares.length w3 HL2.out HU3.out).mono ?_); rintro e w4 ⟨vq, qs, rfl, hp2, ho2, hu4, hk4⟩; have HP2 := Lib.hid hp2; have HO2 := Lib.hid ho2; have HU4 := Lib.hid hu4; have HK4 := Lib.hid hk4; clear hp2 ho2 hu4 hk4))
    all_goals
      go_wp2_with fail
      go_meet
      have e1 : hs.length = L.hands.length := perm_len HP1.out
      have e2 : qs.length = L.squares.length := perm_len HP2.out
      have z3 := HK3.out.size
      have o1 := own_kg HO1.out HU3.out (by decide) HK4.out
      have o2 := HO2.out
      rw [← e1] at o1
      rw [← e2] at o2
      exact ⟨hs, qs, ⟨((Kg.refl _ W).drew.trans HK3.out).trans HK4.out, HU4.out, o1, own_mono o2 z3⟩, HP1.out, HP2.out⟩
  case rest =>
    clear l0 l4 HUD HL1 HL2 NE0
    obtain ⟨hs, qs, hrw, hph, hpq⟩ := hcut
    have hlh : hs.length = L.hands.length := perm_len hph
    have hlq : qs.length = L.squares.length := perm_len hpq
    obtain ⟨Ah, cah, hAh⟩ := own_slice hrw.2.2.1
    obtain ⟨Aq, caq, hAq⟩ := own_slice hrw.2.2.2
    subst hAh hAq
    obtain ⟨m, hm⟩ : ∃ m, m = hs.length := ⟨_, rfl⟩
    obtain ⟨n, hn⟩ : ∃ n, n = qs.length := ⟨_, rfl⟩
    have hm4 : m ≤ 4 := by omega
    have hn8' : n ≤ 8 := by omega
    have hm1 : 1 ≤ m := by have := HOK.out.1; omega
    have hn1 : 1 ≤ n := by have := HOK.out.2.2.2.2.2.2.1; omega
    rw [← hm, ← hn]
    rw [← hm, ← hn] at hrw
    have HM := Lib.hid hm
    have HN := Lib.hid hn
    have HPH := Lib.hid hph
    have HPQ := Lib.hid hpq
    have hlb : w2.heap.size < wc.heap.size := by have := (HI.out.kg hrw.1 hrw.2.1 (Nat.le_refl _)).1.1.size; exact this
    have l1 : wc.cell? ⟨w2.heap.size, 1, none⟩ = some (.int .i64 L.worn) := (HI.out.kg hrw.1 hrw.2.1 (Nat.le_refl _)).1.1.cell 1
    have l2 : wc.cell? ⟨w2.heap.size, 2, none⟩ = some (.int .i64 L.scr) := (HI.out.kg hrw.1 hrw.2.1 (Nat.le_refl _)).1.1.cell 2
    have l3 : wc.cell? ⟨w2.heap.size, 3, none⟩ = some (.int .i64 L.total) := (HI.out.kg hrw.1 hrw.2.1 (Nat.le_refl _)).1.1.cell 3
    have hst : EiH w.heap.size W L wc.heap.size (.slice Ah m cah) (.slice Aq n caq) hs qs 0 (wc.alloc (.cells #[.slice none 0 0, .int .i64 L.worn, .int .i64 L.scr, .int .i64 L.total, .slice none 0 0] 25)) := by
      have hr' : Rows2 w.heap.size W wc (.slice Ah m cah) (.slice Aq n caq) hs qs := by
        obtain ⟨r1, r2, r3, r4⟩ := hrw
        rw [hm] at r3 ⊢
        rw [hn] at r4 ⊢
        exact ⟨r1, r2, r3, r4⟩
      exact ⟨[], .slice none 0 0, hr'.alloc _, Blok.new wc _ _, World.ownsRow_nil _ _ _ _, ⟨by simp [picks], fun k a b h1 h2 => by simp at h2⟩, hrw.1.size⟩
    have HST := Lib.hid hst
    clear hst hrw hm hn hph hpq
    go_wp2_with fail
    go_loopw [9] (fun i wr => ∃ k : Nat, k ≤ m ∧ i = .int .i64 k ∧ EiH w.heap.size W L wc.heap.size (.slice Ah m cah) (.slice Aq n caq) hs qs k wr) (fun i _ => m - (intOf i).toNat)
    case atStart => exact ⟨0, by omega, rfl, HST.out⟩
    case round =>
      clear HST l1 l2 l3
      obtain ⟨k, hk, rfl, svs, vx, hrw, b1, ho, hsh, hxb⟩ := hrel
      obtain ⟨Ax, cx, rfl⟩ := own_slice ho
      have HR := Lib.hid hrw
      have B1 := Lib.hid b1
      have HO := Lib.hid ho
      have HSH := Lib.hid hsh
      have hT := HI.out.kg hrw.1 hrw.2.1 (Nat.le_refl _)
      have HT := Lib.hid hT
      have hxr := b1.size
      have hlr : w2.heap.size < wr.heap.size := hT.1.1.size
      have l0 : wr.cell? ⟨w2.heap.size, 0, none⟩ = some (.slice (some ⟨hb, 0, none⟩) L.hands.length hc) := hT.1.1.cell 0
      have x0 : wr.cell? ⟨wc.heap.size, 0, none⟩ = some (.slice Ax k cx) := b1.cell 0
      have fx := b1.free 0
      clear hrw b1 ho hsh hT
      by_cases hlt : k < m
      · have hkh : k < hs.length := by rw [← HM.out]; exact hlt
        obtain ⟨j, hj⟩ : ∃ j, j = hs[k] := ⟨_, rfl⟩
        have hjk : hs[k]? = some j := by rw [hj, List.getElem?_eq_getElem hkh]
        have hjl : j < L.hands.length := perm_lt HPH.out hjk
        have hrow := HR.out.2.2.1
        rw [← HM.out] at hrow
        obtain ⟨gh, cgh, hAh, -, hghlt⟩ := hrow.form (by omega)
        injection hAh with hA1 hA2 hA3
        subst hA1 hA3
        have r0 : wr.cell? ⟨gh, k, none⟩ = some (.int .i64 j) := (hrow.cellAt k (by omega)).trans (ns_get hjk)
        obtain ⟨b', c', he, hat⟩ := HT.out.1.2.1.at_
        injection he with he1 he2 he3
        injection he1 with he1
        injection he1 with he1
        obtain ⟨sv, hsv, d1, d2, d3⟩ := hat j L.hands[j] (List.getElem?_eq_getElem hjl)
        rw [← he1] at d1 d2 d3
        have hbl := World.block_lt_of_cell? wr _ d1
        obtain ⟨bs, cs, scur', rfl, -⟩ := id hsv
        have HSV := Lib.hid hsv
        have i1 : (0 : Int) ≤ (k : Int) := by omega
        have i2 : (k : Int) < (m : Int) := by omega
        have i3 : (0 : Int) ≤ (j : Int) := by omega
        have i4 : (j : Int) < (L.hands.length : Int) := by omega
        have HJK := Lib.hid hjk
        obtain ⟨ih, hih, hiz0, hiz1, hiz2⟩ := info_parts info_hand
        have HIH := Lib.hid hih
        have HIH0 := Lib.hid hiz0
        have HIH1 := Lib.hid hiz1
        have HIH2 := Lib.hid hiz2
        clear hih hiz0 hiz1 hiz2 hj hjk hrow hA2 hat he1 he2 he3 hsv
        have hWr : W.heap.size ≤ wr.heap.size := HR.out.1.size
        have hbW : hb < W.heap.size := HI.out.1.2.1.lt'
        have HOD := Lib.hid (show wr.drew.ownsRow W.heap.size 68 3 (.slice Ax k cx) k (hdCells (picks ⟨0, 0, []⟩ L.hands (hs.take k)) svs) from HO.out)
        have M0 := Lib.hid (own_ne_row HO.out B1.out (by decide)).symm
        have M1 := Lib.hid (own_ne_row HO.out HT.out.1.1 (by decide)).symm
        have M2 := Lib.hid (show some gh ≠ (Value.slice Ax k cx).ownBlock from fun e => by
          obtain ⟨cs', hb'⟩ := own_blok HR.out.2.2.1 (g := gh) rfl
          exact own_ne_row HO.out hb' (by decide) e.symm)
        have M3 := Lib.hid (show some hb ≠ (Value.slice Ax k cx).ownBlock from fun e => by have := (HO.out.lt hb e.symm).1; omega)
        go_wp2_with fail
        have hS : (fun W' => W'.cell? ⟨wc.heap.size, 0, none⟩ = some (.slice Ax k cx) ∧ W'.cell? ⟨w2.heap.size, 0, none⟩ = some (.slice (some ⟨hb, 0, none⟩) L.hands.length hc) ∧ W'.cell? ⟨gh, k, none⟩ = some (.int .i64 j) ∧ W'.cell? ⟨hb, j * 3, none⟩ = some (.int .i64 L.hands[j].low) ∧ W'.cell? ⟨hb, j * 3 + 1, none⟩ = some (.int .i64 L.hands[j].high) ∧ W'.cell? ⟨hb, j * 3 + 2, none⟩ = some (.slice (some ⟨bs, 0, none⟩) L.hands[j].shapes.length cs)) wr.drew := ⟨x0, l0, r0, d1, d2, d3⟩
        refine wp_region_t (fun W' => W'.cell? ⟨wc.heap.size, 0, none⟩ = some (.slice Ax k cx) ∧ W'.cell? ⟨w2.heap.size, 0, none⟩ = some (.slice (some ⟨hb, 0, none⟩) L.hands.length hc) ∧ W'.cell? ⟨gh, k, none⟩ = some (.int .i64 j) ∧ W'.cell? ⟨hb, j * 3, none⟩ = some (.int .i64 L.hands[j].low) ∧ W'.cell? ⟨hb, j * 3 + 1, none⟩ = some (.int .i64 L.hands[j].high) ∧ W'.cell? ⟨hb, j * 3 + 2, none⟩ = some (.slice (some ⟨bs, 0, none⟩) L.hands[j].shapes.length cs)) (fun j => j == 13) (by kernel_rfl) ?_
        refine wpAnyT_take (i := 0) (v := ?_) (by simp only [List.getElem?_toArray, List.getElem?_cons_zero]; rfl) (by kernel_rfl) (by kernel_rfl) (by kernel_rfl) (by kernel_rfl) (by exact fun _ _ _ h => h) (Or.inl ⟨by rfl, ?hya0⟩) hS ?resta0
        case hya0 => (intro W' hSW; obtain ⟨x1, x2, x3, x4, x5, x6⟩ := hSW; go_simp; try with_reducible rfl)
        try simp only [Act.put, List.setIfInBounds_toArray, List.set_cons_zero, List.set_cons_succ]
        refine wpAnyT_take (i := 1) (v := ?_) (by simp only [List.getElem?_toArray, List.getElem?_cons_zero, List.getElem?_cons_succ]; rfl) (by kernel_rfl) (by kernel_rfl) (by kernel_rfl) (by kernel_rfl) (by exact fun _ _ _ h => h) (Or.inl ⟨by rfl, ?hya1⟩) hS ?resta1
        case hya1 => (intro W' hSW; obtain ⟨x1, x2, x3, x4, x5, x6⟩ := hSW; go_simp; try with_reducible rfl)
        try simp only [Act.put, List.setIfInBounds_toArray, List.set_cons_zero, List.set_cons_succ]
        refine wpAnyT_take (i := 2) (v := ?_) (by simp only [List.getElem?_toArray, List.getElem?_cons_zero, List.getElem?_cons_succ]; rfl) (by kernel_rfl) (by kernel_rfl) (by kernel_rfl) (by kernel_rfl) (by exact fun _ _ _ h => h) (Or.inl ⟨by rfl, ?hya2⟩) hS ?resta2
        case hya2 => (intro W' hSW; obtain ⟨x1, x2, x3, x4, x5, x6⟩ := hSW; go_simp; try with_reducible rfl)
        try simp only [Act.put, List.setIfInBounds_toArray, List.set_cons_zero, List.set_cons_succ]
        refine wpAnyT_take (i := 3) (v := ?_) (by simp only [List.getElem?_toArray, List.getElem?_cons_zero, List.getElem?_cons_succ]; rfl) (by kernel_rfl) (by kernel_rfl) (by kernel_rfl) (by kernel_rfl) (by exact fun _ _ _ h => h) (Or.inl ⟨by rfl, ?hya3⟩) hS ?resta3
        case hya3 => (intro W' hSW; obtain ⟨x1, x2, x3, x4, x5, x6⟩ := hSW; go_simp; try with_reducible rfl)
        try simp only [Act.put, List.setIfInBounds_toArray, List.set_cons_zero, List.set_cons_succ]
        refine wpAnyT_take (i := 4) (v := ?_) (by simp only [List.getElem?_toArray, List.getElem?_cons_zero, List.getElem?_cons_succ]; rfl) (by kernel_rfl) (by kernel_rfl) (by kernel_rfl) (by kernel_rfl) (by exact fun _ _ _ h => h) (Or.inl ⟨by rfl, ?hya4⟩) hS ?resta4
        case hya4 => (intro W' hSW; obtain ⟨x1, x2, x3, x4, x5, x6⟩ := hSW; go_simp; try with_reducible rfl)
        try simp only [Act.put, List.setIfInBounds_toArray, List.set_cons_zero, List.set_cons_succ]
        refine wpAnyT_take (i := 5) (v := ?_) (by simp only [List.getElem?_toArray, List.getElem?_cons_zero, List.getElem?_cons_succ]; rfl) (by kernel_rfl) (by kernel_rfl) (by kernel_rfl) (by kernel_rfl) (by exact fun _ _ _ h => h) (Or.inl ⟨by rfl, ?hya5⟩) hS ?resta5
        case hya5 => (intro W' hSW; obtain ⟨x1, x2, x3, x4, x5, x6⟩ := hSW; go_simp; try with_reducible rfl)
        try simp only [Act.put, List.setIfInBounds_toArray, List.set_cons_zero, List.set_cons_succ]
        refine wpAnyT_take (i := 6) (v := ?_) (by simp only [List.getElem?_toArray, List.getElem?_cons_zero, List.getElem?_cons_succ]; rfl) (by kernel_rfl) (by kernel_rfl) (by kernel_rfl) (by kernel_rfl) (by exact fun _ _ _ h => h) (Or.inl ⟨by rfl, ?hya6⟩) hS ?resta6
        case hya6 => (intro W' hSW; obtain ⟨x1, x2, x3, x4, x5, x6⟩ := hSW; go_simp; try with_reducible rfl)
        try simp only [Act.put, List.setIfInBounds_toArray, List.set_cons_zero, List.set_cons_succ]
        refine wpAnyT_take (i := 7) (v := ?_) (by simp only [List.getElem?_toArray, List.getElem?_cons_zero, List.getElem?_cons_succ]; rfl) (by kernel_rfl) (by kernel_rfl) (by kernel_rfl) (by kernel_rfl) (by exact fun _ _ _ h => h) (Or.inl ⟨by rfl, ?hya7⟩) hS ?resta7
        case hya7 => (intro W' hSW; obtain ⟨x1, x2, x3, x4, x5, x6⟩ := hSW; go_simp; try with_reducible rfl)
        try simp only [Act.put, List.setIfInBounds_toArray, List.set_cons_zero, List.set_cons_succ]
        refine wpAnyT_take (i := 8) (v := ?_) (by simp only [List.getElem?_toArray, List.getElem?_cons_zero, List.getElem?_cons_succ]; rfl) (by kernel_rfl) (by kernel_rfl) (by kernel_rfl) (by kernel_rfl) (by exact fun _ _ _ h => h) (Or.inl ⟨by rfl, ?hya8⟩) hS ?resta8
        case hya8 => (intro W' hSW; obtain ⟨x1, x2, x3, x4, x5, x6⟩ := hSW; go_simp; try with_reducible rfl)
        try simp only [Act.put, List.setIfInBounds_toArray, List.set_cons_zero, List.set_cons_succ]
        refine wpAnyT_take (i := 9) (v := ?_) (by simp only [List.getElem?_toArray, List.getElem?_cons_zero, List.getElem?_cons_succ]; rfl) (by kernel_rfl) (by kernel_rfl) (by kernel_rfl) (by kernel_rfl) (by exact fun _ _ _ h => h) (Or.inl ⟨by rfl, ?hya9⟩) hS ?resta9
        case hya9 => (intro W' hSW; obtain ⟨x1, x2, x3, x4, x5, x6⟩ := hSW; go_simp; try with_reducible rfl)
        try simp only [Act.put, List.setIfInBounds_toArray, List.set_cons_zero, List.set_cons_succ]
        refine wpAnyT_ready (rs := [10]) (by kernel_rfl) (by simp) ?_
        refine AllReadyT.cons (by simp only [List.getElem?_toArray, List.getElem?_cons_zero, List.getElem?_cons_succ]; rfl) (fun K hK => ?_) AllReadyT.nil
        go_simp
        have hbO := (Below.refl wr.heap.size wr.drew).alloc (Nat.le_refl _) (.cells #[.int .i64 L.hands[j].low, .int .i64 L.hands[j].high, .slice (some ⟨bs, 0, none⟩) L.hands[j].shapes.length cs] 68)
        refine hK.out _ _ (fun _ => ⟨bcell hbO hxr x0, bcell hbO hlr l0, bcell hbO hghlt r0, bcell hbO hbl d1, bcell hbO hbl d2, bcell hbO hbl d3⟩) ?_
        clear hK K
        try simp only [Act.put, List.setIfInBounds_toArray, List.set_cons_zero, List.set_cons_succ]
        refine wpAnyT_ready (rs := [11]) (by kernel_rfl) (by simp) ?_
        refine AllReadyT.cons (by simp only [List.getElem?_toArray, List.getElem?_cons_zero, List.getElem?_cons_succ]; rfl) (fun K hK => ?_) AllReadyT.nil
        refine step_append_lies (wr.drew.alloc (.cells #[.int .i64 L.hands[j].low, .int .i64 L.hands[j].high, .slice (some ⟨bs, 0, none⟩) L.hands[j].shapes.length cs] 68)) (by rfl) (.tmp 59) (.tmp 68) 22 (by rfl) W.heap.size 68 ih (.agg #[.int .i64 0, .int .i64 0, .slice none 0 0]) 3 40 Try.underlying22 HIH.out HIH0.out HIH1.out HIH2.out rfl (by decide) (.slice Ax k cx) k (hdCells (picks ⟨0, 0, []⟩ L.hands (hs.take k)) svs) (by rfl) (HOD.out.alloc (.cells #[.int .i64 L.hands[j].low, .int .i64 L.hands[j].high, .slice (some ⟨bs, 0, none⟩) L.hands[j].shapes.length cs] 68)) ⟨wr.heap.size, 0, none⟩ 1 1 [.int .i64 L.hands[j].low, .int .i64 L.hands[j].high, .slice (some ⟨bs, 0, none⟩) L.hands[j].shapes.length cs] (by rfl) (by rfl) (World.news_of_block (heap_alloc_new wr.drew (.cells #[.int .i64 L.hands[j].low, .int .i64 L.hands[j].high, .slice (some ⟨bs, 0, none⟩) L.hands[j].shapes.length cs] 68))) (by simp [Value.oneCell']) (by omega) (by unfold maxLen; omega) (by omega) (by simp; omega) (wr.heap.size + 1) (by simp) ?_
        intro g8 c8 w8 hown8 hgrow8 hat8 hlt8
        have hS8 : (fun W' => W'.cell? ⟨wc.heap.size, 0, none⟩ = some (.slice Ax k cx) ∧ W'.cell? ⟨w2.heap.size, 0, none⟩ = some (.slice (some ⟨hb, 0, none⟩) L.hands.length hc) ∧ W'.cell? ⟨gh, k, none⟩ = some (.int .i64 j) ∧ W'.cell? ⟨hb, j * 3, none⟩ = some (.int .i64 L.hands[j].low) ∧ W'.cell? ⟨hb, j * 3 + 1, none⟩ = some (.int .i64 L.hands[j].high) ∧ W'.cell? ⟨hb, j * 3 + 2, none⟩ = some (.slice (some ⟨bs, 0, none⟩) L.hands[j].shapes.length cs)) w8 := ⟨(hgrow8.cell_far _ (by simp; omega) M0.out).trans (bcell hbO hxr x0), (hgrow8.cell_far _ (by simp; omega) M1.out).trans (bcell hbO hlr l0), (hgrow8.cell_far _ (by simp; omega) M2.out).trans (bcell hbO hghlt r0), (hgrow8.cell_far _ (by simp; omega) M3.out).trans (bcell hbO hbl d1), (hgrow8.cell_far _ (by simp; omega) M3.out).trans (bcell hbO hbl d2), (hgrow8.cell_far _ (by simp; omega) M3.out).trans (bcell hbO hbl d3)⟩
        have b8 := (((show Blok wr.drew _ _ _ from B1.out).alloc (.cells #[.int .i64 L.hands[j].low, .int .i64 L.hands[j].high, .slice (some ⟨bs, 0, none⟩) L.hands[j].shapes.length cs] 68)).grown hgrow8 (own_ne_row (HOD.out.alloc (.cells #[.int .i64 L.hands[j].low, .int .i64 L.hands[j].high, .slice (some ⟨bs, 0, none⟩) L.hands[j].shapes.length cs] 68)) ((show Blok wr.drew _ _ _ from B1.out).alloc (.cells #[.int .i64 L.hands[j].low, .int .i64 L.hands[j].high, .slice (some ⟨bs, 0, none⟩) L.hands[j].shapes.length cs] 68)) (by decide)))
        have x8 : w8.cell? ⟨wc.heap.size, 0, none⟩ = some (.slice Ax k cx) := b8.cell 0
        have f8 := b8.free 0
        try go_simp
        refine hK.out _ _ (fun _ => hS8) ?_
        clear hK K hS hbO
        try simp only [Act.put, List.setIfInBounds_toArray, List.set_cons_zero, List.set_cons_succ]
        refine wpAnyT_take (i := 12) (v := ?_) (by simp only [List.getElem?_toArray, List.getElem?_cons_zero, List.getElem?_cons_succ]; rfl) (by kernel_rfl) (by kernel_rfl) (by kernel_rfl) (by kernel_rfl) (by exact fun _ _ _ h => h) (Or.inl ⟨by rfl, ?hya12⟩) hS8 ?resta12
        case hya12 => (intro W' hSW; obtain ⟨x1, x2, x3, x4, x5, x6⟩ := hSW; go_simp; try with_reducible rfl)
        try simp only [Act.put, List.setIfInBounds_toArray, List.set_cons_zero, List.set_cons_succ]
        refine wpAnyT_ready (rs := [13]) (by kernel_rfl) (by simp) ?_
        refine AllReadyT.cons (by simp only [List.getElem?_toArray, List.getElem?_cons_zero, List.getElem?_cons_succ]; rfl) (fun K hK => ?_) AllReadyT.nil
        go_simp
        refine hK.out _ _ (fun h => by simp at h) ?_
        clear hK K hS8
        try simp only [Act.put, List.setIfInBounds_toArray, List.set_cons_zero, List.set_cons_succ]
        refine wpAnyT_done (by kernel_rfl) ?_ _
        go_wp2
        go_roundw
        case rel => exact ⟨k + 1, by omega, by go_num, EiH.step HJK.out hjl HR.out B1.out HO.out HSH.out hxb HSV.out ((Below.refl _ _).drew.alloc (Nat.le_refl _) _) hgrow8 hown8⟩
        case measure => simp [intOf]; omega
      · obtain rfl : k = m := by omega
        have htk : hs.take k = hs := List.take_of_length_le (by rw [← HM.out]; exact Nat.le_refl _)
        have ho := HO.out
        have hsh := HSH.out
        rw [htk] at ho hsh
        have hHB := HandsB.of_own ho (by rw [picks_len, ← HM.out]) hm1 hsh
        obtain ⟨gx, cX, hAx, -, -⟩ := ho.form hm1
        injection hAx with hA1 hA2 hA3
        subst hA1 hA3
        have HQ0 := Lib.hid (show EiQ w.heap.size W L wc.heap.size (.slice (some ⟨gx, 0, none⟩) k cx) (.slice Ah k cah) (.slice Aq n caq) hs qs 0 wr from ⟨[], [], .slice none 0 0, HR.out, B1.out, hHB, World.ownsRow_nil _ _ _ _, ⟨rfl, fun i a b h1 h2 => by simp at h1⟩, SqTurned.nil L, hxb⟩)
        have hWr : W.heap.size ≤ wr.heap.size := HR.out.1.size
        clear ho hsh hHB hA2 htk HO HSH HT B1 l0 x0 fx hxr hlr HR
        go_wp2_with fail
        go_loopw [10] (fun i wr => ∃ j : Nat, j ≤ n ∧ i = .int .i64 j ∧ EiQ w.heap.size W L wc.heap.size (.slice (some ⟨gx, 0, none⟩) k cx) (.slice Ah k cah) (.slice Aq n caq) hs qs j wr) (fun i _ => n - (intOf i).toNat)
        case atStart => exact ⟨0, by omega, rfl, HQ0.out⟩
        case round =>
          clear HQ0 hWr
          obtain ⟨i, hi, rfl, QS, lvs, vx, hrw, b1, hhx, ho, hS, hT, -⟩ := hrel
          obtain ⟨Ax, cx4, rfl⟩ := own_slice ho
          have HR := Lib.hid hrw
          have B1 := Lib.hid b1
          have HHX := Lib.hid hhx
          have HO := Lib.hid ho
          have HS := Lib.hid hS
          have HT := Lib.hid hT
          have hTL := HI.out.kg hrw.1 hrw.2.1 (Nat.le_refl _)
          have HTL := Lib.hid hTL
          have hxr := b1.size
          have hlr : w2.heap.size < wr.heap.size := hTL.1.1.size
          have l4 : wr.cell? ⟨w2.heap.size, 4, none⟩ = some (.slice (some ⟨sb, 0, none⟩) L.squares.length sc) := hTL.1.1.cell 4
          clear hrw b1 hhx ho hS hT hTL
          by_cases hlt : i < n
          · have hkh : i < qs.length := by rw [← HN.out]; exact hlt
            obtain ⟨j, hj⟩ : ∃ j, j = qs[i] := ⟨_, rfl⟩
            have hjk : qs[i]? = some j := by rw [hj, List.getElem?_eq_getElem hkh]
            have hjl : j < L.squares.length := perm_lt HPQ.out hjk
            have hrow := HR.out.2.2.2
            rw [← HN.out] at hrow
            obtain ⟨gq, cgq, hAq, -, hgqlt⟩ := hrow.form (by omega)
            injection hAq with hA1 hA2 hA3
            subst hA1 hA3
            have r0 : wr.cell? ⟨gq, i, none⟩ = some (.int .i64 j) := (hrow.cellAt i (by omega)).trans (ns_get hjk)
            obtain ⟨A1, c1, d1, hsbl, hlts⟩ := squares_of_B HTL.out.1.2.2.1 (Below.refl _ wr) j hjl
            obtain ⟨nl, hnl⟩ : ∃ nl, nl = L.squares[j].length := ⟨_, rfl⟩
            have hnl4 : nl ≤ 4 := by rw [hnl]; exact (HOK.out.2.2.2.2.2.2.2.2 _ (List.getElem_mem hjl)).1
            rw [← hnl] at d1 hlts
            have HNL := Lib.hid hnl
            have HLTS := Lib.hid hlts
            have HJK := Lib.hid hjk
            have i1 : (0 : Int) ≤ (i : Int) := by omega
            have i2 : (i : Int) < (n : Int) := by omega
            have i3 : (0 : Int) ≤ (j : Int) := by omega
            have i4 : (j : Int) < (L.squares.length : Int) := by omega
            have NE0 := Lib.hid (show w2.heap.size ≠ w.heap.size by omega)
            have NE1 := Lib.hid (show gq ≠ w.heap.size from fun e => HR.out.2.1.own_ne hrow (by decide) (by rw [← e]; rfl))
            have NE2 := Lib.hid (show sb ≠ w.heap.size from by
              obtain ⟨cs', hb', -⟩ := SquaresB.slot HTL.out.1.2.2.1 j hjl
              exact HR.out.2.1.ne hb' (by decide))
            have HUR := Lib.hid HR.out.2.1
            clear hj hjk hrow hA2 hnl hlts
            go_wp2_with fail
            go_region_held3 (fun W' => W'.cell? ⟨w2.heap.size, 4, none⟩ = some (.slice (some ⟨sb, 0, none⟩) L.squares.length sc) ∧ W'.cell? ⟨gq, i, none⟩ = some (.int .i64 j) ∧ W'.cell? ⟨sb, j, none⟩ = some (.slice A1 nl c1))
              (first
                | go_keep
                | (go_split_ands; exact ⟨hk5.cell (by assumption) NE0.out, hk5.cell (by assumption) NE1.out, hk5.cell (by assumption) NE2.out⟩))
              ((go_at_call 45; refine (row_any w.heap.size nl _ (by omega) (by exact HUR.out)).mono ?_; rintro e w5 ⟨vo, os, rfl, hp, ho, hu5, hk5⟩))
            have HK5 := Lib.hid ((Kg.refl _ wr).drew.trans hk5)
            have HU5 := Lib.hid hu5
            have HPO := Lib.hid hp
            have HOO := Lib.hid ho
            have hz5 : wr.heap.size ≤ w5.heap.size := hk5.size
            have L4 := Lib.hid (show w5.cell? ⟨w2.heap.size, 4, none⟩ = some (.slice (some ⟨sb, 0, none⟩) L.squares.length sc) from hk5.cell l4 NE0.out)
            have R0 := Lib.hid (show w5.cell? ⟨gq, i, none⟩ = some (.int .i64 j) from hk5.cell r0 NE1.out)
            have D1 := Lib.hid (show w5.cell? ⟨sb, j, none⟩ = some (.slice A1 nl c1) from hk5.cell d1 NE2.out)
            have HL5 := Lib.hid (HLTS.out.kg HUR.out HK5.out)
            obtain ⟨Ao, cao, rfl⟩ := own_slice ho
            clear hk5 hu5 hp ho
            go_wp2_with fail
            go_loopw [11, 13] (fun l p wr => ∃ pk : Nat, pk ≤ nl ∧ p = .int .i64 pk ∧ wr.ownsRow w5.heap.size 27 2 l pk (ltCells (picks ⟨0, 0⟩ L.squares[j] (os.take pk))) ∧ Below w5.heap.size w5 wr) (fun _ p _ => nl - (intOf p).toNat)
            case atStart => exact ⟨0, by omega, rfl, World.ownsRow_nil _ _ _ _, Below.refl _ _⟩
            case round =>
              clear l4 r0 d1 hxr hlr hgqlt hsbl
              obtain ⟨p, hp, rfl, hol, hbl⟩ := hrel
              obtain ⟨Al, cl, rfl⟩ := own_slice hol
              have HOL := Lib.hid hol
              have HBL := Lib.hid hbl
              have zz := hbl.size
              by_cases hpl : p < nl
              · have hoslen : os.length = nl := perm_len HPO.out
                obtain ⟨q, hq⟩ : ∃ q, q = os[p] := ⟨_, rfl⟩
                have hpq : os[p]? = some q := by rw [hq, List.getElem?_eq_getElem (by omega)]
                have hqn : q < nl := perm_lt HPO.out hpq
                have hql : q < L.squares[j].length := by rw [← HNL.out]; exact hqn
                obtain ⟨x, hx⟩ : ∃ x, x = L.squares[j][q] := ⟨_, rfl⟩
                have hrow := HOO.out
                obtain ⟨go, cgo, hAo, -, hgolt⟩ := hrow.form (by omega)
                injection hAo with hA1 hA2 hA3
                subst hA1 hA3
                have o0 : wr.cell? ⟨go, p, none⟩ = some (.int .i64 q) := bcell hbl hgolt ((hrow.cellAt p (by omega)).trans (ns_get hpq))
                have hlb := HL5.out
                rcases hlb with ⟨hv, hq0⟩ | ⟨lk, lc, lcur, hv, hblk, htk⟩
                · exfalso
                  rw [hq0] at hql
                  simp at hql
                · injection hv with hv1 hv2 hv3
                  subst hv1 hv3
                  have hcells := ltCells_get L.squares[j] q x (by rw [hx, List.getElem?_eq_getElem hql])
                  have e0 : wr.cell? ⟨lk, q * 2, none⟩ = some (.int .i64 x.shows) := bcell hbl hblk.size (by
                    rw [hblk.cell, ← hcells.1, ← htk, List.getElem?_take, if_pos (by omega)])
                  have e1 : wr.cell? ⟨lk, q * 2 + 1, none⟩ = some (.int .i64 x.seen) := bcell hbl hblk.size (by
                    rw [hblk.cell, ← hcells.2, ← htk, List.getElem?_take, if_pos (by omega)])
                  have z4' := hblk.size
                  have y0 := World.block_lt_of_cell? w5 _ L4.out
                  have y1 := World.block_lt_of_cell? w5 _ R0.out
                  have y2 := World.block_lt_of_cell? w5 _ D1.out
                  simp only at y0 y1 y2
                  have l4 : wr.cell? ⟨w2.heap.size, 4, none⟩ = some (.slice (some ⟨sb, 0, none⟩) L.squares.length sc) := bcell hbl y0 L4.out
                  have r0 : wr.cell? ⟨gq, i, none⟩ = some (.int .i64 j) := bcell hbl y1 R0.out
                  have d1 : wr.cell? ⟨sb, j, none⟩ = some (.slice (some ⟨lk, 0, none⟩) nl c1) := bcell hbl y2 D1.out
                  have z0 : w2.heap.size < wr.heap.size := by omega
                  have z1 : gq < wr.heap.size := by omega
                  have z2 : sb < wr.heap.size := by omega
                  have z3 : go < wr.heap.size := by omega
                  have z4 : lk < wr.heap.size := by omega
                  have nr : ∀ b : Nat, b < w5.heap.size → some b ≠ (Value.slice Al p cl).ownBlock := fun b hb e => by have := (HOL.out.lt b e.symm).1; omega
                  have M0 := Lib.hid (nr _ y0)
                  have M1 := Lib.hid (nr _ y1)
                  have M2 := Lib.hid (nr _ y2)
                  have M3 := Lib.hid (nr _ hgolt)
                  have M4 := Lib.hid (nr _ z4')
                  have HOD := Lib.hid (show wr.drew.ownsRow w5.heap.size 27 2 (.slice Al p cl) p (ltCells (picks ⟨0, 0⟩ L.squares[j] (os.take p))) from HOL.out)
                  have j1 : (0 : Int) ≤ (p : Int) := by omega
                  have j2 : (p : Int) < (nl : Int) := by omega
                  have j3 : (0 : Int) ≤ (q : Int) := by omega
                  have j4 : (q : Int) < (nl : Int) := by omega
                  have HPQ' := Lib.hid hpq
                  have HX := Lib.hid hx
                  obtain ⟨il, hil, hil0, hil1, hil2⟩ := info_parts info_cplight
                  have HIL := Lib.hid hil
                  have HIL0 := Lib.hid hil0
                  have HIL1 := Lib.hid hil1
                  have HIL2 := Lib.hid hil2
                  clear hil hil0 hil1 hil2 hq hpq hx hrow hA2 hv2 hcells hblk htk nr hbl hol hoslen
                  go_wp2_with fail
                  have hS : (fun W' => W'.cell? ⟨w2.heap.size, 4, none⟩ = some (.slice (some ⟨sb, 0, none⟩) L.squares.length sc) ∧ W'.cell? ⟨gq, i, none⟩ = some (.int .i64 j) ∧ W'.cell? ⟨sb, j, none⟩ = some (.slice (some ⟨lk, 0, none⟩) nl c1) ∧ W'.cell? ⟨go, p, none⟩ = some (.int .i64 q) ∧ W'.cell? ⟨lk, q * 2, none⟩ = some (.int .i64 x.shows) ∧ W'.cell? ⟨lk, q * 2 + 1, none⟩ = some (.int .i64 x.seen)) wr.drew := ⟨l4, r0, d1, o0, e0, e1⟩
                  refine wp_region_t (fun W' => W'.cell? ⟨w2.heap.size, 4, none⟩ = some (.slice (some ⟨sb, 0, none⟩) L.squares.length sc) ∧ W'.cell? ⟨gq, i, none⟩ = some (.int .i64 j) ∧ W'.cell? ⟨sb, j, none⟩ = some (.slice (some ⟨lk, 0, none⟩) nl c1) ∧ W'.cell? ⟨go, p, none⟩ = some (.int .i64 q) ∧ W'.cell? ⟨lk, q * 2, none⟩ = some (.int .i64 x.shows) ∧ W'.cell? ⟨lk, q * 2 + 1, none⟩ = some (.int .i64 x.seen)) (fun j => false) (by kernel_rfl) ?_
                  refine wpAnyT_take (i := 0) (v := ?_) (by simp only [List.getElem?_toArray, List.getElem?_cons_zero]; rfl) (by kernel_rfl) (by kernel_rfl) (by kernel_rfl) (by kernel_rfl) (by exact fun _ _ _ h => h) (Or.inl ⟨by rfl, ?hyb0⟩) hS ?restb0
                  case hyb0 => (intro W' hSW; obtain ⟨x1, x2, x3, x4, x5, x6⟩ := hSW; go_simp; try with_reducible rfl)
                  try simp only [Act.put, List.setIfInBounds_toArray, List.set_cons_zero, List.set_cons_succ]
                  refine wpAnyT_take (i := 1) (v := ?_) (by simp only [List.getElem?_toArray, List.getElem?_cons_zero, List.getElem?_cons_succ]; rfl) (by kernel_rfl) (by kernel_rfl) (by kernel_rfl) (by kernel_rfl) (by exact fun _ _ _ h => h) (Or.inl ⟨by rfl, ?hyb1⟩) hS ?restb1
                  case hyb1 => (intro W' hSW; obtain ⟨x1, x2, x3, x4, x5, x6⟩ := hSW; go_simp; try with_reducible rfl)
                  try simp only [Act.put, List.setIfInBounds_toArray, List.set_cons_zero, List.set_cons_succ]
                  refine wpAnyT_take (i := 2) (v := ?_) (by simp only [List.getElem?_toArray, List.getElem?_cons_zero, List.getElem?_cons_succ]; rfl) (by kernel_rfl) (by kernel_rfl) (by kernel_rfl) (by kernel_rfl) (by exact fun _ _ _ h => h) (Or.inl ⟨by rfl, ?hyb2⟩) hS ?restb2
                  case hyb2 => (intro W' hSW; obtain ⟨x1, x2, x3, x4, x5, x6⟩ := hSW; go_simp; try with_reducible rfl)
                  try simp only [Act.put, List.setIfInBounds_toArray, List.set_cons_zero, List.set_cons_succ]
                  refine wpAnyT_take (i := 3) (v := ?_) (by simp only [List.getElem?_toArray, List.getElem?_cons_zero, List.getElem?_cons_succ]; rfl) (by kernel_rfl) (by kernel_rfl) (by kernel_rfl) (by kernel_rfl) (by exact fun _ _ _ h => h) (Or.inl ⟨by rfl, ?hyb3⟩) hS ?restb3
                  case hyb3 => (intro W' hSW; obtain ⟨x1, x2, x3, x4, x5, x6⟩ := hSW; go_simp; try with_reducible rfl)
                  try simp only [Act.put, List.setIfInBounds_toArray, List.set_cons_zero, List.set_cons_succ]
                  refine wpAnyT_take (i := 4) (v := ?_) (by simp only [List.getElem?_toArray, List.getElem?_cons_zero, List.getElem?_cons_succ]; rfl) (by kernel_rfl) (by kernel_rfl) (by kernel_rfl) (by kernel_rfl) (by exact fun _ _ _ h => h) (Or.inl ⟨by rfl, ?hyb4⟩) hS ?restb4
                  case hyb4 => (intro W' hSW; obtain ⟨x1, x2, x3, x4, x5, x6⟩ := hSW; go_simp; try with_reducible rfl)
                  try simp only [Act.put, List.setIfInBounds_toArray, List.set_cons_zero, List.set_cons_succ]
                  refine wpAnyT_take (i := 5) (v := ?_) (by simp only [List.getElem?_toArray, List.getElem?_cons_zero, List.getElem?_cons_succ]; rfl) (by kernel_rfl) (by kernel_rfl) (by kernel_rfl) (by kernel_rfl) (by exact fun _ _ _ h => h) (Or.inl ⟨by rfl, ?hyb5⟩) hS ?restb5
                  case hyb5 => (intro W' hSW; obtain ⟨x1, x2, x3, x4, x5, x6⟩ := hSW; go_simp; try with_reducible rfl)
                  try simp only [Act.put, List.setIfInBounds_toArray, List.set_cons_zero, List.set_cons_succ]
                  refine wpAnyT_take (i := 6) (v := ?_) (by simp only [List.getElem?_toArray, List.getElem?_cons_zero, List.getElem?_cons_succ]; rfl) (by kernel_rfl) (by kernel_rfl) (by kernel_rfl) (by kernel_rfl) (by exact fun _ _ _ h => h) (Or.inl ⟨by rfl, ?hyb6⟩) hS ?restb6
                  case hyb6 => (intro W' hSW; obtain ⟨x1, x2, x3, x4, x5, x6⟩ := hSW; go_simp; try with_reducible rfl)
                  try simp only [Act.put, List.setIfInBounds_toArray, List.set_cons_zero, List.set_cons_succ]
                  refine wpAnyT_take (i := 7) (v := ?_) (by simp only [List.getElem?_toArray, List.getElem?_cons_zero, List.getElem?_cons_succ]; rfl) (by kernel_rfl) (by kernel_rfl) (by kernel_rfl) (by kernel_rfl) (by exact fun _ _ _ h => h) (Or.inl ⟨by rfl, ?hyb7⟩) hS ?restb7
                  case hyb7 => (intro W' hSW; obtain ⟨x1, x2, x3, x4, x5, x6⟩ := hSW; go_simp; try with_reducible rfl)
                  try simp only [Act.put, List.setIfInBounds_toArray, List.set_cons_zero, List.set_cons_succ]
                  refine wpAnyT_take (i := 8) (v := ?_) (by simp only [List.getElem?_toArray, List.getElem?_cons_zero, List.getElem?_cons_succ]; rfl) (by kernel_rfl) (by kernel_rfl) (by kernel_rfl) (by kernel_rfl) (by exact fun _ _ _ h => h) (Or.inl ⟨by rfl, ?hyb8⟩) hS ?restb8
                  case hyb8 => (intro W' hSW; obtain ⟨x1, x2, x3, x4, x5, x6⟩ := hSW; go_simp; try with_reducible rfl)
                  try simp only [Act.put, List.setIfInBounds_toArray, List.set_cons_zero, List.set_cons_succ]
                  refine wpAnyT_take (i := 9) (v := ?_) (by simp only [List.getElem?_toArray, List.getElem?_cons_zero, List.getElem?_cons_succ]; rfl) (by kernel_rfl) (by kernel_rfl) (by kernel_rfl) (by kernel_rfl) (by exact fun _ _ _ h => h) (Or.inl ⟨by rfl, ?hyb9⟩) hS ?restb9
                  case hyb9 => (intro W' hSW; obtain ⟨x1, x2, x3, x4, x5, x6⟩ := hSW; go_simp; try with_reducible rfl)
                  try simp only [Act.put, List.setIfInBounds_toArray, List.set_cons_zero, List.set_cons_succ]
                  refine wpAnyT_take (i := 10) (v := ?_) (by simp only [List.getElem?_toArray, List.getElem?_cons_zero, List.getElem?_cons_succ]; rfl) (by kernel_rfl) (by kernel_rfl) (by kernel_rfl) (by kernel_rfl) (by exact fun _ _ _ h => h) (Or.inl ⟨by rfl, ?hyb10⟩) hS ?restb10
                  case hyb10 => (intro W' hSW; obtain ⟨x1, x2, x3, x4, x5, x6⟩ := hSW; go_simp; try with_reducible rfl)
                  try simp only [Act.put, List.setIfInBounds_toArray, List.set_cons_zero, List.set_cons_succ]
                  refine wpAnyT_take (i := 11) (v := ?_) (by simp only [List.getElem?_toArray, List.getElem?_cons_zero, List.getElem?_cons_succ]; rfl) (by kernel_rfl) (by kernel_rfl) (by kernel_rfl) (by kernel_rfl) (by exact fun _ _ _ h => h) (Or.inl ⟨by rfl, ?hyb11⟩) hS ?restb11
                  case hyb11 => (intro W' hSW; obtain ⟨x1, x2, x3, x4, x5, x6⟩ := hSW; go_simp; try with_reducible rfl)
                  try simp only [Act.put, List.setIfInBounds_toArray, List.set_cons_zero, List.set_cons_succ]
                  refine wpAnyT_take (i := 12) (v := ?_) (by simp only [List.getElem?_toArray, List.getElem?_cons_zero, List.getElem?_cons_succ]; rfl) (by kernel_rfl) (by kernel_rfl) (by kernel_rfl) (by kernel_rfl) (by exact fun _ _ _ h => h) (Or.inl ⟨by rfl, ?hyb12⟩) hS ?restb12
                  case hyb12 => (intro W' hSW; obtain ⟨x1, x2, x3, x4, x5, x6⟩ := hSW; go_simp; try with_reducible rfl)
                  try simp only [Act.put, List.setIfInBounds_toArray, List.set_cons_zero, List.set_cons_succ]
                  refine wpAnyT_take (i := 13) (v := ?_) (by simp only [List.getElem?_toArray, List.getElem?_cons_zero, List.getElem?_cons_succ]; rfl) (by kernel_rfl) (by kernel_rfl) (by kernel_rfl) (by kernel_rfl) (by exact fun _ _ _ h => h) (Or.inl ⟨by rfl, ?hyb13⟩) hS ?restb13
                  case hyb13 => (intro W' hSW; obtain ⟨x1, x2, x3, x4, x5, x6⟩ := hSW; go_simp; try with_reducible rfl)
                  try simp only [Act.put, List.setIfInBounds_toArray, List.set_cons_zero, List.set_cons_succ]
                  refine wpAnyT_take (i := 14) (v := ?_) (by simp only [List.getElem?_toArray, List.getElem?_cons_zero, List.getElem?_cons_succ]; rfl) (by kernel_rfl) (by kernel_rfl) (by kernel_rfl) (by kernel_rfl) (by exact fun _ _ _ h => h) (Or.inl ⟨by rfl, ?hyb14⟩) hS ?restb14
                  case hyb14 => (intro W' hSW; obtain ⟨x1, x2, x3, x4, x5, x6⟩ := hSW; go_simp; try with_reducible rfl)
                  try simp only [Act.put, List.setIfInBounds_toArray, List.set_cons_zero, List.set_cons_succ]
                  refine wpAnyT_ready (rs := [15]) (by kernel_rfl) (by simp) ?_
                  refine AllReadyT.cons (by simp only [List.getElem?_toArray, List.getElem?_cons_zero, List.getElem?_cons_succ]; rfl) (fun K hK => ?_) AllReadyT.nil
                  go_simp
                  have hbO := (Below.refl wr.heap.size wr.drew).alloc (Nat.le_refl _) (.cells #[.int .i64 x.shows, .int .i64 x.seen] 27)
                  refine hK.out _ _ (fun _ => ⟨bcell hbO z0 l4, bcell hbO z1 r0, bcell hbO z2 d1, bcell hbO z3 o0, bcell hbO z4 e0, bcell hbO z4 e1⟩) ?_
                  clear hK K
                  try simp only [Act.put, List.setIfInBounds_toArray, List.set_cons_zero, List.set_cons_succ]
                  refine wpAnyT_ready (rs := [16]) (by kernel_rfl) (by simp) ?_
                  refine AllReadyT.cons (by simp only [List.getElem?_toArray, List.getElem?_cons_zero, List.getElem?_cons_succ]; rfl) (fun K hK => ?_) AllReadyT.nil
                  refine step_append_lies (wr.drew.alloc (.cells #[.int .i64 x.shows, .int .i64 x.seen] 27)) (by rfl) (.tmp 94) (.tmp 109) 39 (by rfl) w5.heap.size 27 il (.agg #[.int .i64 0, .int .i64 0]) 2 16 Try.underlying39 HIL.out HIL0.out HIL1.out HIL2.out rfl (by decide) (.slice Al p cl) p (ltCells (picks ⟨0, 0⟩ L.squares[j] (os.take p))) (by rfl) (HOD.out.alloc (.cells #[.int .i64 x.shows, .int .i64 x.seen] 27)) ⟨wr.heap.size, 0, none⟩ 1 1 [.int .i64 x.shows, .int .i64 x.seen] (by rfl) (by rfl) (World.news_of_block (heap_alloc_new wr.drew (.cells #[.int .i64 x.shows, .int .i64 x.seen] 27))) (by simp [Value.oneCell']) (by omega) (by unfold maxLen; omega) (by omega) (by simp; omega) (wr.heap.size + 1) (by simp) ?_
                  intro g8 c8 w8 hown8 hgrow8 hat8 hlt8
                  have hS8 : (fun W' => W'.cell? ⟨w2.heap.size, 4, none⟩ = some (.slice (some ⟨sb, 0, none⟩) L.squares.length sc) ∧ W'.cell? ⟨gq, i, none⟩ = some (.int .i64 j) ∧ W'.cell? ⟨sb, j, none⟩ = some (.slice (some ⟨lk, 0, none⟩) nl c1) ∧ W'.cell? ⟨go, p, none⟩ = some (.int .i64 q) ∧ W'.cell? ⟨lk, q * 2, none⟩ = some (.int .i64 x.shows) ∧ W'.cell? ⟨lk, q * 2 + 1, none⟩ = some (.int .i64 x.seen)) w8 := ⟨(hgrow8.cell_far _ (by simp; omega) M0.out).trans (bcell hbO z0 l4), (hgrow8.cell_far _ (by simp; omega) M1.out).trans (bcell hbO z1 r0), (hgrow8.cell_far _ (by simp; omega) M2.out).trans (bcell hbO z2 d1), (hgrow8.cell_far _ (by simp; omega) M3.out).trans (bcell hbO z3 o0), (hgrow8.cell_far _ (by simp; omega) M4.out).trans (bcell hbO z4 e0), (hgrow8.cell_far _ (by simp; omega) M4.out).trans (bcell hbO z4 e1)⟩
                  try go_simp
                  refine hK.out _ _ (fun _ => hS8) ?_
                  clear hK K hS hbO
                  try simp only [Act.put, List.setIfInBounds_toArray, List.set_cons_zero, List.set_cons_succ]
                  refine wpAnyT_take (i := 17) (v := ?_) (by simp only [List.getElem?_toArray, List.getElem?_cons_zero, List.getElem?_cons_succ]; rfl) (by kernel_rfl) (by kernel_rfl) (by kernel_rfl) (by kernel_rfl) (by exact fun _ _ _ h => h) (Or.inl ⟨by rfl, ?hyb17⟩) hS8 ?restb17
                  case hyb17 => (intro W' hSW; obtain ⟨x1, x2, x3, x4, x5, x6⟩ := hSW; go_simp; try with_reducible rfl)
                  try simp only [Act.put, List.setIfInBounds_toArray, List.set_cons_zero, List.set_cons_succ]
                  refine wpAnyT_done (by kernel_rfl) ?_ _
                  go_wp2
                  go_roundw
                  case rel =>
                    have htp := picks_take (⟨0, 0⟩ : Light) L.squares[j] os HPQ'.out hql
                    have hxe := HX.out
                    subst hxe
                    exact ⟨p + 1, by omega, by go_num, by rw [htp, ltCells_snoc]; exact hown8, ((HBL.out.drew.alloc zz _).grown hgrow8 (by simp; omega) fun b e => (HOL.out.lt b e).1)⟩
                  case measure => simp [intOf]; omega
              · obtain rfl : p = nl := by omega
                have hoslen : os.length = p := perm_len HPO.out
                have htk : os.take p = os := List.take_of_length_le (by omega)
                have hol2 := HOL.out
                rw [htk] at hol2
                have hqp : (picks ⟨0, 0⟩ L.squares[j] os).Perm L.squares[j] := picks_perm _ _ _ (by rw [← HNL.out]; exact HPO.out)
                have hql : (picks (⟨0, 0⟩ : Light) L.squares[j] os).length = p := by rw [picks_len]; exact hoslen
                have HLB := Lib.hid (show LightsB wr (.slice Al p cl) (picks ⟨0, 0⟩ L.squares[j] os) from LightsB.of_own (base := w5.heap.size) (by rw [hql]; exact hol2))
                have HQP := Lib.hid hqp
                have hkw := HK5.out.trans (Kg.of_below HBL.out)
                have huw := HU5.out.keep HBL.out HU5.out.size
                have RR := Lib.hid (HR.out.kg hkw huw)
                have BB := Lib.hid (B1.out.kg hkw (HR.out.2.1.ne B1.out (by decide)))
                have HH2 := Lib.hid (HHX.out.kg HR.out.2.1 hkw)
                have OO := Lib.hid (own_kg HO.out HR.out.2.1 (by decide) hkw)
                have SS := Lib.hid (HS.out.kg HR.out.2.1 hkw)
                have x4 : wr.cell? ⟨wc.heap.size, 4, none⟩ = some (.slice Ax i cx4) := BB.out.cell 4
                have x5 := BB.out.size
                have hWr := RR.out.1.size
                obtain ⟨iq, hiq, hiqz0, hiqz1, hiqz2⟩ := info_parts info_cplights
                have HIQ := Lib.hid hiq
                have HIQ0 := Lib.hid hiqz0
                have HIQ1 := Lib.hid hiqz1
                have HIQ2 := Lib.hid hiqz2
                have hn7 := World.news_of_block (heap_alloc_new wr (.cells #[.slice Al p cl] 39))
                have HN7 := Lib.hid hn7
                have HO7 := Lib.hid (OO.out.alloc (.cells #[.slice Al p cl] 39))
                have HB7 := Lib.hid (BB.out.alloc (.cells #[.slice Al p cl] 39))
                clear hiq hiqz0 hiqz1 hiqz2 hn7 hkw huw hqp hql hol2 htk hoslen hol hbl zz
                go_wp2_with (at_builtin; refine wpList_append_lies _ rfl _ _ 23 rfl W.heap.size 39 iq _ 1 24 Try.underlying23 HIQ.out HIQ0.out HIQ1.out HIQ2.out rfl (by decide) (.slice Ax i cx4) i lvs (by rfl) HO7.out ⟨wr.heap.size, 0, none⟩ 1 1 [.slice Al p cl] (by rfl) (by rfl) HN7.out (by simp [Value.oneCell']) (by omega) (by unfold maxLen; omega) (by omega) (by simp; omega) _ rfl ?_; intro g8 c8 w8 hown8 hgrow8 hat8 hlt8; have b8 := HB7.out.grown hgrow8 (own_ne_row HO7.out HB7.out (by decide)); have x8 : w8.cell? ⟨wc.heap.size, 4, none⟩ = some (.slice Ax i cx4) := b8.cell 4; have f8 := b8.free 4; have HG8 := Lib.hid hgrow8; have HO8 := Lib.hid hown8; clear b8 hgrow8 hown8 hat8)
                exact ⟨⟨i + 1, by omega, by go_num, EiQ.step HJK.out hjl RR.out BB.out HH2.out OO.out SS.out HT.out hxb HLB.out HQP.out ((Below.refl _ _).alloc (Nat.le_refl _) _) HG8.out HO8.out⟩, by simp [intOf]; omega⟩
          · obtain rfl : i = n := by omega
            have htk : qs.take i = qs := List.take_of_length_le (by rw [← HN.out]; exact Nat.le_refl _)
            have hT := HT.out
            rw [htk] at hT
            have hQL : QS.length = i := by rw [hT.1]; exact HN.out.symm
            have hSB := SquaresB.of_own HO.out hQL.symm hn1 HS.out
            obtain ⟨gs, cS, hAx, -, -⟩ := HO.out.form hn1
            injection hAx with hA1 hA2 hA3
            subst hA1 hA3
            have hX := turned_turned HPH.out HPQ.out hT
            have hXok := turned_ok HOK.out HPH.out HPQ.out hT
            have HX := Lib.hid hX
            have HXO := Lib.hid hXok
            have HTW := Lib.hid (show Two w w2.heap.size w.heap.size (.slice (some ⟨hb, 0, none⟩) L.hands.length hc) (.slice (some ⟨sb, 0, none⟩) L.squares.length sc) (.slice (some ⟨vb, 0, none⟩) vis.length vc) L hand lts wc.heap.size (.slice (some ⟨gx, 0, none⟩) k cx) (.slice (some ⟨gs, 0, none⟩) i cx4) (turnedL L hs QS) wr from ⟨HTL.out, B1.out, HHX.out, hSB⟩)
            have HXL := Lib.hid (show (turnedL L hs QS).squares.length = i from hQL)
            obtain ⟨X, hXX⟩ : ∃ X, X = turnedL L hs QS := ⟨_, rfl⟩
            have ew : L.worn = X.worn := by rw [hXX]; rfl
            have es : L.scr = X.scr := by rw [hXX]; rfl
            have et : L.total = X.total := by rw [hXX]; rfl
            rw [← hXX] at HX HXO HTW HXL
            have HXN := Lib.hid (HX.out.ne HNE.out)
            have HLN := Lib.hid (show L.squares.length = i by have := HN.out; omega)
            have k0 : wr.cell? ⟨wc.heap.size, 0, none⟩ = some (.slice (some ⟨gx, 0, none⟩) k cx) := HTW.out.2.1.cell 0
            have k4 : wr.cell? ⟨wc.heap.size, 4, none⟩ = some (.slice (some ⟨gs, 0, none⟩) i cx4) := HTW.out.2.1.cell 4
            have HRW := Lib.hid HR.out
            clear hT hQL hSB hA2 htk hX hXok HTL HHX HO HS HT hXX ew es et l4 B1 HR hlq hlh
            clear k0 k4
            have l0 : wr.cell? ⟨w2.heap.size, 0, none⟩ = some (.slice (some ⟨hb, 0, none⟩) L.hands.length hc) := HTW.out.1.1.1.cell 0
            have l1 : wr.cell? ⟨w2.heap.size, 1, none⟩ = some (.int .i64 L.worn) := HTW.out.1.1.1.cell 1
            have l2 : wr.cell? ⟨w2.heap.size, 2, none⟩ = some (.int .i64 L.scr) := HTW.out.1.1.1.cell 2
            have l3 : wr.cell? ⟨w2.heap.size, 3, none⟩ = some (.int .i64 L.total) := HTW.out.1.1.1.cell 3
            have l4 : wr.cell? ⟨w2.heap.size, 4, none⟩ = some (.slice (some ⟨sb, 0, none⟩) L.squares.length sc) := HTW.out.1.1.1.cell 4
            go_wp2_with fail
            refine (letters_some Unit _ L _ HOK.out HTW.out.lineL HNE.out).mono ?_
            rintro e w5 ⟨ua, rfl, hua, hb5⟩
            have HT5 := Lib.hid (HTW.out.below hb5)
            have HR5 := Lib.hid (HRW.out.below hb5)
            have HA5 := Lib.hid hua
            obtain ⟨Aa, ca, rfl⟩ := own_slice hua
            clear hb5 hua HTW HRW
            clear l0 l1 l2 l3 l4
            have k0 : w5.cell? ⟨wc.heap.size, 0, none⟩ = some (.slice (some ⟨gx, 0, none⟩) k cx) := HT5.out.2.1.cell 0
            have k1 : w5.cell? ⟨wc.heap.size, 1, none⟩ = some (.int .i64 X.worn) := HT5.out.2.1.cell 1
            have k2 : w5.cell? ⟨wc.heap.size, 2, none⟩ = some (.int .i64 X.scr) := HT5.out.2.1.cell 2
            have k3 : w5.cell? ⟨wc.heap.size, 3, none⟩ = some (.int .i64 X.total) := HT5.out.2.1.cell 3
            have k4 : w5.cell? ⟨wc.heap.size, 4, none⟩ = some (.slice (some ⟨gs, 0, none⟩) i cx4) := HT5.out.2.1.cell 4
            go_wp2_with fail
            refine (letters_some Unit _ X _ HXO.out HT5.out.lineX HXN.out).mono ?_
            rintro e w6 ⟨ub, rfl, hub, hb6⟩
            have HT6 := Lib.hid (HT5.out.below hb6)
            have HR6 := Lib.hid (HR5.out.below hb6)
            have HA6 := Lib.hid (own_below HA5.out hb6 (Nat.le_refl _))
            have HB6 := Lib.hid hub
            obtain ⟨Ab, cb, rfl⟩ := own_slice hub
            clear hb6 hub HT5 HR5 HA5
            clear k0 k1 k2 k3 k4
            have l0 : w6.cell? ⟨w2.heap.size, 0, none⟩ = some (.slice (some ⟨hb, 0, none⟩) L.hands.length hc) := HT6.out.1.1.1.cell 0
            have l1 : w6.cell? ⟨w2.heap.size, 1, none⟩ = some (.int .i64 L.worn) := HT6.out.1.1.1.cell 1
            have l2 : w6.cell? ⟨w2.heap.size, 2, none⟩ = some (.int .i64 L.scr) := HT6.out.1.1.1.cell 2
            have l3 : w6.cell? ⟨w2.heap.size, 3, none⟩ = some (.int .i64 L.total) := HT6.out.1.1.1.cell 3
            have l4 : w6.cell? ⟨w2.heap.size, 4, none⟩ = some (.slice (some ⟨sb, 0, none⟩) L.squares.length sc) := HT6.out.1.1.1.cell 4
            go_wp2_with fail
            refine (hands_list _ L _ HOK.out HT6.out.lineL HNE.out).mono ?_
            rintro e w7 ⟨vc', rfl, hic, hb7⟩
            obtain ⟨Ac, cc, rfl, hAc⟩ := hic
            have HT7 := Lib.hid (HT6.out.below hb7)
            have HR7 := Lib.hid (HR6.out.below hb7)
            have HA7 := Lib.hid (own_below HA6.out hb7 (Nat.le_refl _))
            have HB7 := Lib.hid (own_below HB6.out hb7 (Nat.le_refl _))
            have HC7 := Lib.hid (show Ints w7 w7.heap.size (.slice Ac (handsOf L).length cc) (handsOf L) from ⟨Ac, cc, rfl, hAc⟩)
            clear hb7 hAc HT6 HR6 HA6 HB6
            clear l0 l1 l2 l3 l4
            have k0 : w7.cell? ⟨wc.heap.size, 0, none⟩ = some (.slice (some ⟨gx, 0, none⟩) k cx) := HT7.out.2.1.cell 0
            have k1 : w7.cell? ⟨wc.heap.size, 1, none⟩ = some (.int .i64 X.worn) := HT7.out.2.1.cell 1
            have k2 : w7.cell? ⟨wc.heap.size, 2, none⟩ = some (.int .i64 X.scr) := HT7.out.2.1.cell 2
            have k3 : w7.cell? ⟨wc.heap.size, 3, none⟩ = some (.int .i64 X.total) := HT7.out.2.1.cell 3
            have k4 : w7.cell? ⟨wc.heap.size, 4, none⟩ = some (.slice (some ⟨gs, 0, none⟩) i cx4) := HT7.out.2.1.cell 4
            go_wp2_with fail
            refine (hands_list _ X _ HXO.out HT7.out.lineX HXN.out).mono ?_
            rintro e w8 ⟨vd', rfl, hid, hb8⟩
            obtain ⟨Ad, cd, rfl, hAd⟩ := hid
            have HT8 := Lib.hid (HT7.out.below hb8)
            have HR8 := Lib.hid (HR7.out.below hb8)
            have HA8 := Lib.hid (own_below HA7.out hb8 (Nat.le_refl _))
            have HB8 := Lib.hid (own_below HB7.out hb8 (Nat.le_refl _))
            have HC8 := Lib.hid (HC7.out.keep (Same.of_below hb8) hb8.size)
            have HD8 := Lib.hid (show Ints w8 w8.heap.size (.slice Ad (handsOf X).length cd) (handsOf X) from ⟨Ad, cd, rfl, hAd⟩)
            clear hb8 hAd HT7 HR7 HA7 HB7 HC7
            clear k0 k1 k2 k3 k4
            have l0 : w8.cell? ⟨w2.heap.size, 0, none⟩ = some (.slice (some ⟨hb, 0, none⟩) L.hands.length hc) := HT8.out.1.1.1.cell 0
            have l1 : w8.cell? ⟨w2.heap.size, 1, none⟩ = some (.int .i64 L.worn) := HT8.out.1.1.1.cell 1
            have l2 : w8.cell? ⟨w2.heap.size, 2, none⟩ = some (.int .i64 L.scr) := HT8.out.1.1.1.cell 2
            have l3 : w8.cell? ⟨w2.heap.size, 3, none⟩ = some (.int .i64 L.total) := HT8.out.1.1.1.cell 3
            have l4 : w8.cell? ⟨w2.heap.size, 4, none⟩ = some (.slice (some ⟨sb, 0, none⟩) L.squares.length sc) := HT8.out.1.1.1.cell 4
            go_wp2_with fail
            refine (marks_yes _ L _ HOK.out HT8.out.lineL HNE.out).mono ?_
            rintro e w9 ⟨m1, rfl, hm1e, -, hb9⟩
            have HT9 := Lib.hid (HT8.out.below hb9)
            have HR9 := Lib.hid (HR8.out.below hb9)
            have HA9 := Lib.hid (own_below HA8.out hb9 (Nat.le_refl _))
            have HB9 := Lib.hid (own_below HB8.out hb9 (Nat.le_refl _))
            have HC9 := Lib.hid (HC8.out.keep (Same.of_below hb9) hb9.size)
            have HD9 := Lib.hid (HD8.out.keep (Same.of_below hb9) hb9.size)
            have HM1 := Lib.hid hm1e
            clear hb9 hm1e HT8 HR8 HA8 HB8 HC8 HD8
            clear l0 l1 l2 l3 l4
            have k0 : w9.cell? ⟨wc.heap.size, 0, none⟩ = some (.slice (some ⟨gx, 0, none⟩) k cx) := HT9.out.2.1.cell 0
            have k1 : w9.cell? ⟨wc.heap.size, 1, none⟩ = some (.int .i64 X.worn) := HT9.out.2.1.cell 1
            have k2 : w9.cell? ⟨wc.heap.size, 2, none⟩ = some (.int .i64 X.scr) := HT9.out.2.1.cell 2
            have k3 : w9.cell? ⟨wc.heap.size, 3, none⟩ = some (.int .i64 X.total) := HT9.out.2.1.cell 3
            have k4 : w9.cell? ⟨wc.heap.size, 4, none⟩ = some (.slice (some ⟨gs, 0, none⟩) i cx4) := HT9.out.2.1.cell 4
            go_wp2_with fail
            refine (marks_yes _ X _ HXO.out HT9.out.lineX HXN.out).mono ?_
            rintro e w10 ⟨m2, rfl, hm2e, -, hb10⟩
            obtain rfl : m2 = m1 := by rw [hm2e, HM1.out]; exact HX.out.marks
            have HTa := Lib.hid (HT9.out.below hb10)
            have HRa := Lib.hid (HR9.out.below hb10)
            have HAa := Lib.hid (own_below HA9.out hb10 (Nat.le_refl _))
            have HBa := Lib.hid (own_below HB9.out hb10 (Nat.le_refl _))
            have HCa := Lib.hid (HC9.out.keep (Same.of_below hb10) hb10.size)
            have HDa := Lib.hid (HD9.out.keep (Same.of_below hb10) hb10.size)
            clear hb10 hm2e HT9 HR9 HA9 HB9 HC9 HD9 HM1
            clear k0 k1 k2 k3 k4
            have hdl := HX.out.hands_len
            have hdl4 : (handsOf L).length ≤ 100 := hands_le _ HOK.out
            obtain ⟨d, hd⟩ : ∃ d, d = (handsOf L).length := ⟨_, rfl⟩
            have HAb := HAa.out
            have HBb := HBa.out
            have HCb := HCa.out
            have HDb := HDa.out
            rw [hdl] at HDb ⊢
            rw [← hd] at HCb HDb hdl4 ⊢
            rw [HLN.out] at HAb ⊢
            rw [HXL.out] at HBb ⊢
            have HD := Lib.hid hd
            have HDL := Lib.hid hdl
            have HAc := Lib.hid HAb
            have HBc := Lib.hid HBb
            have HCc := Lib.hid HCb
            have HDc := Lib.hid HDb
            clear hd hdl HAb HBb HCb HDb HAa HBa HCa HDa
            have hz10 := HTa.out.1.1.2.2.2.size
            obtain ⟨gA, cA, hA, -, hAlt⟩ := HAc.out.form hn1
            obtain ⟨gB, cB, hB, -, hBlt⟩ := HBc.out.form hn1
            injection hA with hA1 hA2 hA3
            injection hB with hB1 hB2 hB3
            subst hA1 hA3 hB1 hB3
            clear hA2 hB2
            have hrq := HRa.out.2.2.2
            rw [← HN.out] at hrq
            obtain ⟨gQ, cQ, hAq, -, hQlt⟩ := hrq.form hn1
            injection hAq with hA1 hA2 hA3
            subst hA1 hA3
            have HRQ := Lib.hid hrq
            clear hrq hA2
            go_wp2_with fail
            go_loopw [26] (fun z wr => ∃ p d : Nat, p ≤ i ∧ z = .int .i64 p ∧ wr = w10.drewN d) (fun z _ => i - (intOf z).toNat)
            case atStart => exact ⟨0, 0, by omega, rfl, rfl⟩
            case round =>
              obtain ⟨p, dd, hp, rfl, hwr⟩ := hrel
              have HW := Lib.hid hwr
              by_cases hlt : p < i
              · have hpq : p < qs.length := by rw [← HN.out]; exact hlt
                obtain ⟨q, hq⟩ : ∃ q, qs[p]? = some q := ⟨_, List.getElem?_eq_getElem hpq⟩
                have hql : q < L.squares.length := perm_lt HPQ.out hq
                obtain ⟨s, hs⟩ : ∃ s, s = orderText (allLetters L q) := ⟨_, rfl⟩
                have cs0 : w10.cell? ⟨gA, q, none⟩ = some (.string s) := by rw [HAc.out.cellAt q (by rw [← HLN.out]; omega), List.getElem?_map, letters_at L q hql, hs]; rfl
                have cx0 : w10.cell? ⟨gB, p, none⟩ = some (.string s) := by rw [HBc.out.cellAt p (by omega), List.getElem?_map, letters_at X p (by rw [HXL.out]; exact hlt), HX.out.letters hq, hs]; rfl
                have cq0 : w10.cell? ⟨gQ, p, none⟩ = some (.int .i64 q) := (HRQ.out.cellAt p (by omega)).trans (ns_get hq)
                have cs1 : wr.cell? ⟨gA, q, none⟩ = some (.string s) := by rw [HW.out]; exact cs0
                have cx1 : wr.cell? ⟨gB, p, none⟩ = some (.string s) := by rw [HW.out]; exact cx0
                have cq1 : wr.cell? ⟨gQ, p, none⟩ = some (.int .i64 q) := by rw [HW.out]; exact cq0
                have j1 : (0 : Int) ≤ (p : Int) := by omega
                have j2 : (p : Int) < (i : Int) := by omega
                have j3 : (0 : Int) ≤ (q : Int) := by omega
                have j4 : (q : Int) < (i : Int) := by have := HLN.out; omega
                clear cs0 cx0 cq0 hs hq hpq hql hwr
                go_wp2_with fail
                go_quiet (fail)
                go_wp2
                go_roundw
                case rel => exact ⟨p + 1, dd + nq, by omega, by go_num, by rw [HW.out, World.drewN_drewN]⟩
                case measure => simp [intOf]; omega
              · obtain rfl : p = i := by omega
                have hrh := HRa.out.2.2.1
                rw [← HM.out] at hrh
                obtain ⟨gH, cH, hAh, -, hHlt⟩ := hrh.form hm1
                injection hAh with hA1 hA2 hA3
                subst hA1 hA3
                have HRH := Lib.hid hrh
                obtain ⟨ed, ec, ee, hdc⟩ := HDc.out
                injection ee with e1 e2 e3
                subst e1 e3
                have HDC := Lib.hid hdc
                have hbw := below_drewN HTa.out.1.1.2.2.2 dd
                rw [← HW.out] at hbw
                clear hrh hA2 e2 hdc hwr
                go_wp2_with fail
                go_loop [27] (fun z => ∃ p : Nat, p ≤ d ∧ z = .int .i64 p) (fun z => d - (intOf z).toNat)
                case atStart => exact ⟨0, by omega, rfl⟩
                case round =>
                  obtain ⟨p, hp, rfl⟩ := hrel
                  by_cases hlt : p < d
                  · have hpd : p < (handsOf X).length := by rw [HDL.out, ← HD.out]; exact hlt
                    obtain ⟨y, hy⟩ : ∃ y, (handsOf X)[p]? = some y := ⟨_, List.getElem?_eq_getElem hpd⟩
                    obtain ⟨k2, hk2, hk2m⟩ := HX.out.hands (List.mem_of_getElem? hy)
                    have hyk : y < k := by rw [HM.out]; exact (List.getElem?_eq_some_iff.1 hk2).1
                    obtain ⟨bd, od, rfl, hbd, hcd⟩ := HDC.out (by omega)
                    have cy0 : w10.cell? ⟨bd, od + p, none⟩ = some (.int .i64 y) := hcd p y hy
                    have ch0 : w10.cell? ⟨gH, y, none⟩ = some (.int .i64 k2) := (HRH.out.cellAt y (by omega)).trans (ns_get hk2)
                    have cy1 : wr.cell? ⟨bd, od + p, none⟩ = some (.int .i64 y) := by rw [HW.out]; exact cy0
                    have ch1 : wr.cell? ⟨gH, y, none⟩ = some (.int .i64 k2) := by rw [HW.out]; exact ch0
                    have HIN := Lib.hid hk2m
                    have HCI := Lib.hid (show Ints wr w10.heap.size (.slice Ac d cc) (handsOf L) by rw [HW.out]; exact HCc.out)
                    have j1 : (0 : Int) ≤ (p : Int) := by omega
                    have j2 : (p : Int) < (d : Int) := by omega
                    have j3 : (0 : Int) ≤ (y : Int) := by omega
                    have j4 : (y : Int) < (k : Int) := by omega
                    have j5 : decide ((y : Int) < 0) = false := by simp
                    have j6 : decide ((k : Int) ≤ (y : Int)) = false := by simp; omega
                    have hd100 : (handsOf L).length ≤ 100 := hands_le _ HOK.out
                    clear cy0 ch0 hy hk2 hk2m hcd hpd
                    go_wp2_with (go_at_call 36; refine (in_yes _ (handsOf L) k2 _ hd100 _ (HCI.out) HIN.out).mono ?_; rintro e wq ⟨rfl, rfl⟩)
                    go_round
                    case rel => exact ⟨p + 1, by omega, by go_num⟩
                    case measure => simp [intOf]; omega
                  · obtain rfl : p = d := by omega
                    go_wp2_with (go_at_call 14; refine (ready_any Unit _).mono ?_; rintro e w11 ⟨rfl, hb11⟩; have HB11 := Lib.hid hb11; clear hb11)
                    go_ret
                    exact ⟨rfl, hbw.trans (HB11.out.mono hbw.size)⟩
end Go.Proofs.Ytmoohefoilaigaa
