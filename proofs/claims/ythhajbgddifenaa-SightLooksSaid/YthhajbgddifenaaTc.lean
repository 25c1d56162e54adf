/- SightLooks's walk. -/
import Derived.Test.YthhajbgddifenaaSg
namespace Go.Proofs.Ythhajbgddifenaa
open Go.RowKit Go.Shelf

set_option maxRecDepth 100000 in
set_option maxHeartbeats 4000000 in
theorem looks_walk (v : Value) (R : RLine) (a0 : Option Addr) (len0 cap0 : Nat) (w : World) (hv : RLineAt w w.heap.size v R) (hr : NumRow w a0 len0) :
    Calls Try.prog 5 #[v, .slice a0 len0 cap0] w (EnoughPost w) := by
  have HV := Lib.hid hv
  obtain ⟨vh, vs, rfl, ⟨AH, nh, ch, rfl⟩, AQ, m, cq, rfl⟩ := hv.form
  have hm : m = R.squares.length := by
    obtain ⟨vh', vs', e, h1, h2⟩ := hv
    obtain ⟨A2, c2, e2, -⟩ := RSl.form h2
    subst e2
    injection e with e
    simp only [Array.mk.injEq, List.cons.injEq, and_true] at e
    obtain ⟨-, -, -, -, e⟩ := e
    injection e
  obtain ⟨wn, hwn⟩ : ∃ wn, wn = R.worn := ⟨_, rfl⟩
  obtain ⟨sc, hsc⟩ : ∃ sc, sc = R.scr := ⟨_, rfl⟩
  obtain ⟨tt, htt⟩ : ∃ tt, tt = R.total := ⟨_, rfl⟩
  rw [← hwn, ← hsc, ← htt] at HV ⊢
  have HR0 := Lib.hid hr
  have HCK := Lib.hid (fun (W : World) (hW : Below w.heap.size w W) => fcheck_any _ R W (HV.out.keep (SameA.of_below hW) hW.size))
  obtain ⟨er, her⟩ : ∃ er, er = lineErr R := ⟨_, rfl⟩
  rw [← her] at HCK
  have HM := Lib.hid hm
  clear hv hwn hsc htt hr her hm
  go_enter Try.func5, Try.ntmps5
  go_upto_region 1 with fail
  obtain ⟨W0, hW0⟩ : ∃ W0, W0 = w.alloc (.cells #[.slice AH nh ch, .int .i64 wn, .int .i64 sc, .int .i64 tt, .slice AQ m cq] 25) := ⟨_, rfl⟩
  have HB0 := Lib.hid (show Below w.heap.size w W0 by rw [hW0]; exact (Below.refl _ _).alloc (Nat.le_refl _) _)
  have BL0 := Lib.hid (show Blok W0 w.heap.size 25 [.slice AH nh ch, .int .i64 wn, .int .i64 sc, .int .i64 tt, .slice AQ m cq] by rw [hW0]; exact Blok.new w _ _)
  rw [← hW0]
  clear hW0
  go_cut [28] (fun s28 wc => ∃ b : Bool, s28 = .bool b ∧ Hid (b = false → RSmall20 R) ∧ Hid (Below w.heap.size w wc) ∧ Hid (Blok wc w.heap.size 25 [.slice AH nh ch, .int .i64 wn, .int .i64 sc, .int .i64 tt, .slice AQ m cq]))
  case first =>
    have o0 : W0.cell? ⟨w.heap.size, 0, none⟩ = some (.slice AH nh ch) := BL0.out.cell 0
    have o1 : W0.cell? ⟨w.heap.size, 1, none⟩ = some (.int .i64 wn) := BL0.out.cell 1
    have o2 : W0.cell? ⟨w.heap.size, 2, none⟩ = some (.int .i64 sc) := BL0.out.cell 2
    have o3 : W0.cell? ⟨w.heap.size, 3, none⟩ = some (.int .i64 tt) := BL0.out.cell 3
    have o4 : W0.cell? ⟨w.heap.size, 4, none⟩ = some (.slice AQ m cq) := BL0.out.cell 4
    go_wp2_with fail
    refine (large_any _ R W0 (HV.out.keep (SameA.of_below HB0.out) HB0.out.size)).mono ?_
    rintro e w1 ⟨lg, rfl, hlg, hb1⟩
    have HLG := Lib.hid hlg
    have HB1 := Lib.hid (HB0.out.trans (hb1.mono HB0.out.size))
    have BL1 := Lib.hid (BL0.out.below hb1 BL0.out.size)
    clear hb1 hlg o0 o1 o2 o3 o4
    have o0 : w1.cell? ⟨w.heap.size, 0, none⟩ = some (.slice AH nh ch) := BL1.out.cell 0
    have o1 : w1.cell? ⟨w.heap.size, 1, none⟩ = some (.int .i64 wn) := BL1.out.cell 1
    have o2 : w1.cell? ⟨w.heap.size, 2, none⟩ = some (.int .i64 sc) := BL1.out.cell 2
    have o3 : w1.cell? ⟨w.heap.size, 3, none⟩ = some (.int .i64 tt) := BL1.out.cell 3
    have o4 : w1.cell? ⟨w.heap.size, 4, none⟩ = some (.slice AQ m cq) := BL1.out.cell 4
    have HC := Lib.hid (HCK.out w1 HB1.out)
    cases lg with
    | true =>
      go_wp2_with fail
      go_meet
      exact ⟨true, rfl, Lib.hid (fun h => by cases h), HB1, BL1⟩
    | false =>
      by_cases h4 : 4 < m
      · have h4' : decide (4 < m) = true := by simp [h4]
        have t4 : decide ((4 : Int) < (m : Int)) = true := by simp; omega
        go_wp2_with fail
        refine HC.out.mono ?_
        rintro e w2 ⟨rfl, hb2⟩
        have HB2 := Lib.hid (HB1.out.trans (hb2.mono HB1.out.size))
        have BL2 := Lib.hid (BL1.out.below hb2 BL1.out.size)
        clear hb2
        by_cases he : er = 0
        · subst he
          go_wp2_with fail
          go_meet
          exact ⟨true, rfl, Lib.hid (fun h => by cases h), HB2, BL2⟩
        · have t0 : (er == 0) = false := by rw [beq_eq_false_iff_ne]; exact he
          go_wp2_with fail
          go_meet
          exact ⟨false, rfl, Lib.hid (fun _ => HLG.out trivial), HB2, BL2⟩
      · have h4' : decide (4 < m) = false := by simp; omega
        have t4 : decide ((4 : Int) < (m : Int)) = false := by simp; omega
        go_wp2_with fail
        go_meet
        exact ⟨false, rfl, Lib.hid (fun _ => HLG.out trivial), HB1, BL1⟩
  case rest =>
  obtain ⟨b, rfl, HSM0, HB1, BL1⟩ := hcut
  clear HB0 BL0 HCK
  cases b with
  | true =>
    go_wp2_with fail
    refine (ready_any Unit _).mono ?_
    rintro e w8 ⟨rfl, hb8⟩
    have HB8 := Lib.hid (HB1.out.trans (hb8.mono HB1.out.size))
    clear hb8
    go_wp2_with fail
    go_ret
    exact ⟨rfl, HB8.out⟩
  | false =>
  obtain ⟨w1, rfl⟩ : ∃ w1 : World, w1 = wc := ⟨_, rfl⟩
  have z1 : w.heap.size < w1.heap.size := BL1.out.size
  have HSM := Lib.hid (HSM0.out rfl)
  have HRW := Lib.hid (show NumRow w1 a0 len0 from ⟨HR0.out.1, fun h => by
    obtain ⟨y, e, hy⟩ := HR0.out.2 h
    refine ⟨y, e, fun i hi => ?_⟩
    obtain ⟨n, hn⟩ := hy i hi
    exact ⟨n, (HB1.out.cell (p := y.add i) (World.block_lt_of_cell? w _ hn)).trans hn⟩⟩)
  clear HSM0 HM
  go_wp2_with fail
  refine (newUrn_any _ _ _ _ HRW.out).mono ?_
  rintro e w2 ⟨rfl, hu2, hb2⟩
  have HB2 := Lib.hid (HB1.out.trans (hb2.mono HB1.out.size))
  have BL2 := Lib.hid (BL1.out.below hb2 BL1.out.size)
  have HU2 := Lib.hid hu2
  have hz2 := hb2.size
  clear hb2 hu2
  go_wp2_with fail
  refine (lineOf_any _ 3 4 4 _ (by omega) (by omega) (by omega) (by omega) (by omega) (by omega) HU2.out).mono ?_
  rintro e w3 ⟨L, lv, vv, hand, ks, vis, lts, H, rfl, hlb, hok, -, -, -, -, -, -, -, hvv, -, -, hk3⟩
  obtain ⟨vb, vc, vcur, rfl, -⟩ := hvv
  have hne : w1.heap.size ≠ w.heap.size := by omega
  have HB3 := Lib.hid (HB2.out.trans (hk3.below HB2.out.size (show w.heap.size ≤ w1.heap.size by omega)))
  have BL3 := Lib.hid (BL2.out.kg hk3 (fun e => hne e.symm))
  have HLB := Lib.hid hlb
  have HOK := Lib.hid hok
  have z3 : w.heap.size < w3.heap.size := BL3.out.size
  obtain ⟨vh3, vs3, rfl, hhb, hsb⟩ := hlb
  obtain ⟨hb, hc, hcur, hsvs, rfl, -⟩ := id hhb
  obtain ⟨sb, sc3, scur, slvs, rfl, -⟩ := id hsb
  clear hhb hsb hok hk3 HB2 BL2
  go_upto_region 4 with fail
  obtain ⟨W9, hW9⟩ : ∃ W9, W9 = (w3.alloc (.cells #[.slice (some ⟨hb, 0, none⟩) L.hands.length hc, .int .i64 L.worn, .int .i64 L.scr, .int .i64 L.total, .slice (some ⟨sb, 0, none⟩) L.squares.length sc3] 25)).alloc (.cells #[.int .i64 hand, .string lts, .slice (some ⟨vb, 0, none⟩) vis.length vc] 32) := ⟨_, rfl⟩
  have hb34 : Below w3.heap.size w3 W9 := by rw [hW9]; exact ((Below.refl _ _).alloc (Nat.le_refl _) _).alloc (by simp) _
  have HBQ9 := Lib.hid (show Blok W9 w3.heap.size 25 [.slice (some ⟨hb, 0, none⟩) L.hands.length hc, .int .i64 L.worn, .int .i64 L.scr, .int .i64 L.total, .slice (some ⟨sb, 0, none⟩) L.squares.length sc3] by rw [hW9]; exact (Blok.new w3 _ _).alloc _)
  have HB9 := Lib.hid (HB3.out.trans (hb34.mono HB3.out.size))
  have HBL9 := Lib.hid (BL3.out.below hb34 BL3.out.size)
  have HM9 := Lib.hid (show RLineAt W9 W9.heap.size (.agg #[.slice (some ⟨hb, 0, none⟩) L.hands.length hc, .int .i64 L.worn, .int .i64 L.scr, .int .i64 L.total, .slice (some ⟨sb, 0, none⟩) L.squares.length sc3]) L.raw from HLB.out.raw.keep (SameA.of_below hb34) hb34.size)
  have HSL := Lib.hid (small_ok HOK.out)
  have HV9 := Lib.hid (HV.out.keep (SameA.of_below HB9.out) HB9.out.size)
  rw [← hW9]
  clear hW9 hb34 HLB HB3 BL3
  have a0 : W9.cell? ⟨w.heap.size, 0, none⟩ = some (.slice AH nh ch) := HBL9.out.cell 0
  have a1 : W9.cell? ⟨w.heap.size, 1, none⟩ = some (.int .i64 wn) := HBL9.out.cell 1
  have a2 : W9.cell? ⟨w.heap.size, 2, none⟩ = some (.int .i64 sc) := HBL9.out.cell 2
  have a3 : W9.cell? ⟨w.heap.size, 3, none⟩ = some (.int .i64 tt) := HBL9.out.cell 3
  have a4 : W9.cell? ⟨w.heap.size, 4, none⟩ = some (.slice AQ m cq) := HBL9.out.cell 4
  have b0 : W9.cell? ⟨w3.heap.size, 0, none⟩ = some (.slice (some ⟨hb, 0, none⟩) L.hands.length hc) := HBQ9.out.cell 0
  have b1 : W9.cell? ⟨w3.heap.size, 1, none⟩ = some (.int .i64 L.worn) := HBQ9.out.cell 1
  have b2 : W9.cell? ⟨w3.heap.size, 2, none⟩ = some (.int .i64 L.scr) := HBQ9.out.cell 2
  have b3 : W9.cell? ⟨w3.heap.size, 3, none⟩ = some (.int .i64 L.total) := HBQ9.out.cell 3
  have b4 : W9.cell? ⟨w3.heap.size, 4, none⟩ = some (.slice (some ⟨sb, 0, none⟩) L.squares.length sc3) := HBQ9.out.cell 4
  have hbA : Below W9.heap.size W9 (W9.alloc (.cells #[.slice AH nh ch, .int .i64 wn, .int .i64 sc, .int .i64 tt, .slice AQ m cq, .slice (some ⟨hb, 0, none⟩) L.hands.length hc, .int .i64 L.worn, .int .i64 L.scr, .int .i64 L.total, .slice (some ⟨sb, 0, none⟩) L.squares.length sc3] 25)) := (Below.refl _ _).alloc (Nat.le_refl _) _
  have hba := Blok.new W9 25 [.slice AH nh ch, .int .i64 wn, .int .i64 sc, .int .i64 tt, .slice AQ m cq, .slice (some ⟨hb, 0, none⟩) L.hands.length hc, .int .i64 L.worn, .int .i64 L.scr, .int .i64 L.total, .slice (some ⟨sb, 0, none⟩) L.squares.length sc3]
  have HALL := Lib.hid (show AllL (W9.alloc (.cells #[.slice AH nh ch, .int .i64 wn, .int .i64 sc, .int .i64 tt, .slice AQ m cq, .slice (some ⟨hb, 0, none⟩) L.hands.length hc, .int .i64 L.worn, .int .i64 L.scr, .int .i64 L.total, .slice (some ⟨sb, 0, none⟩) L.squares.length sc3] 25)) (W9.heap.size + 1) W9.heap.size [R, L.raw] by
    intro i Ri hRi
    match i, hRi with
    | 0, hRi =>
      injection hRi with hRi
      subst hRi
      exact ⟨_, _, _, _, _, hba.cell 0, hba.cell 1, hba.cell 2, hba.cell 3, hba.cell 4, HV9.out.keep (SameA.of_below hbA) (Nat.le_succ _), HSM.out.small⟩
    | 1, hRi =>
      injection hRi with hRi
      subst hRi
      exact ⟨_, _, _, _, _, hba.cell 5, hba.cell 6, hba.cell 7, hba.cell 8, hba.cell 9, (HM9.out.keep (SameA.of_below hbA) (Nat.le_succ _)), HSL.out⟩
    | _ + 2, hRi => exact absurd hRi (by simp))
  have HBA := Lib.hid (HB9.out.trans (hbA.mono HB9.out.size))
  clear hbA hba
  go_wp2_with fail
  obtain ⟨WA, hWA⟩ : ∃ WA, WA = W9.alloc (.cells #[.slice AH nh ch, .int .i64 wn, .int .i64 sc, .int .i64 tt, .slice AQ m cq, .slice (some ⟨hb, 0, none⟩) L.hands.length hc, .int .i64 L.worn, .int .i64 L.scr, .int .i64 L.total, .slice (some ⟨sb, 0, none⟩) L.squares.length sc3] 25) := ⟨_, rfl⟩
  have hsA : WA.heap.size = W9.heap.size + 1 := by rw [hWA, World.size_alloc]
  rw [← hWA] at HALL HBA ⊢
  obtain ⟨Rs, hRs⟩ : ∃ Rs, Rs = [R, L.raw] := ⟨_, rfl⟩
  have hRl : Rs.length = 2 := by rw [hRs]; rfl
  rw [← hRs] at HALL
  obtain ⟨gA, hgA⟩ : ∃ gA, gA = W9.heap.size := ⟨_, rfl⟩
  rw [← hgA] at HALL hsA ⊢
  rw [← hsA] at HALL
  have HRL := Lib.hid hRl
  have zA : gA < WA.heap.size := by omega
  clear hWA hRs hRl hgA hsA a0 a1 a2 a3 a4 b0 b1 b2 b3 b4 HV HV9 HM9 HBL9 HBQ9 HB9 HSM HSL HOK HR0 HRW HU2 HB1 BL1 z3 hz2 z1
  go_loopw [8] (fun si wr => ∃ i : Nat, i ≤ 2 ∧ si = .int .i64 i ∧ Hid (Below WA.heap.size WA wr)) (fun si _ => 2 - (intOf si).toNat)
  case atStart => exact ⟨0, by omega, rfl, Lib.hid (Below.refl _ _)⟩
  case round =>
    obtain ⟨i, hi, rfl, HW⟩ := hrel
    have zWr := HW.out.size
    by_cases hin : i < 2
    · obtain ⟨Ri, hRi⟩ : ∃ Ri, Rs[i]? = some Ri := ⟨_, List.getElem?_eq_getElem (by rw [HRL.out]; exact hin)⟩
      obtain ⟨x0, x1, x2, x3, x4, p0, p1, p2, p3, p4, hRL, hRS⟩ := HALL.out i Ri hRi
      obtain ⟨vhi, vsi, hform, ⟨Ai, ni, ki, rfl⟩, Bi, mi, li, rfl⟩ := hRL.form
      injection hform with hform
      simp only [Array.mk.injEq, List.cons.injEq, and_true] at hform
      obtain ⟨rfl, rfl, rfl, rfl, rfl⟩ := hform
      have HRA := Lib.hid (hRL.keep (SameA.of_below HW.out) zWr)
      have HRS := Lib.hid hRS.1
      have HSM := Lib.hid hRS
      obtain ⟨wn, hwn⟩ : ∃ wn, wn = Ri.worn := ⟨_, rfl⟩
      obtain ⟨sc, hsc⟩ : ∃ sc, sc = Ri.scr := ⟨_, rfl⟩
      obtain ⟨tt, htt⟩ : ∃ tt, tt = Ri.total := ⟨_, rfl⟩
      rw [← hwn] at p1 HRA
      rw [← hsc] at p2 HRA
      rw [← htt] at p3 HRA
      have HWN := Lib.hid hwn
      have HSC := Lib.hid hsc
      have HTT := Lib.hid htt
      have C0 := Lib.hid (bcell HW.out zA p0)
      have C1 := Lib.hid (bcell HW.out zA p1)
      have C2 := Lib.hid (bcell HW.out zA p2)
      have C3 := Lib.hid (bcell HW.out zA p3)
      have C4 := Lib.hid (bcell HW.out zA p4)
      have zAr : gA < wr.heap.size := by omega
      have i0 : (0 : Int) ≤ (i : Int) := by omega
      have i1 : (i : Int) < 2 := by omega
      clear hRi p0 p1 p2 p3 p4 hRL hRS hwn hsc htt
      have c0 := C0.out
      have c1 := C1.out
      have c2 := C2.out
      have c3 := C3.out
      have c4 := C4.out
      go_wp2_with fail
      refine (rcopy_any _ Ri wr HRA.out HSM.out).mono ?_
      rintro e w5 ⟨vh5, vq5, svs, lvs, rfl, ho5, hb5⟩
      have hol := OLine.of_own ho5
      obtain ⟨A5, c5, rfl⟩ := own_slice ho5.hands
      obtain ⟨Q5, d5, rfl⟩ := own_slice ho5.squares
      unfold rlineV at hol ⊢
      rw [← HWN.out, ← HSC.out, ← HTT.out] at hol ⊢
      obtain ⟨n5, hn5⟩ : ∃ n5, n5 = Ri.hands.length := ⟨_, rfl⟩
      obtain ⟨m5, hm5⟩ : ∃ m5, m5 = Ri.squares.length := ⟨_, rfl⟩
      rw [← hn5, ← hm5] at hol ⊢
      obtain ⟨W6, hW6⟩ : ∃ W6, W6 = w5.alloc (.cells #[.slice A5 n5 c5, .int .i64 wn, .int .i64 sc, .int .i64 tt, .slice Q5 m5 d5] 25) := ⟨_, rfl⟩
      have HL6 := Lib.hid (show LawI wr W6 w5.heap.size [.slice A5 n5 c5, .int .i64 wn, .int .i64 sc, .int .i64 tt, .slice Q5 m5 d5] Ri by rw [hW6]; exact ⟨Blok.new w5 _ _, hol.keep ((Below.refl _ _).alloc (Nat.le_refl _) _), hb5.alloc hb5.size _⟩)
      clear hol ho5 hb5 hn5 hm5 c0 c1 c2 c3 c4
      go_wp2_with fail
      rw [← hW6]
      clear hW6
      have o0 : W6.cell? ⟨w5.heap.size, 0, none⟩ = some (.slice A5 n5 c5) := HL6.out.own.cell 0
      have o1 : W6.cell? ⟨w5.heap.size, 1, none⟩ = some (.int .i64 wn) := HL6.out.own.cell 1
      have o2 : W6.cell? ⟨w5.heap.size, 2, none⟩ = some (.int .i64 sc) := HL6.out.own.cell 2
      have o3 : W6.cell? ⟨w5.heap.size, 3, none⟩ = some (.int .i64 tt) := HL6.out.own.cell 3
      have o4 : W6.cell? ⟨w5.heap.size, 4, none⟩ = some (.slice Q5 m5 d5) := HL6.out.own.cell 4
      have c0 := bcell HL6.out.bel zAr C0.out
      have c1 := bcell HL6.out.bel zAr C1.out
      have c2 := bcell HL6.out.bel zAr C2.out
      have c3 := bcell HL6.out.bel zAr C3.out
      have c4 := bcell HL6.out.bel zAr C4.out
      go_wp2_with fail
      refine (sLook_u HL6.out.line).mono ?_
      rintro e W7 ⟨rfl, hb7⟩
      have HL7 := Lib.hid (HL6.out.below hb7)
      clear o0 o1 o2 o3 o4 c0 c1 c2 c3 c4
      clear hb7 HL6
      have o0 : W7.cell? ⟨w5.heap.size, 0, none⟩ = some (.slice A5 n5 c5) := HL7.out.own.cell 0
      have o1 : W7.cell? ⟨w5.heap.size, 1, none⟩ = some (.int .i64 wn) := HL7.out.own.cell 1
      have o2 : W7.cell? ⟨w5.heap.size, 2, none⟩ = some (.int .i64 sc) := HL7.out.own.cell 2
      have o3 : W7.cell? ⟨w5.heap.size, 3, none⟩ = some (.int .i64 tt) := HL7.out.own.cell 3
      have o4 : W7.cell? ⟨w5.heap.size, 4, none⟩ = some (.slice Q5 m5 d5) := HL7.out.own.cell 4
      have c0 := bcell HL7.out.bel zAr C0.out
      have c1 := bcell HL7.out.bel zAr C1.out
      have c2 := bcell HL7.out.bel zAr C2.out
      have c3 := bcell HL7.out.bel zAr C3.out
      have c4 := bcell HL7.out.bel zAr C4.out
      go_wp2_with fail
      refine (rLook_u (HRA.out.keep (SameA.of_below HL7.out.bel) HL7.out.bel.size)).mono ?_
      rintro e W8 ⟨rfl, hb8⟩
      have HL8 := Lib.hid (HL7.out.below hb8)
      clear o0 o1 o2 o3 o4 c0 c1 c2 c3 c4
      clear hb8 HL7
      have o0 : W8.cell? ⟨w5.heap.size, 0, none⟩ = some (.slice A5 n5 c5) := HL8.out.own.cell 0
      have o1 : W8.cell? ⟨w5.heap.size, 1, none⟩ = some (.int .i64 wn) := HL8.out.own.cell 1
      have o2 : W8.cell? ⟨w5.heap.size, 2, none⟩ = some (.int .i64 sc) := HL8.out.own.cell 2
      have o3 : W8.cell? ⟨w5.heap.size, 3, none⟩ = some (.int .i64 tt) := HL8.out.own.cell 3
      have o4 : W8.cell? ⟨w5.heap.size, 4, none⟩ = some (.slice Q5 m5 d5) := HL8.out.own.cell 4
      have c0 := bcell HL8.out.bel zAr C0.out
      have c1 := bcell HL8.out.bel zAr C1.out
      have c2 := bcell HL8.out.bel zAr C2.out
      have c3 := bcell HL8.out.bel zAr C3.out
      have c4 := bcell HL8.out.bel zAr C4.out
      go_upto_region 11 with fail
      have zox := HL8.out.own.size
      have zgx : gA < W8.heap.size := Nat.lt_of_lt_of_le zAr HL8.out.bel.size
      have HSL := Lib.hid (fun (W : World) (hW : Below W8.heap.size W8 W) => rsame_any _ _ Ri W (HL8.out.line.keep hW).1 (HRA.out.keep (SameA.of_below (HL8.out.bel.trans (hW.mono HL8.out.bel.size))) (HL8.out.bel.trans (hW.mono HL8.out.bel.size)).size) HSM.out)
      have HB0 := Lib.hid ((Below.refl W8.heap.size W8).drew)
      go_cut [86] (fun s86 wc => s86 = .bool false ∧ Hid (Below W8.heap.size W8 wc))
      case first =>
        go_region_held3 (fun W' => W'.cell? ⟨w5.heap.size, 0, none⟩ = some (.slice A5 n5 c5) ∧ W'.cell? ⟨w5.heap.size, 1, none⟩ = some (.int .i64 wn) ∧ W'.cell? ⟨w5.heap.size, 2, none⟩ = some (.int .i64 sc) ∧ W'.cell? ⟨w5.heap.size, 3, none⟩ = some (.int .i64 tt) ∧ W'.cell? ⟨w5.heap.size, 4, none⟩ = some (.slice Q5 m5 d5) ∧ W'.cell? ⟨gA, i * 5, none⟩ = some (.slice Ai ni ki) ∧ W'.cell? ⟨gA, i * 5 + 1, none⟩ = some (.int .i64 wn) ∧ W'.cell? ⟨gA, i * 5 + 2, none⟩ = some (.int .i64 sc) ∧ W'.cell? ⟨gA, i * 5 + 3, none⟩ = some (.int .i64 tt) ∧ W'.cell? ⟨gA, i * 5 + 4, none⟩ = some (.slice Bi mi li))
          (first
            | exact ⟨o0, o1, o2, o3, o4, c0, c1, c2, c3, c4⟩
            | exact ⟨bcell HBg.out zox o0, bcell HBg.out zox o1, bcell HBg.out zox o2, bcell HBg.out zox o3, bcell HBg.out zox o4, bcell HBg.out zgx c0, bcell HBg.out zgx c1, bcell HBg.out zgx c2, bcell HBg.out zgx c3, bcell HBg.out zgx c4⟩
            | exact ⟨bcell HB0.out zox o0, bcell HB0.out zox o1, bcell HB0.out zox o2, bcell HB0.out zox o3, bcell HB0.out zox o4, bcell HB0.out zgx c0, bcell HB0.out zgx c1, bcell HB0.out zgx c2, bcell HB0.out zgx c3, bcell HB0.out zgx c4⟩
            | go_keep)
          (first
            | (go_at_call 29; (with_reducible refine (HSL.out _ HB0.out).mono ?_); rintro e wg ⟨rfl, hbwg⟩; have HBg := Lib.hid (HB0.out.trans (hbwg.mono HB0.out.size))))
        all_goals
          go_wp2_with fail
          go_meet
          exact ⟨rfl, HBg⟩
      case rest =>
        obtain ⟨rfl, HBc⟩ := hcut
        clear o0 o1 o2 o3 o4 c0 c1 c2 c3 c4
        have HWc := Lib.hid (HW.out.trans ((HL8.out.bel.trans (HBc.out.mono HL8.out.bel.size)).mono zWr))
        go_wp2_with fail
        exact ⟨⟨i + 1, by omega, by go_num, HWc⟩, by simp [intOf]; omega⟩
    · obtain rfl : i = 2 := by omega
      go_wp2_with fail
      refine (ready_any Unit _).mono ?_
      rintro e w8 ⟨rfl, hb8⟩
      have HB8 := Lib.hid (HBA.out.trans ((HW.out.trans (hb8.mono zWr)).mono HBA.out.size))
      clear hb8
      go_wp2_with fail
      go_ret
      exact ⟨rfl, HB8.out⟩
end Go.Proofs.Ythhajbgddifenaa
