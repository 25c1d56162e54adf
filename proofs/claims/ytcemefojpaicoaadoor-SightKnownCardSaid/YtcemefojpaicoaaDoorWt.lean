/- sight.Write, of a valid line whose numbers but the years have two digits at most. -/
import Derived.Test.YtcemefojpaicoaaDoorWs
import Derived.Test.YtcemefojpaicoaaDoorG
import Derived.Deep.DeepCutAuto
import Derived.Deep.RegionHeld3
namespace Go.Proofs.YtcemefojpaicoaaDoor
open Go.RowKit Go.Shelf

theorem flat_snoc {α β : Type} (f : α → List β) (l : List α) (k : Nat) (x : α) (h : l[k]? = some x) : (l.take (k + 1)).flatMap f = (l.take k).flatMap f ++ f x := by
  obtain ⟨hk, rfl⟩ := List.getElem?_eq_some_iff.1 h
  rw [List.take_succ_eq_append_getElem hk, List.flatMap_append]
  simp
theorem flat_le {α β : Type} (f : α → List β) (l : List α) (k : Nat) (x : α) (h : l[k]? = some x) : ((l.take k).flatMap f).length + (f x).length ≤ (l.flatMap f).length := by
  rw [← List.length_append, ← flat_snoc f l k x h]
  conv => rhs; rw [← List.take_append_drop (k + 1) l, List.flatMap_append]
  rw [List.length_append]
  exact Nat.le_add_right _ _

set_option maxRecDepth 100000 in
set_option maxHeartbeats 2000000 in
theorem write_line (v : Value) (L : Line) (w : World) (hL : L.ok) (hs : L.small) (hlen : (sheetOf L).length ≤ 140737488355328) (hv : LineAt w w.heap.size v L)
    (ht : Lib.TabBelow Tryd.prog w.heap.size w "internal/strconv.uint64pow10" .u64 Lib.pow10Tab) :
    Calls Tryd.prog 14 #[v] w fun e w' => e = .returned (.tuple #[.string ⟨(sheetOf L).toArray⟩, .int .i64 0]) ∧ Below w.heap.size w w' := by
  have HL := Lib.hid hL
  have HS := Lib.hid hs
  have HV := Lib.hid hv
  have HT := Lib.hid ht
  have HLEN := Lib.hid hlen
  obtain ⟨vh, vs, rfl, hh, hq⟩ := hv
  obtain ⟨A, c, rfl, hA⟩ := hh
  obtain ⟨AQ, cQ, rfl, hQ⟩ := hq
  clear hL hs ht hlen
  have HA := Lib.hid hA
  have HQ := Lib.hid hQ
  clear hA hQ
  go_enter Tryd.func14, Tryd.ntmps14
  go_wp2_with fail
  refine (check_ok _ L _ HL.out (HV.out.keep (Same.of_below ((Below.refl _ _).alloc (Nat.le_refl _) _)) (by simp))).mono ?_
  rintro e w2 ⟨rfl, hb2⟩
  have HX := Lib.hid ((Blok.new w 25 [.slice A L.hands.length c, .int .i64 L.worn, .int .i64 L.scr, .int .i64 L.total, .slice AQ L.squares.length cQ]).below hb2 (by simp))
  have HB2 := Lib.hid (((Below.refl w.heap.size w).alloc (Nat.le_refl _) (.cells #[.slice A L.hands.length c, .int .i64 L.worn, .int .i64 L.scr, .int .i64 L.total, .slice AQ L.squares.length cQ] 25)).trans (hb2.mono (by simp)))
  clear hb2
  obtain ⟨w3, hw3⟩ : ∃ w3, w3 = w2.alloc (.cells #[.pointer none, .slice none 0 0] 78) := ⟨_, rfl⟩
  have HBD := Lib.hid (show Bld w2.heap.size [] w3 by rw [hw3]; exact Bld.new w2)
  have HB3 := Lib.hid (show Below w.heap.size w w3 by rw [hw3]; exact HB2.out.alloc HB2.out.size _)
  have HX3 := Lib.hid (show Blok w3 w.heap.size 25 _ by rw [hw3]; exact HX.out.alloc _)
  have z2 : w.heap.size < w2.heap.size := HX.out.size
  have z3 : w2.heap.size < w3.heap.size := HBD.out.lt
  have l0 : w3.cell? ⟨w.heap.size, 0, none⟩ = some (.slice A L.hands.length c) := HX3.out.cell 0
  obtain ⟨n, hn⟩ : ∃ n, n = L.hands.length := ⟨_, rfl⟩
  have HN := Lib.hid hn
  have hn4 : n ≤ 4 := by have := HL.out.2.1; omega
  rw [← hn] at l0
  clear hn HX HB2
  have HW3 := Lib.hid hw3
  go_upto_region 5 with fail
  rw [← hw3]
  clear hw3
  go_wp2_with fail
  go_loopw [22] (fun si wr => ∃ k : Nat, k ≤ n ∧ si = .int .i64 k ∧ Below w2.heap.size w3 wr ∧ Hid (Bld w2.heap.size ((L.hands.take k).flatMap handText) wr)) (fun si _ => n - (intOf si).toNat)
  case atStart => exact ⟨0, by omega, rfl, Below.refl _ _, HBD⟩
  case round =>
    obtain ⟨k, hk, rfl, hb, HD⟩ := hrel
    have HB := Lib.hid hb
    have zr : w3.heap.size ≤ wr.heap.size := hb.size
    by_cases hlt : k < n
    · have hkq : k < L.hands.length := by rw [← HN.out]; exact hlt
      obtain ⟨g, o, rfl, hg, hc⟩ := HA.out (by omega)
      obtain ⟨h, hh⟩ : ∃ h, L.hands[k]? = some h := ⟨_, List.getElem?_eq_getElem hkq⟩
      obtain ⟨d1, d2, sv, d3, hsv⟩ := hc k h hh
      have HB0 := Lib.hid (HB3.out.trans (hb.mono (by omega)))
      have d1 := bcell HB0.out hg d1
      have d2 := bcell HB0.out hg d2
      have d3 := bcell HB0.out hg d3
      have HSV := Lib.hid (hsv.keep (Same.of_below HB3.out) (Nat.le_refl _))
      obtain ⟨As, cs, rfl, -⟩ := hsv
      have HH := Lib.hid hh
      obtain ⟨m, hm⟩ : ∃ m, m = h.shapes.length := ⟨_, rfl⟩
      have HM := Lib.hid hm
      rw [← hm] at d3
      obtain ⟨lo, hlo⟩ : ∃ lo, lo = h.low := ⟨_, rfl⟩
      obtain ⟨hi, hhi⟩ : ∃ hi, hi = h.high := ⟨_, rfl⟩
      rw [← hlo] at d1
      rw [← hhi] at d2
      have hok := HL.out.2.2.1 h (List.mem_of_getElem? hh)
      have hm8 : m ≤ 8 := by have := hok.2.2.2.2.1; omega
      have HLO := Lib.hid hlo
      have HHI := Lib.hid hhi
      clear hm hlo hhi hh hc hb
      obtain ⟨W, hW⟩ : ∃ W, W = wr.alloc (.cells #[.int .i64 lo, .int .i64 hi, .slice As m cs] 36) := ⟨_, rfl⟩
      have HWB := Lib.hid (show Blok W wr.heap.size 36 [.int .i64 lo, .int .i64 hi, .slice As m cs] by rw [hW]; exact Blok.new wr _ _)
      have HBW := Lib.hid (show Below wr.heap.size wr W by rw [hW]; exact (Below.refl _ _).alloc (Nat.le_refl _) _)
      have HDW := Lib.hid (HD.out.below HBW.out)
      have HWE := Lib.hid hW
      clear hW
      go_upto_region 8 with fail
      rw [← HWE.out]
      have q0 : W.cell? ⟨wr.heap.size, 0, none⟩ = some (.int .i64 lo) := HWB.out.cell 0
      have q1 : W.cell? ⟨wr.heap.size, 1, none⟩ = some (.int .i64 hi) := HWB.out.cell 1
      have zW : wr.heap.size < W.heap.size := HWB.out.size
      have HE := Lib.hid ((HB3.out.trans (HB.out.mono (by omega))).trans (HBW.out.mono (by omega)))
      have HIL := Lib.hid (fun (W' : World) (hW' : Below W.heap.size W W') => itoa_some lo (by have := hok.1; have := HLO.out; omega) (by have := hok.2.1; have := hok.2.2.1; have := HLO.out; omega) W' w.heap.size (HT.out.on (HE.out.trans (hW'.mono (by omega)))))
      have HIH := Lib.hid (fun (W' : World) (hW' : Below W.heap.size W W') => itoa_some hi (by have := hok.1; have := hok.2.1; have := HHI.out; omega) (by have := hok.2.2.1; have := HHI.out; omega) W' w.heap.size (HT.out.on (HE.out.trans (hW'.mono (by omega)))))
      have HE0 := Lib.hid ((Below.refl W.heap.size W).drew)
      have HLN := Lib.hid (show ((L.hands.take k).flatMap handText).length + (handText h).length ≤ 140737488355328 from Nat.le_trans (flat_le handText L.hands k h HH.out) (Nat.le_trans (by unfold sheetOf; simp only [List.length_append]; omega) HLEN.out))
      have il := itoa_len lo (by have := hok.1; have := HLO.out; omega) (by have := hok.2.1; have := hok.2.2.1; have := HLO.out; omega)
      have ih := itoa_len hi (by have := hok.1; have := hok.2.1; have := HHI.out; omega) (by have := hok.2.2.1; have := HHI.out; omega)
      have il1 : ¬ (9223372036854775807 < 5 + (Lib.itoa lo).length) := by omega
      have il2 : ¬ (9223372036854775807 < 5 + (Lib.itoa lo).length + 1) := by omega
      have il3 : ¬ (9223372036854775807 < 5 + (Lib.itoa lo).length + 1 + (Lib.itoa hi).length) := by omega
      have HIL5 := Lib.hid il
      have HIH5 := Lib.hid ih
      clear hok d1 d2 d3 il ih
      go_cut [] (fun wx => Hid (Bld w2.heap.size ((L.hands.take k).flatMap handText ++ handHead h) wx) ∧ Hid (Below w2.heap.size w3 wx) ∧ Hid (Blok wx wr.heap.size 36 [.int .i64 lo, .int .i64 hi, .slice As m cs]))
      case first =>
        go_region_held3 (fun W' => W'.cell? ⟨wr.heap.size, 0, none⟩ = some (.int .i64 lo) ∧ W'.cell? ⟨wr.heap.size, 1, none⟩ = some (.int .i64 hi))
          (first
            | exact ⟨q0, q1⟩
            | exact ⟨qx0, qx1⟩
            | exact ⟨qb0, qb1⟩
            | exact ⟨qa0, qa1⟩
            | go_keep)
          (first
          | (go_at_call 28; (with_reducible refine (HIL.out _ HE0.out).mono ?_); rintro e wa ⟨rfl, hba⟩; have HEa := Lib.hid (HE0.out.trans (hba.mono HE0.out.size)); have qa0 := bcell HEa.out zW q0; have qa1 := bcell HEa.out zW q1; clear hba)
          | (go_at_call 28; (with_reducible refine (HIH.out _ HEa.out).mono ?_); rintro e wb ⟨rfl, hbb⟩; have HEb := Lib.hid (HEa.out.trans (hbb.mono HEa.out.size)); have qb0 := bcell HEb.out zW q0; have qb1 := bcell HEb.out zW q1; clear hbb)
          | (go_at_call 27; refine (write_some w2.heap.size _ _ _ (HDW.out.below HEb.out) ?hlen).mono ?_; (case hlen => have e1 := HLN.out; have e2 := HLO.out; have e3 := HHI.out; simp [handText, handHead, ByteArray.size, ← e2, ← e3] at e1 ⊢ <;> omega); rintro e wx ⟨rfl, hD, hbx, hok⟩; have HBx := Lib.hid (kept_cell hok (HWB.out.below HEb.out zW) (by omega) (by decide)); have qx0 := HBx.out.cell 0; have qx1 := HBx.out.cell 1))
        all_goals
          go_wp2_with fail
          go_meet
          refine ⟨Lib.hid ?_, Lib.hid (((HB.out.trans (HBW.out.mono (by omega))).trans (HEb.out.mono (by omega))).trans hbx), HBx⟩
          have e2 := HLO.out
          have e3 := HHI.out
          have e : (({ data := #[104, 97, 110, 100, 32] } : ByteArray) ++ { data := (Lib.itoa lo).toArray } ++ { data := #[32] } ++ { data := (Lib.itoa hi).toArray }).data.toList = handHead h := by simp [handHead, ← e2, ← e3]
          rw [← e]
          exact hD
      case rest =>
        obtain ⟨HDc, HBc, HWc⟩ := hcut
        have q2 : wc.cell? ⟨wr.heap.size, 2, none⟩ = some (.slice As m cs) := HWc.out.cell 2
        have zc : w3.heap.size ≤ wc.heap.size := HBc.out.size
        clear q0 q1 HIL HIH HE0 il1 il2 il3 HE HBW HDW HWB zW HWE
        obtain ⟨pre, hpre⟩ : ∃ pre, pre = (L.hands.take k).flatMap handText ++ handHead h := ⟨_, rfl⟩
        have HDc' := Lib.hid (show Bld w2.heap.size pre wc by rw [hpre]; exact HDc.out)
        have HPRE := Lib.hid hpre
        clear hpre HDc
        go_wp2_with fail
        go_loopw [41] (fun sj wx => ∃ j : Nat, j ≤ m ∧ sj = .int .i64 j ∧ Below w2.heap.size w3 wx ∧ Hid (Bld w2.heap.size (pre ++ (h.shapes.take j).flatMap shapeText) wx)) (fun sj _ => m - (intOf sj).toNat)
        case atStart => exact ⟨0, by omega, rfl, HBc.out, Lib.hid (by simpa using HDc'.out)⟩
        case round =>
          obtain ⟨j, hj, rfl, hbj, HDj⟩ := hrel
          have HBj := Lib.hid hbj
          have zj : w3.heap.size ≤ wr.heap.size := hbj.size
          by_cases hltj : j < m
          · have hjq : j < h.shapes.length := by rw [← HM.out]; exact hltj
            obtain ⟨x, hx⟩ : ∃ x, h.shapes[j]? = some x := ⟨_, List.getElem?_eq_getElem hjq⟩
            obtain ⟨A', c', eA, hA'⟩ := HSV.out.keep (Same.of_below (hbj.mono (by omega))) (Nat.le_refl w.heap.size)
            injection eA with eA1 eA2 eA3
            subst eA1 eA3
            obtain ⟨gs, os, rfl, hgs, hr⟩ := hA' (by omega)
            obtain ⟨d1, d2⟩ := hr j x hx
            clear hA' hr eA2
            have HXX := Lib.hid hx
            have hok := (HL.out.2.2.1 h (List.mem_of_getElem? HH.out)).2.2.2.2.2.1 x (List.mem_of_getElem? hx)
            have hsm := HS.out.2.2.2.1 h (List.mem_of_getElem? HH.out) x (List.mem_of_getElem? hx)
            obtain ⟨a, ha⟩ : ∃ a, a = x.letter := ⟨_, rfl⟩
            obtain ⟨s, hs⟩ : ∃ s, s = x.strokes := ⟨_, rfl⟩
            obtain ⟨o1, o2, -, -⟩ := hok
            rw [← ha] at d1 o1 o2
            rw [← hs] at d2 hsm
            have HAE := Lib.hid ha
            have HSE := Lib.hid hs
            clear ha hs hbj
            obtain ⟨W, hW⟩ : ∃ W, W = wr.alloc (.cells #[.int .u8 a, .int .i64 s] 31) := ⟨_, rfl⟩
            have HWB := Lib.hid (show Blok W wr.heap.size 31 [.int .u8 a, .int .i64 s] by rw [hW]; exact Blok.new wr _ _)
            have HBW := Lib.hid (show Below wr.heap.size wr W by rw [hW]; exact (Below.refl _ _).alloc (Nat.le_refl _) _)
            have HDW := Lib.hid (HDj.out.below HBW.out)
            have HWE := Lib.hid hW
            clear hW
            go_upto_region 12 with fail
            rw [← HWE.out]
            have p0 : W.cell? ⟨wr.heap.size, 0, none⟩ = some (.int .u8 a) := HWB.out.cell 0
            have p1 : W.cell? ⟨wr.heap.size, 1, none⟩ = some (.int .i64 s) := HWB.out.cell 1
            have HIS := Lib.hid (fun (W' : World) => itoa_small s hsm W')
            have HE0 := Lib.hid ((Below.refl W.heap.size W).drew)
            have zW : wr.heap.size < W.heap.size := HWB.out.size
            have il1 : ¬ (9223372036854775807 < 1 + 1 + (Lib.itoa s).length) := by have := itoa_len s (by omega) (by omega); omega
            have henc := enc_letter a o1 o2
            have hw32 : IntKind.i32.wrap (a : Int) = (a : Int) := by unfold IntKind.wrap; simp [IntKind.bits, IntKind.signed]; omega
            have HSL := Lib.hid (itoa_len (s : Int) (by omega) (by omega))
            have HLN := Lib.hid (show (pre ++ (h.shapes.take j).flatMap shapeText).length + (shapeText x).length ≤ 140737488355327 from by
              have f1 := flat_le shapeText h.shapes j x hx
              have f2 := HLN.out
              rw [HPRE.out]
              simp only [handText, List.length_append, List.length_cons, List.length_nil] at f2 ⊢
              omega)
            clear d1 d2 hx
            go_region_held3 (fun W' => W'.cell? ⟨wr.heap.size, 0, none⟩ = some (.int .u8 a) ∧ W'.cell? ⟨wr.heap.size, 1, none⟩ = some (.int .i64 s))
              (first
                | exact ⟨p0, p1⟩
                | exact ⟨px0, px1⟩
                | go_keep)
              (first
              | (go_at_call 28; (with_reducible refine (HIS.out _).mono ?_); rintro e wa ⟨rfl, rfl⟩)
              | (go_at_call 27; refine (write_some w2.heap.size _ _ _ (HDW.out.below HE0.out) ?hlen).mono ?_; (case hlen => have e1 := HLN.out; have e2 := HAE.out; have e3 := HSE.out; simp [shapeText, ByteArray.size, ← e2, ← e3] at e1 ⊢ <;> omega); rintro e wx ⟨rfl, hD, hbx, hok⟩; have HBx := Lib.hid (kept_cell hok (show Blok W.drew wr.heap.size 31 _ from HWB.out) (by omega) (by decide)); have px0 := HBx.out.cell 0; have px1 := HBx.out.cell 1))
            have HBz := Lib.hid (((HBj.out.trans (HBW.out.mono (by omega))).trans (HE0.out.mono (by omega))).trans hbx)
            have HDz := Lib.hid hD
            clear hD hbx hok
            go_wp2_with fail
            go_roundw
            case rel => exact ⟨j + 1, by omega, by go_num, HBz.out, Lib.hid (by
              have e2 := HAE.out
              have e3 := HSE.out
              rw [flat_snoc shapeText h.shapes j x HXX.out, ← List.append_assoc]
              have e : (({ data := #[32] } : ByteArray) ++ { data := #[UInt8.ofNat a] } ++ { data := (Lib.itoa (s : Int)).toArray }).data.toList = shapeText x := by simp [shapeText, ← e2, ← e3]
              rw [← e]
              exact HDz.out)⟩
            case measure => simp [intOf]; omega
          · obtain rfl : j = m := by omega
            clear hbj
            have HLM := Lib.hid (show (pre ++ (h.shapes.take j).flatMap shapeText).length + 1 ≤ 140737488355328 from by
              have f2 := HLN.out
              have f3 := HM.out
              rw [HPRE.out, f3, List.take_length]
              simp only [handText, List.length_append, List.length_cons, List.length_nil] at f2 ⊢
              omega)
            go_wp2_with fail
            refine (write_some w2.heap.size _ ⟨#[10]⟩ _ HDj.out HLM.out).mono ?_
            rintro e wx ⟨rfl, hD, hbx, -⟩
            have HBz := Lib.hid (HBj.out.trans hbx)
            have HDz := Lib.hid hD
            clear hD hbx
            go_wp2_with fail
            go_roundw
            case rel => exact ⟨k + 1, by omega, by go_num, HBz.out, Lib.hid (by
              have f3 := HM.out
              rw [flat_snoc handText L.hands k h HH.out, handText, ← List.append_assoc, ← List.append_assoc, ← HPRE.out]
              have e := HDz.out
              rw [f3, List.take_length] at e
              exact e)⟩
            case measure => simp [intOf]; omega
    · obtain rfl : k = n := by omega
      have HXr := Lib.hid (HX3.out.below hb z2)
      have HBr := HB
      clear hb
      have q1 : wr.cell? ⟨w.heap.size, 1, none⟩ = some (.int .i64 L.worn) := HXr.out.cell 1
      have q2 : wr.cell? ⟨w.heap.size, 2, none⟩ = some (.int .i64 L.scr) := HXr.out.cell 2
      have q3 : wr.cell? ⟨w.heap.size, 3, none⟩ = some (.int .i64 L.total) := HXr.out.cell 3
      have HI1 := Lib.hid (fun (W' : World) => itoa_small L.worn HS.out.1 W')
      have HI2 := Lib.hid (fun (W' : World) => itoa_small L.scr HS.out.2.1 W')
      have HI3 := Lib.hid (fun (W' : World) => itoa_small L.total HS.out.2.2.1 W')
      have HE0 := Lib.hid ((Below.refl wr.heap.size wr).drew)
      have il1 : ¬ (9223372036854775807 < 6 + (Lib.itoa (L.worn : Int)).length) := by have := HS.out.1; have := itoa_len L.worn (by omega) (by omega); omega
      have il2 : ¬ (9223372036854775807 < 6 + (Lib.itoa (L.worn : Int)).length + 1) := by have := HS.out.1; have := HS.out.2.1; have := itoa_len L.worn (by omega) (by omega); have := itoa_len L.scr (by omega) (by omega); omega
      have il3 : ¬ (9223372036854775807 < 6 + (Lib.itoa (L.worn : Int)).length + 1 + (Lib.itoa (L.scr : Int)).length) := by have := HS.out.1; have := HS.out.2.1; have := itoa_len L.worn (by omega) (by omega); have := itoa_len L.scr (by omega) (by omega); omega
      have il4 : ¬ (9223372036854775807 < 6 + (Lib.itoa (L.worn : Int)).length + 1 + (Lib.itoa (L.scr : Int)).length + 1) := by have := HS.out.1; have := HS.out.2.1; have := itoa_len L.worn (by omega) (by omega); have := itoa_len L.scr (by omega) (by omega); omega
      have il5 : ¬ (9223372036854775807 < 6 + (Lib.itoa (L.worn : Int)).length + 1 + (Lib.itoa (L.scr : Int)).length + 1 + (Lib.itoa (L.total : Int)).length) := by have := HS.out.1; have := HS.out.2.1; have := HS.out.2.2.1; have := itoa_len L.worn (by omega) (by omega); have := itoa_len L.scr (by omega) (by omega); have := itoa_len L.total (by omega) (by omega); omega
      have il6 : ¬ (9223372036854775807 < 6 + (Lib.itoa (L.worn : Int)).length + 1 + (Lib.itoa (L.scr : Int)).length + 1 + (Lib.itoa (L.total : Int)).length + 1) := by have := HS.out.1; have := HS.out.2.1; have := HS.out.2.2.1; have := itoa_len L.worn (by omega) (by omega); have := itoa_len L.scr (by omega) (by omega); have := itoa_len L.total (by omega) (by omega); omega
      have HLN := Lib.hid (show (L.hands.flatMap handText).length + (marksText L).length ≤ 140737488355328 from Nat.le_trans (by unfold sheetOf; simp only [List.length_append]; omega) HLEN.out)
      have HDr := Lib.hid (show Bld w2.heap.size (L.hands.flatMap handText) wr by have e := HD.out; rw [HN.out, List.take_length] at e; exact e)
      go_upto_region 16 with fail
      go_region_held3 (fun W' => W'.cell? ⟨w.heap.size, 1, none⟩ = some (.int .i64 L.worn) ∧ W'.cell? ⟨w.heap.size, 2, none⟩ = some (.int .i64 L.scr) ∧ W'.cell? ⟨w.heap.size, 3, none⟩ = some (.int .i64 L.total))
        (first
          | exact ⟨q1, q2, q3⟩
          | exact ⟨qx1, qx2, qx3⟩
          | go_keep)
        (first
        | (go_at_call 28; (with_reducible refine (HI1.out _).mono ?_); rintro e wa ⟨rfl, rfl⟩)
        | (go_at_call 28; (with_reducible refine (HI2.out _).mono ?_); rintro e wa ⟨rfl, rfl⟩)
        | (go_at_call 28; (with_reducible refine (HI3.out _).mono ?_); rintro e wa ⟨rfl, rfl⟩)
        | (go_at_call 27; refine (write_some w2.heap.size _ _ _ (HDr.out.below HE0.out) ?hlen).mono ?_; (case hlen => have e1 := HLN.out; simp [marksText, ByteArray.size] at e1 ⊢ <;> omega); rintro e wx ⟨rfl, hD, hbx, hok⟩; have qx1 := bcell hbx z2 q1; have qx2 := bcell hbx z2 q2; have qx3 := bcell hbx z2 q3))
      obtain ⟨w5, hw5⟩ : ∃ w5, w5 = wx := ⟨_, rfl⟩
      have HB5 := Lib.hid ((HBr.out.trans (HE0.out.mono (by omega))).trans hbx)
      have HX5 := Lib.hid (HX3.out.below HB5.out z2)
      have z5 : w3.heap.size ≤ wx.heap.size := HB5.out.size
      obtain ⟨pre, hpre⟩ : ∃ pre, pre = L.hands.flatMap handText ++ marksText L := ⟨_, rfl⟩
      have HPRE := Lib.hid hpre
      have HD5 := Lib.hid (show Bld w2.heap.size pre wx by
        have e : (({ data := #[109, 97, 114, 107, 115, 32] } : ByteArray) ++ { data := (Lib.itoa (L.worn : Int)).toArray } ++ { data := #[32] } ++ { data := (Lib.itoa (L.scr : Int)).toArray } ++ { data := #[32] } ++ { data := (Lib.itoa (L.total : Int)).toArray } ++ { data := #[10] }).data.toList = marksText L := by simp [marksText]
        rw [hpre, ← e]
        exact hD)
      have p4 : wx.cell? ⟨w.heap.size, 4, none⟩ = some (.slice AQ L.squares.length cQ) := HX5.out.cell 4
      obtain ⟨m, hm⟩ : ∃ m, m = L.squares.length := ⟨_, rfl⟩
      have HM := Lib.hid hm
      have hm8 : m ≤ 8 := by have := HL.out.2.2.2.2.2.2.2.1; omega
      rw [← hm] at p4
      clear hm hpre hD hbx hw5 q1 q2 q3 il1 il2 il3 il4 il5 il6 HI1 HI2 HI3 HE0 HLN qx1 qx2 qx3
      go_wp2_with fail
      go_loopw [77] (fun si wy => ∃ i : Nat, i ≤ m ∧ si = .int .i64 i ∧ Below w2.heap.size w3 wy ∧ Hid (Bld w2.heap.size (pre ++ (L.squares.take i).flatMap squareText) wy)) (fun si _ => m - (intOf si).toNat)
      case atStart => exact ⟨0, by omega, rfl, HB5.out, Lib.hid (by simpa using HD5.out)⟩
      case round =>
        obtain ⟨i, hi, rfl, hbi, HDi⟩ := hrel
        have HBi := Lib.hid hbi
        have zi : w3.heap.size ≤ wr.heap.size := hbi.size
        by_cases hlti : i < m
        · have hiq : i < L.squares.length := by rw [← HM.out]; exact hlti
          obtain ⟨gq, oq, rfl, hgq, hcq⟩ := HQ.out (by omega)
          obtain ⟨x, hx⟩ : ∃ x, L.squares[i]? = some x := ⟨_, List.getElem?_eq_getElem hiq⟩
          obtain ⟨lv, d1, hlv⟩ := hcq i x hx
          have d1 := bcell (HB3.out.trans (hbi.mono (by omega))) hgq d1
          have HLV := Lib.hid (hlv.keep (Same.of_below HB3.out) (Nat.le_refl _))
          obtain ⟨Al, cl, rfl, -⟩ := hlv
          have HXX := Lib.hid hx
          have hok := HL.out.2.2.2.2.2.2.2.2 x (List.mem_of_getElem? hx)
          obtain ⟨mx, hmx⟩ : ∃ mx, mx = x.length := ⟨_, rfl⟩
          have HMX := Lib.hid hmx
          have hm4 : mx ≤ 4 := by have := hok.1; omega
          rw [← hmx] at d1
          have HLN := Lib.hid (show (pre ++ (L.squares.take i).flatMap squareText).length + (squareText x).length ≤ 140737488355328 from by
            have f1 := flat_le squareText L.squares i x hx
            have f2 := HLEN.out
            rw [HPRE.out]
            simp only [sheetOf, List.length_append] at f2 ⊢
            omega)
          clear hmx hx hcq hbi hok
          go_wp2_with fail
          refine (write_some w2.heap.size _ ⟨#[115, 113, 117, 97, 114, 101]⟩ _ HDi.out (by have f2 := HLN.out; simp only [squareText, List.length_append, List.length_cons, List.length_nil] at f2 ⊢; change _ + 6 ≤ _; omega)).mono ?_
          rintro e wx ⟨rfl, hD, hbx, -⟩
          have HBz := Lib.hid (HBi.out.trans hbx)
          have HDz := Lib.hid hD
          clear hD hbx
          go_wp2_with fail
          go_loopw [84] (fun sj wx => ∃ j : Nat, j ≤ mx ∧ sj = .int .i64 j ∧ Below w2.heap.size w3 wx ∧ Hid (Bld w2.heap.size (pre ++ (L.squares.take i).flatMap squareText ++ [115, 113, 117, 97, 114, 101] ++ (x.take j).flatMap lightText) wx)) (fun sj _ => mx - (intOf sj).toNat)
          case atStart => exact ⟨0, by omega, rfl, HBz.out, Lib.hid (by simpa using HDz.out)⟩
          case round =>
            obtain ⟨j, hj, rfl, hbj, HDj⟩ := hrel
            have HBj := Lib.hid hbj
            have zj : w3.heap.size ≤ wr.heap.size := hbj.size
            by_cases hltj : j < mx
            · have hjq : j < x.length := by rw [← HMX.out]; exact hltj
              obtain ⟨y, hy⟩ : ∃ y, x[j]? = some y := ⟨_, List.getElem?_eq_getElem hjq⟩
              obtain ⟨A', c', eA, hA'⟩ := HLV.out.keep (Same.of_below (hbj.mono (by omega))) (Nat.le_refl w.heap.size)
              injection eA with eA1 eA2 eA3
              subst eA1 eA3
              obtain ⟨gs, os, rfl, hgs, hr⟩ := hA' (by omega)
              obtain ⟨d1, d2⟩ := hr j y hy
              clear hA' hr eA2
              have HYY := Lib.hid hy
              have hsm := HS.out.2.2.2.2 x (List.mem_of_getElem? HXX.out) y (List.mem_of_getElem? hy)
              have HLE := Lib.hid (show (pre ++ (L.squares.take i).flatMap squareText ++ [115, 113, 117, 97, 114, 101] ++ (x.take j).flatMap lightText).length + (lightText y).length ≤ 140737488355327 from by
                have f1 := flat_le lightText x j y hy
                have f2 := HLN.out
                simp only [squareText, List.length_append, List.length_cons, List.length_nil] at f2 ⊢
                omega)
              obtain ⟨a, ha⟩ : ∃ a, a = y.shows := ⟨_, rfl⟩
              obtain ⟨s, hs⟩ : ∃ s, s = y.seen := ⟨_, rfl⟩
              rw [← ha] at d1 hsm
              rw [← hs] at d2 hsm
              have HAE := Lib.hid ha
              have HSE := Lib.hid hs
              clear ha hs hbj hy
              obtain ⟨W, hW⟩ : ∃ W, W = wr.alloc (.cells #[.int .i64 a, .int .i64 s] 29) := ⟨_, rfl⟩
              have HWB := Lib.hid (show Blok W wr.heap.size 29 [.int .i64 a, .int .i64 s] by rw [hW]; exact Blok.new wr _ _)
              have HBW := Lib.hid (show Below wr.heap.size wr W by rw [hW]; exact (Below.refl _ _).alloc (Nat.le_refl _) _)
              have HDW := Lib.hid (HDj.out.below HBW.out)
              have HWE := Lib.hid hW
              clear hW
              go_upto_region 24 with fail
              rw [← HWE.out]
              have p0 : W.cell? ⟨wr.heap.size, 0, none⟩ = some (.int .i64 a) := HWB.out.cell 0
              have p1 : W.cell? ⟨wr.heap.size, 1, none⟩ = some (.int .i64 s) := HWB.out.cell 1
              have HIA := Lib.hid (fun (W' : World) => itoa_small a hsm.1 W')
              have HIS := Lib.hid (fun (W' : World) => itoa_small s hsm.2 W')
              have HE0 := Lib.hid ((Below.refl W.heap.size W).drew)
              have zW : wr.heap.size < W.heap.size := HWB.out.size
              have HSA := Lib.hid (itoa_len (a : Int) (by omega) (by omega))
              have HSS := Lib.hid (itoa_len (s : Int) (by omega) (by omega))
              have il1 : ¬ (9223372036854775807 < 1 + (Lib.itoa (a : Int)).length) := by have := HSA.out; omega
              have il2 : ¬ (9223372036854775807 < 1 + (Lib.itoa (a : Int)).length + 1) := by have := HSA.out; omega
              have il3 : ¬ (9223372036854775807 < 1 + (Lib.itoa (a : Int)).length + 1 + (Lib.itoa (s : Int)).length) := by have := HSA.out; have := HSS.out; omega
              clear d1 d2 hsm
              go_region_held3 (fun W' => W'.cell? ⟨wr.heap.size, 0, none⟩ = some (.int .i64 a) ∧ W'.cell? ⟨wr.heap.size, 1, none⟩ = some (.int .i64 s))
                (first
                  | exact ⟨p0, p1⟩
                  | exact ⟨px0, px1⟩
                  | go_keep)
                (first
                | (go_at_call 28; (with_reducible refine (HIA.out _).mono ?_); rintro e wa ⟨rfl, rfl⟩)
                | (go_at_call 28; (with_reducible refine (HIS.out _).mono ?_); rintro e wa ⟨rfl, rfl⟩)
                | (go_at_call 27; refine (write_some w2.heap.size _ _ _ (HDW.out.below HE0.out) ?hlen).mono ?_; (case hlen => have e1 := HLE.out; have e2 := HAE.out; have e3 := HSE.out; simp [lightText, ByteArray.size, ← e2, ← e3] at e1 ⊢ <;> omega); rintro e wx ⟨rfl, hD, hbx, hok⟩; have HBx := Lib.hid (kept_cell hok (show Blok W.drew wr.heap.size 29 _ from HWB.out) (by omega) (by decide)); have px0 := HBx.out.cell 0; have px1 := HBx.out.cell 1))
              have HBy := Lib.hid (((HBj.out.trans (HBW.out.mono (by omega))).trans (HE0.out.mono (by omega))).trans hbx)
              have HDy := Lib.hid hD
              clear hD hbx hok
              go_wp2_with fail
              go_roundw
              case rel => exact ⟨j + 1, by omega, by go_num, HBy.out, Lib.hid (by
                have e2 := HAE.out
                have e3 := HSE.out
                rw [flat_snoc lightText x j y HYY.out, ← List.append_assoc]
                have e : (({ data := #[32] } : ByteArray) ++ { data := (Lib.itoa (a : Int)).toArray } ++ { data := #[47] } ++ { data := (Lib.itoa (s : Int)).toArray }).data.toList = lightText y := by simp [lightText, ← e2, ← e3]
                rw [← e]
                exact HDy.out)⟩
              case measure => simp [intOf]; omega
            · obtain rfl : j = mx := by omega
              clear hbj
              go_wp2_with fail
              refine (write_some w2.heap.size _ ⟨#[10]⟩ _ HDj.out (by
                have f2 := HLN.out
                have f3 := HMX.out
                rw [f3, List.take_length]
                simp only [squareText, List.length_append, List.length_cons, List.length_nil] at f2 ⊢
                show _ + 1 ≤ _
                omega)).mono ?_
              rintro e wx ⟨rfl, hD, hbx, -⟩
              have HBy := Lib.hid (HBj.out.trans hbx)
              have HDy := Lib.hid hD
              clear hD hbx
              go_wp2_with fail
              go_roundw
              case rel => exact ⟨i + 1, by omega, by go_num, HBy.out, Lib.hid (by
                have f3 := HMX.out
                have e := HDy.out
                rw [f3, List.take_length] at e
                rw [flat_snoc squareText L.squares i x HXX.out, squareText]
                simpa [List.append_assoc] using e)⟩
              case measure => simp [intOf]; omega
        · obtain rfl : i = m := by omega
          clear hbi
          have HLF := Lib.hid (show (pre ++ (L.squares.take i).flatMap squareText).length + 6 ≤ 140737488355328 from by
            have f2 := HLEN.out
            have f3 := HM.out
            rw [f3, List.take_length, HPRE.out]
            simp only [sheetOf, List.length_append, List.length_cons, List.length_nil] at f2 ⊢
            omega)
          go_wp2_with fail
          refine (write_some w2.heap.size _ ⟨#[102, 105, 110, 105, 115, 10]⟩ _ HDi.out HLF.out).mono ?_
          rintro e wx ⟨rfl, hD, hbx, -⟩
          have HBy := Lib.hid (HBi.out.trans hbx)
          have HDy := Lib.hid (show Bld w2.heap.size (sheetOf L) wx by
            have f3 := HM.out
            rw [f3, List.take_length, HPRE.out] at hD
            exact hD)
          clear hD hbx
          go_wp2_with fail
          refine (string_some w2.heap.size _ _ HDy.out (by unfold sheetOf; simp)).mono ?_
          rintro e wz ⟨rfl, hbz⟩
          go_wp2_with fail
          refine bodyPost_ret (v := .tuple #[.string ⟨(sheetOf L).toArray⟩, .int .i64 0]) (by simp [results, Tryd.results14, go_sem]) rfl ?_
          exact ⟨rfl, HB3.out.trans ((HBy.out.trans hbz).mono (by omega))⟩
end Go.Proofs.YtcemefojpaicoaaDoor
