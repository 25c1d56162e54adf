/- sight.Look: the square whose letter would be best to be known. -/
import Derived.Test.YtcemefojpaicoaaDoorRe
import Derived.Test.YtcemefojpaicoaaDoorR
import Derived.Test.YtcemefojpaicoaaDoorSp
namespace Go.Proofs.YtcemefojpaicoaaDoor
open Go.RowKit Go.Shelf

/-- The first of the places 0 to k at which f is least, and what it is there. -/
def lookAt (f : Nat → Nat) : Nat → Nat × Nat
  | 0 => (0, f 0)
  | k + 1 => if f (k + 1) < (lookAt f k).2 then (k + 1, f (k + 1)) else lookAt f k
theorem lookAt_spec (f : Nat → Nat) (k : Nat) : (lookAt f k).1 ≤ k ∧ f (lookAt f k).1 = (lookAt f k).2 ∧ (∀ i, i < (lookAt f k).1 → (lookAt f k).2 < f i) ∧ ∀ i, i ≤ k → (lookAt f k).2 ≤ f i := by
  induction k with
  | zero => exact ⟨Nat.le_refl _, rfl, fun i hi => by simp [lookAt] at hi, fun i hi => by
    obtain rfl : i = 0 := Nat.le_zero.1 hi
    exact Nat.le_refl _⟩
  | succ k ih =>
    obtain ⟨h1, h2, h3, h4⟩ := ih
    by_cases c : f (k + 1) < (lookAt f k).2
    · have e : lookAt f (k + 1) = (k + 1, f (k + 1)) := by rw [lookAt, if_pos c]
      rw [e]
      exact ⟨Nat.le_refl _, rfl, fun i hi => Nat.lt_of_lt_of_le c (h4 i (by simp at hi; omega)), fun i hi => by
        by_cases ei : i = k + 1
        · subst ei; exact Nat.le_refl _
        · exact Nat.le_trans (Nat.le_of_lt c) (h4 i (by omega))⟩
    · have e : lookAt f (k + 1) = lookAt f k := by rw [lookAt, if_neg c]
      rw [e]
      exact ⟨by omega, h2, h3, fun i hi => by
        by_cases ei : i = k + 1
        · subst ei; omega
        · exact h4 i (by omega)⟩
/-- The rest of a square. -/
def restL (L : Line) (q : Nat) : Nat := restOf (cuttersOf L) L.squares.length L.total q (orderText (allLetters L q)).data.toList
theorem letters_cell {w : World} {base c : Nat} {A : Option Addr} {L : Line} (h : w.ownsRow base 9 1 (.slice A L.squares.length c) L.squares.length ((lettersOf L).map Value.string)) (h1 : 1 ≤ L.squares.length) :
    ∃ g, A = some ⟨g, 0, none⟩ ∧ base ≤ g ∧ g < w.heap.size ∧ ∀ k, k < L.squares.length → w.cell? ⟨g, k, none⟩ = some (.string (orderText (allLetters L k))) := by
  obtain ⟨g, cap, hA, hg, hlt⟩ := h.form (by omega)
  injection hA with hA1 hA2 hA3
  subst hA1
  refine ⟨g, rfl, hg, hlt, fun k hk => ?_⟩
  rw [h.cellAt k (by omega), List.getElem?_map, letters_at L k hk]
  rfl
def LookRes (L : Line) (k : Nat) (a b : Nat) : Prop := a = (lookAt (restL L) k).1 ∧ b = (lookAt (restL L) k).2
theorem LookRes.yes {L : Line} {k a b : Nat} (h : LookRes L k a b) (hlt : restL L (k + 1) < b) : LookRes L (k + 1) (k + 1) (restL L (k + 1)) := by
  obtain ⟨rfl, rfl⟩ := h
  unfold LookRes
  rw [lookAt, if_pos hlt]
  exact ⟨rfl, rfl⟩
theorem LookRes.no {L : Line} {k a b : Nat} (h : LookRes L k a b) (hlt : ¬ restL L (k + 1) < b) : LookRes L (k + 1) a b := by
  obtain ⟨rfl, rfl⟩ := h
  unfold LookRes
  rw [lookAt, if_neg hlt]
  exact ⟨rfl, rfl⟩

set_option maxRecDepth 100000 in
set_option maxHeartbeats 2000000 in
theorem look_some (v : Value) (L : Line) (w : World) (hL : L.ok) (hv : LineAt w w.heap.size v L) (hh : handsOf L ≠ []) :
    Calls Tryd.prog 13 #[v] w fun e w' => ∃ a b : Nat, LookRes L (L.squares.length - 1) a b ∧ e = .returned (.tuple #[.int .i64 a, .int .i64 b, .int .i64 0]) ∧ Below w.heap.size w w' := by
  have HL := Lib.hid hL
  have HV := Lib.hid hv
  have hm1 : 1 ≤ L.squares.length := hL.2.2.2.2.2.2.1
  have hm8 : L.squares.length ≤ 8 := hL.2.2.2.2.2.2.2.1
  obtain ⟨vh, vs, rfl, hh', hq⟩ := hv
  obtain ⟨A, c, rfl, -⟩ := hh'
  obtain ⟨AQ, cQ, rfl, -⟩ := hq
  clear hL
  go_enter Tryd.func13, Tryd.ntmps13
  go_wp2_with fail
  refine (letters_some Unit _ L _ HL.out (HV.out.keep (Same.of_below ((Below.refl _ _).alloc (Nat.le_refl _) _)) (by simp)) hh).mono ?_
  rintro e w1 ⟨u, rfl, hu, hb1⟩
  obtain ⟨Au, cu, rfl⟩ := own_form hu
  obtain ⟨g, rfl, hg0, hg1, hcs⟩ := letters_cell hu hm1
  have hbx := (Blok.new w 25 [.slice A L.hands.length c, .int .i64 L.worn, .int .i64 L.scr, .int .i64 L.total, .slice AQ L.squares.length cQ]).below hb1 (by simp)
  have HB1 := Lib.hid (((Below.refl w.heap.size w).alloc (Nat.le_refl _) (.cells #[.slice A L.hands.length c, .int .i64 L.worn, .int .i64 L.scr, .int .i64 L.total, .slice AQ L.squares.length cQ] 25)).trans (hb1.mono (by simp)))
  have HBX := Lib.hid hbx
  have HCS := Lib.hid hcs
  have z1 : w.heap.size < w1.heap.size := hbx.size
  have l0 : w1.cell? ⟨w.heap.size, 0, none⟩ = some (.slice A L.hands.length c) := hbx.cell 0
  have l1 : w1.cell? ⟨w.heap.size, 1, none⟩ = some (.int .i64 L.worn) := hbx.cell 1
  have l2 : w1.cell? ⟨w.heap.size, 2, none⟩ = some (.int .i64 L.scr) := hbx.cell 2
  have l3 : w1.cell? ⟨w.heap.size, 3, none⟩ = some (.int .i64 L.total) := hbx.cell 3
  have l4 : w1.cell? ⟨w.heap.size, 4, none⟩ = some (.slice AQ L.squares.length cQ) := hbx.cell 4
  clear hu hb1 hbx hcs
  go_wp2_with fail
  refine (cutters_any _ L _ w.heap.size (by omega) HL.out (HV.out.keep (Same.of_below HB1.out) (Nat.le_refl _))).mono ?_
  rintro e w2 ⟨cv, rfl, hcut, hb2⟩
  have HCUT := Lib.hid hcut
  have HB2 := Lib.hid (HB1.out.trans (hb2.mono (by omega)))
  have HBX2 := Lib.hid (HBX.out.below hb2 z1)
  have HCS2 := Lib.hid (fun k (hk : k < L.squares.length) => bcell hb2 hg1 (HCS.out k hk))
  have z2 : w1.heap.size ≤ w2.heap.size := hb2.size
  clear l0 l1 l2 l3 l4 hcut hb2 HB1 HBX HCS
  have l0 : w2.cell? ⟨w.heap.size, 0, none⟩ = some (.slice A L.hands.length c) := HBX2.out.cell 0
  have l1 : w2.cell? ⟨w.heap.size, 1, none⟩ = some (.int .i64 L.worn) := HBX2.out.cell 1
  have l2 : w2.cell? ⟨w.heap.size, 2, none⟩ = some (.int .i64 L.scr) := HBX2.out.cell 2
  have l3 : w2.cell? ⟨w.heap.size, 3, none⟩ = some (.int .i64 L.total) := HBX2.out.cell 3
  have l4 : w2.cell? ⟨w.heap.size, 4, none⟩ = some (.slice AQ L.squares.length cQ) := HBX2.out.cell 4
  have l5 : w2.cell? ⟨g, 0, none⟩ = some (.string (orderText (allLetters L 0))) := HCS2.out 0 (by omega)
  have k1 : (0 : Int) < (L.squares.length : Int) := by omega
  have k2 : 0 < L.squares.length := by omega
  have HVD := Lib.hid (show LineAt w2.drew w2.drew.heap.size (.agg #[.slice A L.hands.length c, .int .i64 L.worn, .int .i64 L.scr, .int .i64 L.total, .slice AQ L.squares.length cQ]) L from HV.out.keep (Same.of_below HB2.out.drew) (by show w.heap.size ≤ w2.heap.size; omega))
  have HCD := Lib.hid (show Cuts w2.drew _ L.squares.length cv (cuttersOf L) from HCUT.out)
  have HPD := Lib.hid (show ∀ k, (k < w.heap.size ∨ w1.heap.size + 1 ≤ k ∧ k < w2.heap.size) → k < w2.drew.heap.size from fun k hk => by show k < w2.heap.size; omega)
  have HSL := Lib.hid (orderText_le (allLetters L 0))
  have HCOK := Lib.hid (cutterOf_ok L HL.out)
  have HCL := Lib.hid (show (cuttersOf L).length ≤ 4 by simp only [cuttersOf, List.length_map]; exact HL.out.2.1)
  go_wp2_with fail
  go_region_held3 (fun w' => w'.cell? ⟨w.heap.size, 0, none⟩ = some (.slice A L.hands.length c) ∧ w'.cell? ⟨w.heap.size, 1, none⟩ = some (.int .i64 L.worn) ∧ w'.cell? ⟨w.heap.size, 2, none⟩ = some (.int .i64 L.scr) ∧ w'.cell? ⟨w.heap.size, 3, none⟩ = some (.int .i64 L.total) ∧ w'.cell? ⟨w.heap.size, 4, none⟩ = some (.slice AQ L.squares.length cQ) ∧ w'.cell? ⟨g, 0, none⟩ = some (.string (orderText (allLetters L 0))))
    (first
      | go_keep
      | (refine ⟨?_, ?_, ?_, ?_, ?_, ?_⟩ <;> (refine (hb3.cell (p := ⟨_, _, none⟩) (by simp; try omega)).trans ?_; simp [*])))
    (first
      | (go_at_call 26; refine (rest_any _ cv L (cuttersOf L) HCOK.out HCL.out _ _ HPD.out HL.out HVD.out HCD.out 0 (by omega) _ HSL.out).mono ?_; rintro e w3 ⟨rfl, hb3⟩))
  have HB3 := Lib.hid (HB2.out.drew.trans (hb3.mono (by show w.heap.size ≤ w2.drew.heap.size; show w.heap.size ≤ w2.heap.size; omega)))
  have HV3 := Lib.hid (HV.out.keep (Same.of_below HB3.out) HB3.out.size)
  have HBX3 := Lib.hid ((show Blok w2.drew _ _ _ from HBX2.out).below hb3 (by show w.heap.size < w2.heap.size; omega))
  have HCUT3 := Lib.hid (HCD.out.keep (P' := fun k => k < w2.heap.size) (fun b o hb => hb3.cell (p := ⟨b, o, none⟩) (HPD.out b hb)) HPD.out)
  have HCS3 := Lib.hid (fun k (hk : k < L.squares.length) => bcell hb3 (show g < w2.drew.heap.size from by show g < w2.heap.size; omega) (show w2.drew.cell? _ = _ from HCS2.out k hk))
  have z3 : w2.heap.size ≤ w3.heap.size := hb3.size
  have e0 : restOf (cuttersOf L) L.squares.length L.total 0 (orderText (allLetters L 0)).data.toList = restL L 0 := rfl
  rw [e0]
  obtain ⟨r0, hr0⟩ : ∃ r0, r0 = restL L 0 := ⟨_, rfl⟩
  rw [← hr0]
  have HR0 := Lib.hid (show LookRes L 0 0 r0 from ⟨rfl, hr0⟩)
  obtain ⟨m, hm⟩ : ∃ m, m = L.squares.length := ⟨_, rfl⟩
  rw [← hm] at hm1 hm8 HCS3 HBX3 HCUT3
  rw [← hm]
  have HM := Lib.hid hm
  clear l0 l1 l2 l3 l4 l5 k1 k2 HVD HCD HPD HSL hb3 hm hr0 e0 HBX2 HCS2 HCUT
  go_wp2_with fail
  go_loopw [2, 3, 7] (fun sa sb si wr => ∃ k j a b : Nat, Hid (k = j + 1) ∧ k ≤ m ∧ si = .int .i64 k ∧ sa = .int .i64 a ∧ sb = .int .i64 b ∧ Hid (LookRes L j a b) ∧ Below w3.heap.size w3 wr) (fun _ _ si _ => m - (intOf si).toNat)
  case atStart => exact ⟨1, 0, 0, r0, Lib.hid rfl, hm1, rfl, rfl, rfl, HR0, Below.refl _ _⟩
  case round =>
    obtain ⟨k, j, a, b, HK, hk, rfl, rfl, rfl, HRES, hb⟩ := hrel
    have HB := Lib.hid hb
    have zr : w3.heap.size ≤ wr.heap.size := hb.size
    have hbx := HBX3.out.below hb (by omega)
    clear hb
    by_cases hlt : k < m
    · have HLT := Lib.hid hlt
      have l0 : wr.cell? ⟨w.heap.size, 0, none⟩ = some (.slice A L.hands.length c) := hbx.cell 0
      have l1 : wr.cell? ⟨w.heap.size, 1, none⟩ = some (.int .i64 L.worn) := hbx.cell 1
      have l2 : wr.cell? ⟨w.heap.size, 2, none⟩ = some (.int .i64 L.scr) := hbx.cell 2
      have l3 : wr.cell? ⟨w.heap.size, 3, none⟩ = some (.int .i64 L.total) := hbx.cell 3
      have l4 : wr.cell? ⟨w.heap.size, 4, none⟩ = some (.slice AQ m cQ) := hbx.cell 4
      have l5 : wr.cell? ⟨g, k, none⟩ = some (.string (orderText (allLetters L k))) := bcell HB.out (by omega) (HCS3.out k hlt)
      have HVD := Lib.hid (show LineAt wr.drew wr.drew.heap.size (.agg #[.slice A L.hands.length c, .int .i64 L.worn, .int .i64 L.scr, .int .i64 L.total, .slice AQ m cQ]) L from (by rw [HM.out]; exact HV3.out.keep (Same.of_below HB.out.drew) zr))
      have HCD := Lib.hid (show Cuts wr.drew (fun k => k < w2.heap.size) L.squares.length cv (cuttersOf L) from by rw [← HM.out]; exact HCUT3.out.keep (fun b o hb => HB.out.drew.cell (p := ⟨b, o, none⟩) (by have hb' : b < w2.heap.size := hb; show b < w3.heap.size; omega)) (fun _ h => h))
      have HPD := Lib.hid (show ∀ k, k < w2.heap.size → k < wr.drew.heap.size from fun k hk => by show k < wr.heap.size; omega)
      have HSL := Lib.hid (orderText_le (allLetters L k))
      have HKL := Lib.hid (show k < L.squares.length by rw [← HM.out]; exact hlt)
      have k0 : (0 : Int) ≤ (k : Int) := by omega
      have k1 : (k : Int) < (m : Int) := by omega
      clear hbx
      go_wp2_with fail
      go_region_held3 (fun w' => w'.cell? ⟨w.heap.size, 0, none⟩ = some (.slice A L.hands.length c) ∧ w'.cell? ⟨w.heap.size, 1, none⟩ = some (.int .i64 L.worn) ∧ w'.cell? ⟨w.heap.size, 2, none⟩ = some (.int .i64 L.scr) ∧ w'.cell? ⟨w.heap.size, 3, none⟩ = some (.int .i64 L.total) ∧ w'.cell? ⟨w.heap.size, 4, none⟩ = some (.slice AQ m cQ) ∧ w'.cell? ⟨g, k, none⟩ = some (.string (orderText (allLetters L k))))
        (first
          | go_keep
          | (refine ⟨?_, ?_, ?_, ?_, ?_, ?_⟩ <;> (refine (hb4.cell (p := ⟨_, _, none⟩) (by simp; try omega)).trans ?_; simp [*])))
        (first
          | (go_at_call 26; refine (rest_any _ cv L (cuttersOf L) HCOK.out HCL.out _ _ HPD.out HL.out HVD.out HCD.out k HKL.out _ HSL.out).mono ?_; rintro e w4 ⟨rfl, hb4⟩))
      have HB4 := Lib.hid (HB.out.drew.trans (hb4.mono zr))
      have e0 : restOf (cuttersOf L) L.squares.length L.total k (orderText (allLetters L k)).data.toList = restL L k := rfl
      rw [e0]
      obtain ⟨r, hr⟩ : ∃ r, r = restL L k := ⟨_, rfl⟩
      rw [← hr]
      have HR := Lib.hid hr
      clear hr e0 hb4 l0 l1 l2 l3 l4 l5 HVD HCD HPD HSL
      by_cases hrb : r < b
      · go_wp2
        go_roundw
        case rel =>
          have e1 := HK.out
          have hres := HRES.out.yes (by rw [← e1, ← HR.out]; exact hrb)
          rw [← e1, ← HR.out] at hres
          exact ⟨k + 1, k, k, r, Lib.hid rfl, by omega, by go_num, rfl, rfl, Lib.hid hres, HB4.out⟩
        case measure => simp [intOf]; omega
      · go_wp2
        go_roundw
        case rel =>
          have e1 := HK.out
          have hres := HRES.out.no (by rw [← e1, ← HR.out]; exact hrb)
          rw [← e1] at hres
          exact ⟨k + 1, k, a, b, Lib.hid rfl, by omega, by go_num, rfl, rfl, Lib.hid hres, HB4.out⟩
        case measure => simp [intOf]; omega
    · obtain rfl : k = m := by omega
      clear hbx
      go_wp2_with fail
      refine bodyPost_ret (v := .tuple #[.int .i64 a, .int .i64 b, .int .i64 0]) (by simp [results, Tryd.results13, go_sem]) rfl ?_
      refine ⟨a, b, ?_, rfl, HB3.out.trans (HB.out.mono (by omega))⟩
      have e1 := HK.out
      have e2 := HRES.out
      have e3 := HM.out
      rw [show L.squares.length - 1 = j by omega]
      exact e2
end Go.Proofs.YtcemefojpaicoaaDoor
