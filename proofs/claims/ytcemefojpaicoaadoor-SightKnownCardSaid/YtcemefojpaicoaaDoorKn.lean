/- SightKnown, walked. -/
import Derived.Test.YtcemefojpaicoaaDoorKl
import Derived.Test.YtcemefojpaicoaaDoorRv
import Derived.Deep.DeepCutAuto
import Derived.BigRegion
import Derived.Deep.RegionHeld3
namespace Go.Proofs.YtcemefojpaicoaaDoor
open Go.RowKit Go.Shelf

set_option maxRecDepth 100000 in
set_option maxHeartbeats 4000000 in
theorem known_walk (w : World) (ht : Lib.TabBelow Tryd.prog w.heap.size w "internal/strconv.uint64pow10" .u64 Lib.pow10Tab) :
    Calls Tryd.prog 3 #[] w fun e w' => e = .returned (.bool true) ∧ Below w.heap.size w w' := by
  have HT := Lib.hid ht
  clear ht
  go_enter Tryd.func3, Tryd.ntmps3
  go_wp2_with fail
  refine (line_mem _).mono ?_
  rintro e w1 ⟨he, hm1, hb1, hz1⟩
  simp only [cellsL] at he
  subst he
  have HM1 := Lib.hid hm1
  have HB1 := Lib.hid hb1
  have HZ1 := Lib.hid hz1
  clear hm1 hb1 hz1
  go_wp2_with fail
  refine (seen_gen _ 0 (by omega) (some ⟨w1.heap.size, 0, none⟩) 1 1).mono ?_
  rintro e w2 ⟨g2, he, hm2, hb2, hg2, hz2⟩
  simp only [cellsL] at he
  subst he
  have HGL := Lib.hid ((Blok.new w1 29 [.int .i64 3, .int .i64 4]).below hb2 (by simp))
  have hb2' := ((Below.refl w1.heap.size w1).alloc (Nat.le_refl _) (.cells #[.int .i64 3, .int .i64 4] 29)).trans (hb2.mono (by simp))
  have HM1' := Lib.hid (HM1.out.keep hb2' (by have := HZ1.out; omega))
  have HM2 := Lib.hid hm2
  have HB2 := Lib.hid (HB1.out.trans (hb2'.mono HB1.out.size))
  have HG2 := Lib.hid hg2
  have HZ2 := Lib.hid hz2
  clear hm2 hb2 hg2 hz2 hb2' HM1
  go_wp2_with fail
  refine (line_mem _).mono ?_
  rintro e w3 ⟨he, hm3, hb3, hz3⟩
  simp only [cellsL] at he
  subst he
  have HB3 := Lib.hid hb3
  have HM3 := Lib.hid hm3
  have HZ3 := Lib.hid hz3
  clear hm3 hb3 hz3
  go_wp2_with fail
  refine (line_mem _).mono ?_
  rintro e w4 ⟨he, hm4, hb4, hz4⟩
  simp only [cellsL] at he
  subst he
  have HB4 := Lib.hid hb4
  have HM4 := Lib.hid hm4
  have HZ4 := Lib.hid hz4
  clear hm4 hb4 hz4
  obtain ⟨W, hW⟩ : ∃ W, W = ((((w4.alloc (.cells #[.slice none 0 0, .int .i64 1, .int .i64 0, .int .i64 1, .slice (some ⟨w.heap.size + 1 + 6, 0, none⟩) 3 3] 25)).alloc (.cells #[.slice (some ⟨g2 + 1 + 1, 0, none⟩) 2 2, .int .i64 1, .int .i64 0, .int .i64 1, .slice (some ⟨g2 + 6, 0, none⟩) 3 3] 25)).alloc (.cells #[.slice (some ⟨w2.heap.size + 1 + 1 + 1, 0, none⟩) 2 2, .int .i64 1, .int .i64 0, .int .i64 1, .slice (some ⟨w2.heap.size + 1 + 6, 0, none⟩) 3 3] 25)).alloc (.cells #[.slice (some ⟨w3.heap.size + 1 + 1 + 1, 0, none⟩) 2 2, .int .i64 1, .int .i64 0, .int .i64 0, .slice (some ⟨w3.heap.size + 1 + 6, 0, none⟩) 3 3] 25)) := ⟨_, rfl⟩
  have HW := Lib.hid hW
  have hsz : W.heap.size = w4.heap.size + 1 + 1 + 1 + 1 := by rw [hW]; simp
  have hbW : Below w4.heap.size w4 W := by rw [hW]; exact ((((Below.refl _ _).alloc (Nat.le_refl _) _).alloc (by simp) _).alloc (by simp; omega) _).alloc (by simp; omega) _
  have HN1 := Lib.hid (show Blok W w4.heap.size 25 _ by rw [hW]; exact (((Blok.new w4 25 [.slice none 0 0, .int .i64 1, .int .i64 0, .int .i64 1, .slice (some ⟨w.heap.size + 1 + 6, 0, none⟩) 3 3]).alloc _).alloc _).alloc _)
  have HN2 := Lib.hid (show Blok W (w4.heap.size + 1) 25 [.slice (some ⟨g2 + 1 + 1, 0, none⟩) 2 2, .int .i64 1, .int .i64 0, .int .i64 1, .slice (some ⟨g2 + 6, 0, none⟩) 3 3] by
    rw [hW]
    have := Blok.new (w4.alloc (.cells #[.slice none 0 0, .int .i64 1, .int .i64 0, .int .i64 1, .slice (some ⟨w.heap.size + 1 + 6, 0, none⟩) 3 3] 25)) 25 [.slice (some ⟨g2 + 1 + 1, 0, none⟩) 2 2, .int .i64 1, .int .i64 0, .int .i64 1, .slice (some ⟨g2 + 6, 0, none⟩) 3 3]
    simp only [World.size_alloc] at this
    exact (this.alloc _).alloc _)
  have HN3 := Lib.hid (show Blok W (w4.heap.size + 1 + 1) 25 [.slice (some ⟨w2.heap.size + 1 + 1 + 1, 0, none⟩) 2 2, .int .i64 1, .int .i64 0, .int .i64 1, .slice (some ⟨w2.heap.size + 1 + 6, 0, none⟩) 3 3] by
    rw [hW]
    have := Blok.new ((w4.alloc (.cells #[.slice none 0 0, .int .i64 1, .int .i64 0, .int .i64 1, .slice (some ⟨w.heap.size + 1 + 6, 0, none⟩) 3 3] 25)).alloc (.cells #[.slice (some ⟨g2 + 1 + 1, 0, none⟩) 2 2, .int .i64 1, .int .i64 0, .int .i64 1, .slice (some ⟨g2 + 6, 0, none⟩) 3 3] 25)) 25 [.slice (some ⟨w2.heap.size + 1 + 1 + 1, 0, none⟩) 2 2, .int .i64 1, .int .i64 0, .int .i64 1, .slice (some ⟨w2.heap.size + 1 + 6, 0, none⟩) 3 3]
    simp only [World.size_alloc] at this
    exact this.alloc _)
  have HN4 := Lib.hid (show Blok W (w4.heap.size + 1 + 1 + 1) 25 [.slice (some ⟨w3.heap.size + 1 + 1 + 1, 0, none⟩) 2 2, .int .i64 1, .int .i64 0, .int .i64 0, .slice (some ⟨w3.heap.size + 1 + 6, 0, none⟩) 3 3] by
    rw [hW]
    have := Blok.new (((w4.alloc (.cells #[.slice none 0 0, .int .i64 1, .int .i64 0, .int .i64 1, .slice (some ⟨w.heap.size + 1 + 6, 0, none⟩) 3 3] 25)).alloc (.cells #[.slice (some ⟨g2 + 1 + 1, 0, none⟩) 2 2, .int .i64 1, .int .i64 0, .int .i64 1, .slice (some ⟨g2 + 6, 0, none⟩) 3 3] 25)).alloc (.cells #[.slice (some ⟨w2.heap.size + 1 + 1 + 1, 0, none⟩) 2 2, .int .i64 1, .int .i64 0, .int .i64 1, .slice (some ⟨w2.heap.size + 1 + 6, 0, none⟩) 3 3] 25)) 25 [.slice (some ⟨w3.heap.size + 1 + 1 + 1, 0, none⟩) 2 2, .int .i64 1, .int .i64 0, .int .i64 0, .slice (some ⟨w3.heap.size + 1 + 6, 0, none⟩) 3 3]
    simp only [World.size_alloc] at this
    exact this)
  have HSZ := Lib.hid hsz
  have HBW := Lib.hid hbW
  clear hW hsz hbW
  go_upto_region 3 with fail
  rw [← HW.out]
  have z12 : w.heap.size + 8 ≤ w1.heap.size := by have := HZ1.out; omega
  have z23 : w1.heap.size + 1 ≤ w2.heap.size := by have := HZ2.out; have := HG2.out; simp at this; omega
  have z34 : w3.heap.size = w2.heap.size + 8 := HZ3.out
  have z45 : w4.heap.size = w3.heap.size + 8 := HZ4.out
  have HM3' := Lib.hid ((HM3.out.keep HB4.out (by omega)).keep HBW.out (by omega))
  have b0 : W.cell? ⟨w4.heap.size + 1 + 1, 0, none⟩ = some (.slice (some ⟨w2.heap.size + 1 + 1 + 1, 0, none⟩) 2 2) := HN3.out.cell 0
  have b1 : W.cell? ⟨w2.heap.size + 1 + 1 + 1, 2, none⟩ = some (.slice (some ⟨w2.heap.size + 1, 0, none⟩) 3 3) := HM3'.out.hands.2.2.cell 2
  have s2 : W.cell? ⟨w2.heap.size + 1, 2, none⟩ = some (.int .u8 76) := HM3'.out.hands.1.cell 2
  have s3 : W.cell? ⟨w2.heap.size + 1, 3, none⟩ = some (.int .i64 3) := HM3'.out.hands.1.cell 3
  have s4 : W.cell? ⟨w2.heap.size + 1, 4, none⟩ = some (.int .u8 84) := HM3'.out.hands.1.cell 4
  have s5 : W.cell? ⟨w2.heap.size + 1, 5, none⟩ = some (.int .i64 12) := HM3'.out.hands.1.cell 5
  have f2 := HM3'.out.hands.1.free 2
  have f3 := HM3'.out.hands.1.free 3
  have f4 := HM3'.out.hands.1.free 4
  have f5 := HM3'.out.hands.1.free 5
  have Z12 := Lib.hid z12
  have Z23 := Lib.hid z23
  have Z34 := Lib.hid z34
  have Z45 := Lib.hid z45
  clear z12 z23 z34 z45
  have HK := Lib.hid (show KnI (swapW W (w2.heap.size + 1)) w4.heap.size w4.heap.size (w.heap.size + 1) g2 (w2.heap.size + 1) (w3.heap.size + 1) by
    have z1 := Z12.out; have z2 := HG2.out; have z3 := HZ2.out; have z4 := Z34.out; have z5 := Z45.out; have z6 := Z23.out; have z7 := HZ1.out
    simp only [World.size_alloc] at z2
    have hb2W : Below w2.heap.size w2 W := HB3.out.trans ((HB4.out.trans (HBW.out.mono (by omega))).mono (by omega))
    have hb3W : Below w3.heap.size w3 W := HB4.out.trans (HBW.out.mono (by omega))
    exact knI_of (HM1'.out.keep hb2W (by omega)) (HM2.out.keep hb2W (by omega)) (HGL.out.below hb2W (by omega)) HM3'.out (HM4.out.keep HBW.out (by omega)) HN1.out HN2.out HN3.out HN4.out (by omega) (by omega) (by omega) (by omega) (by omega))
  have HBS := Lib.hid (show Below w.heap.size w (swapW W (w2.heap.size + 1)) by
    have z1 := Z12.out; have z4 := Z34.out; have z5 := Z45.out; have z6 := Z23.out
    exact (HB2.out.trans ((HB3.out.trans ((HB4.out.trans (HBW.out.mono (by omega))).mono (by omega))).mono HB2.out.size)).trans ((swap_below (Nat.le_succ _)).mono (by omega)))
  have HSS := Lib.hid (show w4.heap.size + 3 < (swapW W (w2.heap.size + 1)).heap.size by rw [swap_size, HSZ.out]; omega)
  have zLC : w4.heap.size + 1 + 1 ≠ w2.heap.size + 1 := by have := Z34.out; have := Z45.out; omega
  have zHC : w2.heap.size + 1 + 1 + 1 ≠ w2.heap.size + 1 := by omega
  have HU1 := Lib.hid (show (fun W' => W'.cell? ⟨w4.heap.size + 1 + 1, 0, none⟩ = some (.slice (some ⟨w2.heap.size + 1 + 1 + 1, 0, none⟩) 2 2) ∧ W'.cell? ⟨w2.heap.size + 1 + 1 + 1, 2, none⟩ = some (.slice (some ⟨w2.heap.size + 1, 0, none⟩) 3 3)) ((W.drew.setCell ⟨w2.heap.size + 1, 2, none⟩ (.int .u8 84)).setCell ⟨w2.heap.size + 1, 3, none⟩ (.int .i64 12)) from ⟨((HN3.out.drew1.far zLC _).far zLC _).cell 0, ((HM3'.out.hands.2.2.drew1.far zHC _).far zHC _).cell 2⟩)
  have HU2 := Lib.hid (show (fun W' => W'.cell? ⟨w4.heap.size + 1 + 1, 0, none⟩ = some (.slice (some ⟨w2.heap.size + 1 + 1 + 1, 0, none⟩) 2 2) ∧ W'.cell? ⟨w2.heap.size + 1 + 1 + 1, 2, none⟩ = some (.slice (some ⟨w2.heap.size + 1, 0, none⟩) 3 3)) ((((W.drew.setCell ⟨w2.heap.size + 1, 2, none⟩ (.int .u8 84)).setCell ⟨w2.heap.size + 1, 3, none⟩ (.int .i64 12)).setCell ⟨w2.heap.size + 1, 4, none⟩ (.int .u8 76)).setCell ⟨w2.heap.size + 1, 5, none⟩ (.int .i64 3)) from ⟨((((HN3.out.drew1.far zLC _).far zLC _).far zLC _).far zLC _).cell 0, ((((HM3'.out.hands.2.2.drew1.far zHC _).far zHC _).far zHC _).far zHC _).cell 2⟩)
  clear zLC zHC
  obtain ⟨W0, hX⟩ : ∃ X, X = swapW W (w2.heap.size + 1) := ⟨_, rfl⟩
  rw [← hX] at HK HBS HSS
  have HX := Lib.hid hX
  clear hX
  clear HM1' HM2 HGL HM3 HM3' HM4 HN1 HN2 HN3 HN4 HB1 HB2 HB3 HB4 HBW HSZ HW HZ1 HZ2 HZ3 HZ4 HG2 Z12 Z23 Z34 Z45
  have hU : (fun W' => W'.cell? ⟨w4.heap.size + 1 + 1, 0, none⟩ = some (.slice (some ⟨w2.heap.size + 1 + 1 + 1, 0, none⟩) 2 2) ∧ W'.cell? ⟨w2.heap.size + 1 + 1 + 1, 2, none⟩ = some (.slice (some ⟨w2.heap.size + 1, 0, none⟩) 3 3)) W.drew := ⟨b0, b1⟩
  have hS : (fun W' => W'.cell? ⟨w2.heap.size + 1, 2, none⟩ = some (.int .u8 76) ∧ W'.cell? ⟨w2.heap.size + 1, 3, none⟩ = some (.int .i64 3) ∧ W'.cell? ⟨w2.heap.size + 1, 4, none⟩ = some (.int .u8 84) ∧ W'.cell? ⟨w2.heap.size + 1, 5, none⟩ = some (.int .i64 12)) W.drew := ⟨s2, s3, s4, s5⟩
  refine wp_region_u (fun W' => W'.cell? ⟨w2.heap.size + 1, 2, none⟩ = some (.int .u8 76) ∧ W'.cell? ⟨w2.heap.size + 1, 3, none⟩ = some (.int .i64 3) ∧ W'.cell? ⟨w2.heap.size + 1, 4, none⟩ = some (.int .u8 84) ∧ W'.cell? ⟨w2.heap.size + 1, 5, none⟩ = some (.int .i64 12)) (fun W' => W'.cell? ⟨w4.heap.size + 1 + 1, 0, none⟩ = some (.slice (some ⟨w2.heap.size + 1 + 1 + 1, 0, none⟩) 2 2) ∧ W'.cell? ⟨w2.heap.size + 1 + 1 + 1, 2, none⟩ = some (.slice (some ⟨w2.heap.size + 1, 0, none⟩) 3 3)) (fun j => !(j == 16 || j == 23)) (by kernel_rfl) ?_
  refine wpAnyU_free (i := 0) (v := ?_) (by simp only [List.getElem?_toArray, List.getElem?_cons_zero]; rfl) (by kernel_rfl) (by kernel_rfl) (by kernel_rfl) (by rfl) (by exact fun _ _ _ h => h) (Or.inl ⟨by rfl, ?hy0⟩) hU ?rest0
  case hy0 => (intro W' hSW; obtain ⟨x1, x2⟩ := hSW; go_simp; try with_reducible rfl)
  try simp only [Act.put, List.setIfInBounds_toArray, List.set_cons_zero, List.set_cons_succ]
  refine wpAnyU_free (i := 1) (v := ?_) (by simp only [List.getElem?_toArray, List.getElem?_cons_zero, List.getElem?_cons_succ]; rfl) (by kernel_rfl) (by kernel_rfl) (by kernel_rfl) (by rfl) (by exact fun _ _ _ h => h) (Or.inl ⟨by rfl, ?hy1⟩) hU ?rest1
  case hy1 => (intro W' hSW; obtain ⟨x1, x2⟩ := hSW; go_simp; try with_reducible rfl)
  try simp only [Act.put, List.setIfInBounds_toArray, List.set_cons_zero, List.set_cons_succ]
  refine wpAnyU_free (i := 2) (v := ?_) (by simp only [List.getElem?_toArray, List.getElem?_cons_zero, List.getElem?_cons_succ]; rfl) (by kernel_rfl) (by kernel_rfl) (by kernel_rfl) (by rfl) (by exact fun _ _ _ h => h) (Or.inl ⟨by rfl, ?hy2⟩) hU ?rest2
  case hy2 => (intro W' hSW; obtain ⟨x1, x2⟩ := hSW; go_simp; try with_reducible rfl)
  try simp only [Act.put, List.setIfInBounds_toArray, List.set_cons_zero, List.set_cons_succ]
  refine wpAnyU_free (i := 3) (v := ?_) (by simp only [List.getElem?_toArray, List.getElem?_cons_zero, List.getElem?_cons_succ]; rfl) (by kernel_rfl) (by kernel_rfl) (by kernel_rfl) (by rfl) (by exact fun _ _ _ h => h) (Or.inl ⟨by rfl, ?hy3⟩) hU ?rest3
  case hy3 => (intro W' hSW; obtain ⟨x1, x2⟩ := hSW; go_simp; try with_reducible rfl)
  try simp only [Act.put, List.setIfInBounds_toArray, List.set_cons_zero, List.set_cons_succ]
  refine wpAnyU_free (i := 4) (v := ?_) (by simp only [List.getElem?_toArray, List.getElem?_cons_zero, List.getElem?_cons_succ]; rfl) (by kernel_rfl) (by kernel_rfl) (by kernel_rfl) (by rfl) (by exact fun _ _ _ h => h) (Or.inl ⟨by rfl, ?hy4⟩) hU ?rest4
  case hy4 => (intro W' hSW; obtain ⟨x1, x2⟩ := hSW; go_simp; try with_reducible rfl)
  try simp only [Act.put, List.setIfInBounds_toArray, List.set_cons_zero, List.set_cons_succ]
  refine wpAnyU_free (i := 5) (v := ?_) (by simp only [List.getElem?_toArray, List.getElem?_cons_zero, List.getElem?_cons_succ]; rfl) (by kernel_rfl) (by kernel_rfl) (by kernel_rfl) (by rfl) (by exact fun _ _ _ h => h) (Or.inl ⟨by rfl, ?hy5⟩) hU ?rest5
  case hy5 => (intro W' hSW; obtain ⟨x1, x2⟩ := hSW; go_simp; try with_reducible rfl)
  try simp only [Act.put, List.setIfInBounds_toArray, List.set_cons_zero, List.set_cons_succ]
  refine wpAnyU_free (i := 6) (v := ?_) (by simp only [List.getElem?_toArray, List.getElem?_cons_zero, List.getElem?_cons_succ]; rfl) (by kernel_rfl) (by kernel_rfl) (by kernel_rfl) (by rfl) (by exact fun _ _ _ h => h) (Or.inl ⟨by rfl, ?hy6⟩) hU ?rest6
  case hy6 => (intro W' hSW; obtain ⟨x1, x2⟩ := hSW; go_simp; try with_reducible rfl)
  try simp only [Act.put, List.setIfInBounds_toArray, List.set_cons_zero, List.set_cons_succ]
  refine wpAnyU_free (i := 7) (v := ?_) (by simp only [List.getElem?_toArray, List.getElem?_cons_zero, List.getElem?_cons_succ]; rfl) (by kernel_rfl) (by kernel_rfl) (by kernel_rfl) (by rfl) (by exact fun _ _ _ h => h) (Or.inl ⟨by rfl, ?hy7⟩) hU ?rest7
  case hy7 => (intro W' hSW; obtain ⟨x1, x2⟩ := hSW; go_simp; try with_reducible rfl)
  try simp only [Act.put, List.setIfInBounds_toArray, List.set_cons_zero, List.set_cons_succ]
  refine wpAnyU_free (i := 8) (v := ?_) (by simp only [List.getElem?_toArray, List.getElem?_cons_zero, List.getElem?_cons_succ]; rfl) (by kernel_rfl) (by kernel_rfl) (by kernel_rfl) (by rfl) (by exact fun _ _ _ h => h) (Or.inl ⟨by rfl, ?hy8⟩) hU ?rest8
  case hy8 => (intro W' hSW; obtain ⟨x1, x2⟩ := hSW; go_simp; try with_reducible rfl)
  try simp only [Act.put, List.setIfInBounds_toArray, List.set_cons_zero, List.set_cons_succ]
  refine wpAnyU_free (i := 9) (v := ?_) (by simp only [List.getElem?_toArray, List.getElem?_cons_zero, List.getElem?_cons_succ]; rfl) (by kernel_rfl) (by kernel_rfl) (by kernel_rfl) (by rfl) (by exact fun _ _ _ h => h) (Or.inl ⟨by rfl, ?hy9⟩) hU ?rest9
  case hy9 => (intro W' hSW; obtain ⟨x1, x2⟩ := hSW; go_simp; try with_reducible rfl)
  try simp only [Act.put, List.setIfInBounds_toArray, List.set_cons_zero, List.set_cons_succ]
  refine wpAnyU_free (i := 10) (v := ?_) (by simp only [List.getElem?_toArray, List.getElem?_cons_zero, List.getElem?_cons_succ]; rfl) (by kernel_rfl) (by kernel_rfl) (by kernel_rfl) (by rfl) (by exact fun _ _ _ h => h) (Or.inl ⟨by rfl, ?hy10⟩) hU ?rest10
  case hy10 => (intro W' hSW; obtain ⟨x1, x2⟩ := hSW; go_simp; try with_reducible rfl)
  try simp only [Act.put, List.setIfInBounds_toArray, List.set_cons_zero, List.set_cons_succ]
  refine wpAnyU_free (i := 11) (v := ?_) (by simp only [List.getElem?_toArray, List.getElem?_cons_zero, List.getElem?_cons_succ]; rfl) (by kernel_rfl) (by kernel_rfl) (by kernel_rfl) (by rfl) (by exact fun _ _ _ h => h) (Or.inl ⟨by rfl, ?hy11⟩) hU ?rest11
  case hy11 => (intro W' hSW; obtain ⟨x1, x2⟩ := hSW; go_simp; try with_reducible rfl)
  try simp only [Act.put, List.setIfInBounds_toArray, List.set_cons_zero, List.set_cons_succ]
  refine wpAnyU_free (i := 12) (v := ?_) (by simp only [List.getElem?_toArray, List.getElem?_cons_zero, List.getElem?_cons_succ]; rfl) (by kernel_rfl) (by kernel_rfl) (by kernel_rfl) (by rfl) (by exact fun _ _ _ h => h) (Or.inl ⟨by rfl, ?hy12⟩) hU ?rest12
  case hy12 => (intro W' hSW; obtain ⟨x1, x2⟩ := hSW; go_simp; try with_reducible rfl)
  try simp only [Act.put, List.setIfInBounds_toArray, List.set_cons_zero, List.set_cons_succ]
  refine wpAnyU_free (i := 13) (v := ?_) (by simp only [List.getElem?_toArray, List.getElem?_cons_zero, List.getElem?_cons_succ]; rfl) (by kernel_rfl) (by kernel_rfl) (by kernel_rfl) (by rfl) (by exact fun _ _ _ h => h) (Or.inl ⟨by rfl, ?hy13⟩) hU ?rest13
  case hy13 => (intro W' hSW; obtain ⟨x1, x2⟩ := hSW; go_simp; try with_reducible rfl)
  try simp only [Act.put, List.setIfInBounds_toArray, List.set_cons_zero, List.set_cons_succ]
  refine wpAnyU_free (i := 14) (v := ?_) (by simp only [List.getElem?_toArray, List.getElem?_cons_zero, List.getElem?_cons_succ]; rfl) (by kernel_rfl) (by kernel_rfl) (by kernel_rfl) (by rfl) (by exact fun _ _ _ h => h) (Or.inl ⟨by rfl, ?hy14⟩) hU ?rest14
  case hy14 => (intro W' hSW; obtain ⟨x1, x2⟩ := hSW; go_simp; try with_reducible rfl)
  try simp only [Act.put, List.setIfInBounds_toArray, List.set_cons_zero, List.set_cons_succ]
  refine wpAnyU_free (i := 15) (v := ?_) (by simp only [List.getElem?_toArray, List.getElem?_cons_zero, List.getElem?_cons_succ]; rfl) (by kernel_rfl) (by kernel_rfl) (by kernel_rfl) (by rfl) (by exact fun _ _ _ h => h) (Or.inl ⟨by rfl, ?hy15⟩) hU ?rest15
  case hy15 => (intro W' hSW; obtain ⟨x1, x2⟩ := hSW; go_simp; try with_reducible rfl)
  try simp only [Act.put, List.setIfInBounds_toArray, List.set_cons_zero, List.set_cons_succ]
  refine wpAnyU_free (i := 17) (v := ?_) (by simp only [List.getElem?_toArray, List.getElem?_cons_zero, List.getElem?_cons_succ]; rfl) (by kernel_rfl) (by kernel_rfl) (by kernel_rfl) (by rfl) (by exact fun _ _ _ h => h) (Or.inl ⟨by rfl, ?hy17⟩) hU ?rest17
  case hy17 => (intro W' hSW; obtain ⟨x1, x2⟩ := hSW; go_simp; try with_reducible rfl)
  try simp only [Act.put, List.setIfInBounds_toArray, List.set_cons_zero, List.set_cons_succ]
  refine wpAnyU_free (i := 18) (v := ?_) (by simp only [List.getElem?_toArray, List.getElem?_cons_zero, List.getElem?_cons_succ]; rfl) (by kernel_rfl) (by kernel_rfl) (by kernel_rfl) (by rfl) (by exact fun _ _ _ h => h) (Or.inl ⟨by rfl, ?hy18⟩) hU ?rest18
  case hy18 => (intro W' hSW; obtain ⟨x1, x2⟩ := hSW; go_simp; try with_reducible rfl)
  try simp only [Act.put, List.setIfInBounds_toArray, List.set_cons_zero, List.set_cons_succ]
  refine wpAnyU_free (i := 19) (v := ?_) (by simp only [List.getElem?_toArray, List.getElem?_cons_zero, List.getElem?_cons_succ]; rfl) (by kernel_rfl) (by kernel_rfl) (by kernel_rfl) (by rfl) (by exact fun _ _ _ h => h) (Or.inl ⟨by rfl, ?hy19⟩) hU ?rest19
  case hy19 => (intro W' hSW; obtain ⟨x1, x2⟩ := hSW; go_simp; try with_reducible rfl)
  try simp only [Act.put, List.setIfInBounds_toArray, List.set_cons_zero, List.set_cons_succ]
  refine wpAnyU_free (i := 20) (v := ?_) (by simp only [List.getElem?_toArray, List.getElem?_cons_zero, List.getElem?_cons_succ]; rfl) (by kernel_rfl) (by kernel_rfl) (by kernel_rfl) (by rfl) (by exact fun _ _ _ h => h) (Or.inl ⟨by rfl, ?hy20⟩) hU ?rest20
  case hy20 => (intro W' hSW; obtain ⟨x1, x2⟩ := hSW; go_simp; try with_reducible rfl)
  try simp only [Act.put, List.setIfInBounds_toArray, List.set_cons_zero, List.set_cons_succ]
  refine wpAnyU_free (i := 21) (v := ?_) (by simp only [List.getElem?_toArray, List.getElem?_cons_zero, List.getElem?_cons_succ]; rfl) (by kernel_rfl) (by kernel_rfl) (by kernel_rfl) (by rfl) (by exact fun _ _ _ h => h) (Or.inl ⟨by rfl, ?hy21⟩) hU ?rest21
  case hy21 => (intro W' hSW; obtain ⟨x1, x2⟩ := hSW; go_simp; try with_reducible rfl)
  try simp only [Act.put, List.setIfInBounds_toArray, List.set_cons_zero, List.set_cons_succ]
  refine wpAnyU_free (i := 22) (v := ?_) (by simp only [List.getElem?_toArray, List.getElem?_cons_zero, List.getElem?_cons_succ]; rfl) (by kernel_rfl) (by kernel_rfl) (by kernel_rfl) (by rfl) (by exact fun _ _ _ h => h) (Or.inl ⟨by rfl, ?hy22⟩) hU ?rest22
  case hy22 => (intro W' hSW; obtain ⟨x1, x2⟩ := hSW; go_simp; try with_reducible rfl)
  try simp only [Act.put, List.setIfInBounds_toArray, List.set_cons_zero, List.set_cons_succ]
  refine wpAnyU_take (i := 16) (v := ?_) (by simp only [List.getElem?_toArray, List.getElem?_cons_zero, List.getElem?_cons_succ]; rfl) (by kernel_rfl) (by kernel_rfl) (by kernel_rfl) (by kernel_rfl) (by exact fun _ _ _ h => h) (Or.inl ⟨by rfl, ?hy16⟩) hU hS ?rest16
  case hy16 => (intro W' hSW; obtain ⟨x1, x2, x3, x4⟩ := hSW; go_simp; try with_reducible rfl)
  try simp only [Act.put, List.setIfInBounds_toArray, List.set_cons_zero, List.set_cons_succ]
  refine wpAnyU_take (i := 23) (v := ?_) (by simp only [List.getElem?_toArray, List.getElem?_cons_zero, List.getElem?_cons_succ]; rfl) (by kernel_rfl) (by kernel_rfl) (by kernel_rfl) (by kernel_rfl) (by exact fun _ _ _ h => h) (Or.inl ⟨by rfl, ?hy23⟩) hU hS ?rest23
  case hy23 => (intro W' hSW; obtain ⟨x1, x2, x3, x4⟩ := hSW; go_simp; try with_reducible rfl)
  try simp only [Act.put, List.setIfInBounds_toArray, List.set_cons_zero, List.set_cons_succ]
  refine wpAnyU_free (i := 24) (v := ?_) (by simp only [List.getElem?_toArray, List.getElem?_cons_zero, List.getElem?_cons_succ]; rfl) (by kernel_rfl) (by kernel_rfl) (by kernel_rfl) (by rfl) (by exact fun _ _ _ h => h) (Or.inl ⟨by rfl, ?hy24⟩) hU ?rest24
  case hy24 => (intro W' hSW; obtain ⟨x1, x2⟩ := hSW; go_simp; try with_reducible rfl)
  try simp only [Act.put, List.setIfInBounds_toArray, List.set_cons_zero, List.set_cons_succ]
  refine wpAnyU_ready (rs := [25]) (by kernel_rfl) (by simp) ?_
  refine AllReadyU.cons (by simp only [List.getElem?_toArray, List.getElem?_cons_zero, List.getElem?_cons_succ]; rfl) (fun K hK => ?_) AllReadyU.nil
  go_simp
  refine hK.out _ _ HU1.out (fun h => by simp at h) ?_
  clear hK K hU hS
  try simp only [Act.put, List.setIfInBounds_toArray, List.set_cons_zero, List.set_cons_succ]
  refine wpAnyU_free (i := 26) (v := ?_) (by simp only [List.getElem?_toArray, List.getElem?_cons_zero, List.getElem?_cons_succ]; rfl) (by kernel_rfl) (by kernel_rfl) (by kernel_rfl) (by rfl) (by exact fun _ _ _ h => h) (Or.inl ⟨by rfl, ?hy26⟩) HU1.out ?rest26
  case hy26 => (intro W' hSW; obtain ⟨x1, x2⟩ := hSW; go_simp; try with_reducible rfl)
  try simp only [Act.put, List.setIfInBounds_toArray, List.set_cons_zero, List.set_cons_succ]
  refine wpAnyU_ready (rs := [27]) (by kernel_rfl) (by simp) ?_
  refine AllReadyU.cons (by simp only [List.getElem?_toArray, List.getElem?_cons_zero, List.getElem?_cons_succ]; rfl) (fun K hK => ?_) AllReadyU.nil
  go_simp
  refine hK.out _ _ HU2.out (fun h => by simp at h) ?_
  clear hK K
  try simp only [Act.put, List.setIfInBounds_toArray, List.set_cons_zero, List.set_cons_succ]
  refine wpAnyU_done (by kernel_rfl) ?_ _
  refine then_as (HX.out.trans (swap_drew _ _)) ?_
  clear HX b0 b1 s2 s3 s4 s5 f2 f3 f4 f5
  all_goals
    have HBc := HBS
    have HSc := HSS
    have HKc := HK
    clear HBS HSS HK
    have HX0 := Lib.hid (KnI.cells HKc.out)
    obtain ⟨p10, p11, p12, p13, p14, p20, p21, p22, p23, p24, p30, p31, p32, p33, p34⟩ := HX0.out
    have HC1 := Lib.hid (fun (W' : World) (hW : Below W0.heap.size W0 W') => show Calls Tryd.prog 7 #[.agg #[.slice none 0 0, .int .i64 1, .int .i64 0, .int .i64 1, .slice (some ⟨w.heap.size + 1 + 6, 0, none⟩) 3 3]] W' (fun e w' => e = .returned (.int .i64 7) ∧ Below W'.heap.size W' w') by
      have h := rcheck_any _ rNone W' ((HKc.out.keep hW HSc.out (by have := HSc.out; omega)).n1.keep (fun _ _ => rfl) (by have := HSc.out; have := hW.size; omega))
      rw [rNone_err] at h
      exact h)
    have HC2 := Lib.hid (fun (W' : World) (hW : Below W0.heap.size W0 W') => show Calls Tryd.prog 7 #[.agg #[.slice (some ⟨g2 + 1 + 1, 0, none⟩) 2 2, .int .i64 1, .int .i64 0, .int .i64 1, .slice (some ⟨g2 + 6, 0, none⟩) 3 3]] W' (fun e w' => e = .returned (.int .i64 2) ∧ Below W'.heap.size W' w') by
      have h := rcheck_any _ rDark W' ((HKc.out.keep hW HSc.out (by have := HSc.out; omega)).n2.keep (fun _ _ => rfl) (by have := HSc.out; have := hW.size; omega))
      rw [rDark_err] at h
      exact h)
    have HC3 := Lib.hid (fun (W' : World) (hW : Below W0.heap.size W0 W') => show Calls Tryd.prog 7 #[.agg #[.slice (some ⟨w2.heap.size + 1 + 1 + 1, 0, none⟩) 2 2, .int .i64 1, .int .i64 0, .int .i64 1, .slice (some ⟨w2.heap.size + 1 + 6, 0, none⟩) 3 3]] W' (fun e w' => e = .returned (.int .i64 5) ∧ Below W'.heap.size W' w') by
      have h := rcheck_any _ rBack W' ((HKc.out.keep hW HSc.out (by have := HSc.out; omega)).n3.keep (fun _ _ => rfl) (by have := HSc.out; have := hW.size; omega))
      rw [rBack_err] at h
      exact h)
    have HKP := Lib.hid (fun (W' : World) (hW : Below W0.heap.size W0 W') => KnI.cells (HKc.out.keep hW HSc.out (by have := HSc.out; omega)))
    have HB0 := Lib.hid (Below.refl W0.heap.size W0)
    go_upto_region 4 with fail
    go_cut [77] (fun s77 wd => s77 = .bool false ∧ Hid (Below W0.heap.size W0 wd))
    case first =>
      go_wp2_with
        (first
          | (go_at_call 6; (with_reducible refine (ready_any Unit _).mono ?_); rintro e wa ⟨rfl, hba⟩; have HBa := Lib.hid (HB0.out.trans (hba.mono HB0.out.size)); clear hba)
          | (go_at_call 4; (with_reducible refine (line_mem _).mono ?_); rintro e wb ⟨he, hmb, hbb, hzb⟩; simp only [cellsL] at he; subst he; have HC0 := Lib.hid (check_ok _ lineC wb lineC_ok (hmb.at_ (by omega))); simp only [cellsL] at HC0; have HBb := Lib.hid (HBa.out.trans (hbb.mono HBa.out.size)); clear hmb hbb hzb)
          | (go_at_call 7; (with_reducible refine HC0.out.mono ?_); rintro e wz ⟨rfl, hbz⟩; have HBz := Lib.hid (HBb.out.trans (hbz.mono HBb.out.size)); clear hbz p10 p11 p12 p13 p14 p20 p21 p22 p23 p24 p30 p31 p32 p33 p34; obtain ⟨p10, p11, p12, p13, p14, p20, p21, p22, p23, p24, p30, p31, p32, p33, p34⟩ := HKP.out _ HBz.out)
          | (go_at_call 7; (with_reducible refine (HC1.out _ HBz.out).mono ?_); rintro e wd ⟨rfl, hbd⟩; have HBd := Lib.hid (HBz.out.trans (hbd.mono HBz.out.size)); clear hbd p10 p11 p12 p13 p14 p20 p21 p22 p23 p24 p30 p31 p32 p33 p34; obtain ⟨p10, p11, p12, p13, p14, p20, p21, p22, p23, p24, p30, p31, p32, p33, p34⟩ := HKP.out _ HBd.out)
          | (go_at_call 7; (with_reducible refine (HC2.out _ HBd.out).mono ?_); rintro e we ⟨rfl, hbe⟩; have HBe := Lib.hid (HBd.out.trans (hbe.mono HBd.out.size)); clear hbe p10 p11 p12 p13 p14 p20 p21 p22 p23 p24 p30 p31 p32 p33 p34; obtain ⟨p10, p11, p12, p13, p14, p20, p21, p22, p23, p24, p30, p31, p32, p33, p34⟩ := HKP.out _ HBe.out)
          | (go_at_call 7; (with_reducible refine (HC3.out _ HBe.out).mono ?_); rintro e wf ⟨rfl, hbf⟩; have HBf := Lib.hid (HBe.out.trans (hbf.mono HBe.out.size)); clear hbf))
      all_goals
        go_wp2_with fail
        go_meet
        exact ⟨rfl, HBf⟩
    case rest =>
      obtain ⟨rfl, HBD⟩ := hcut
      obtain ⟨W1, hW1⟩ : ∃ x, x = wc := ⟨wc, rfl⟩
      subst wc
      have HK := Lib.hid (HKc.out.keep HBD.out HSc.out (by have := HSc.out; omega))
      have HB1 := Lib.hid (HBc.out.trans (HBD.out.mono HBc.out.size))
      have HS1 := Lib.hid (Nat.lt_of_lt_of_le HSc.out HBD.out.size)
      have T0 := Lib.hid (Below.refl W1.heap.size W1)
      clear HBD HC1 HC2 HC3 HKP HX0 HB0 p10 p11 p12 p13 p14 p20 p21 p22 p23 p24 p30 p31 p32 p33 p34 HBc HSc HKc
      go_wp2_with fail
      refine (line_laid _).mono ?_
      rintro e x1 ⟨g1, rfl, hl, hb⟩
      have T1 := Lib.hid (T0.out.trans ((hb).mono T0.out.size))
      clear T0
      clear hb
      have HL1 := Lib.hid hl
      clear hl
      go_wp2_with fail
      refine (hands_ok lineC_ok HL1.out lineC_handsOf (by simp)).mono ?_
      rintro e x2 ⟨A5, c5, rfl, hi, hb⟩
      have T2 := Lib.hid (T1.out.trans ((hb).mono T1.out.size))
      have HL1' := Lib.hid (line_keep HL1.out (hb))
      clear HL1
      have HL1 := HL1'
      clear HL1'
      clear T1
      clear hb
      have HI5 := Lib.hid hi
      clear hi
      clear HL1
      go_wp2_with fail
      refine (line_laid _).mono ?_
      rintro e x3 ⟨g3, rfl, hl, hb⟩
      have T3 := Lib.hid (T2.out.trans ((hb).mono T2.out.size))
      have HI5' := Lib.hid (ints_keep HI5.out (hb))
      clear HI5
      have HI5 := HI5'
      clear HI5'
      clear T2
      clear hb
      have HL3 := Lib.hid hl
      clear hl
      go_wp2_with fail
      refine (years_ok lineC_ok HL3.out lineC_handsOf lineC_years).mono ?_
      rintro e x4 ⟨rfl, hb⟩
      have T4 := Lib.hid (T3.out.trans ((hb).mono T3.out.size))
      have HI5' := Lib.hid (ints_keep HI5.out (hb))
      clear HI5
      have HI5 := HI5'
      clear HI5'
      have HL3' := Lib.hid (line_keep HL3.out (hb))
      clear HL3
      have HL3 := HL3'
      clear HL3'
      clear T3
      clear hb
      clear HL3
      have HY7 := Lib.hid (Blok.new x4 33 [.int .i64 (-400), .int .i64 (-200)])
      have T5 := Lib.hid (T4.out.trans (((Below.refl x4.heap.size x4).alloc (Nat.le_refl _) (.cells #[.int .i64 (-400), .int .i64 (-200)] 33)).mono T4.out.size))
      have HI5' := Lib.hid (ints_keep HI5.out ((Below.refl x4.heap.size x4).alloc (Nat.le_refl _) (.cells #[.int .i64 (-400), .int .i64 (-200)] 33)))
      clear HI5
      have HI5 := HI5'
      clear HI5'
      clear T4
      have HKs := Lib.hid (HK.out.keep T5.out (by have := HS1.out; omega) (by have := HS1.out; omega))
      have HLs := Lib.hid (HKs.out.n4.keep (Same.refl _ _) (by have := HS1.out; have := T5.out.size; omega) : LineAt (x4.alloc (.cells #[.int .i64 (-400), .int .i64 (-200)] 33)) (x4.alloc (.cells #[.int .i64 (-400), .int .i64 (-200)] 33)).heap.size _ lineS)
      have k0 : (x4.alloc (.cells #[.int .i64 (-400), .int .i64 (-200)] 33)).cell? ⟨w4.heap.size + 1 + 1 + 1, 0, none⟩ = some (.slice (some ⟨w3.heap.size + 1 + 1 + 1, 0, none⟩) 2 2) := HKs.out.b4.cell 0
      have k1 : (x4.alloc (.cells #[.int .i64 (-400), .int .i64 (-200)] 33)).cell? ⟨w4.heap.size + 1 + 1 + 1, 1, none⟩ = some (.int .i64 1) := HKs.out.b4.cell 1
      have k2 : (x4.alloc (.cells #[.int .i64 (-400), .int .i64 (-200)] 33)).cell? ⟨w4.heap.size + 1 + 1 + 1, 2, none⟩ = some (.int .i64 0) := HKs.out.b4.cell 2
      have k3 : (x4.alloc (.cells #[.int .i64 (-400), .int .i64 (-200)] 33)).cell? ⟨w4.heap.size + 1 + 1 + 1, 3, none⟩ = some (.int .i64 0) := HKs.out.b4.cell 3
      have k4 : (x4.alloc (.cells #[.int .i64 (-400), .int .i64 (-200)] 33)).cell? ⟨w4.heap.size + 1 + 1 + 1, 4, none⟩ = some (.slice (some ⟨w3.heap.size + 1 + 6, 0, none⟩) 3 3) := HKs.out.b4.cell 4
      go_wp2_with fail
      refine (hands_ok lineS_ok HLs.out lineS_handsOf (by simp)).mono ?_
      rintro e x5 ⟨A9, c9, rfl, hi, hb⟩
      clear k0 k1 k2 k3 k4 HKs HLs
      have T6 := Lib.hid (T5.out.trans ((hb).mono T5.out.size))
      have HI5' := Lib.hid (ints_keep HI5.out (hb))
      clear HI5
      have HI5 := HI5'
      clear HI5'
      have HY7' := Lib.hid (HY7.out.below (hb) HY7.out.size)
      clear HY7
      have HY7 := HY7'
      clear HY7'
      clear T5
      clear hb
      have HI9 := Lib.hid hi
      clear hi
      have HKs := Lib.hid (HK.out.keep T6.out (by have := HS1.out; omega) (by have := HS1.out; omega))
      have HLs := Lib.hid (HKs.out.n4.keep (Same.refl _ _) (by have := HS1.out; have := T6.out.size; omega) : LineAt x5 x5.heap.size _ lineS)
      have k0 : x5.cell? ⟨w4.heap.size + 1 + 1 + 1, 0, none⟩ = some (.slice (some ⟨w3.heap.size + 1 + 1 + 1, 0, none⟩) 2 2) := HKs.out.b4.cell 0
      have k1 : x5.cell? ⟨w4.heap.size + 1 + 1 + 1, 1, none⟩ = some (.int .i64 1) := HKs.out.b4.cell 1
      have k2 : x5.cell? ⟨w4.heap.size + 1 + 1 + 1, 2, none⟩ = some (.int .i64 0) := HKs.out.b4.cell 2
      have k3 : x5.cell? ⟨w4.heap.size + 1 + 1 + 1, 3, none⟩ = some (.int .i64 0) := HKs.out.b4.cell 3
      have k4 : x5.cell? ⟨w4.heap.size + 1 + 1 + 1, 4, none⟩ = some (.slice (some ⟨w3.heap.size + 1 + 6, 0, none⟩) 3 3) := HKs.out.b4.cell 4
      go_wp2_with fail
      refine (years_ok lineS_ok HLs.out lineS_handsOf lineS_years).mono ?_
      rintro e x6 ⟨rfl, hb⟩
      clear k0 k1 k2 k3 k4 HKs HLs
      have T7 := Lib.hid (T6.out.trans ((hb).mono T6.out.size))
      have HI5' := Lib.hid (ints_keep HI5.out (hb))
      clear HI5
      have HI5 := HI5'
      clear HI5'
      have HY7' := Lib.hid (HY7.out.below (hb) HY7.out.size)
      clear HY7
      have HY7 := HY7'
      clear HY7'
      have HI9' := Lib.hid (ints_keep HI9.out (hb))
      clear HI9
      have HI9 := HI9'
      clear HI9'
      clear T6
      clear hb
      have HY11 := Lib.hid (Blok.new x6 33 [.int .i64 (-400), .int .i64 (-300)])
      have T8 := Lib.hid (T7.out.trans (((Below.refl x6.heap.size x6).alloc (Nat.le_refl _) (.cells #[.int .i64 (-400), .int .i64 (-300)] 33)).mono T7.out.size))
      have HI5' := Lib.hid (ints_keep HI5.out ((Below.refl x6.heap.size x6).alloc (Nat.le_refl _) (.cells #[.int .i64 (-400), .int .i64 (-300)] 33)))
      clear HI5
      have HI5 := HI5'
      clear HI5'
      have HY7' := Lib.hid (HY7.out.below ((Below.refl x6.heap.size x6).alloc (Nat.le_refl _) (.cells #[.int .i64 (-400), .int .i64 (-300)] 33)) HY7.out.size)
      clear HY7
      have HY7 := HY7'
      clear HY7'
      have HI9' := Lib.hid (ints_keep HI9.out ((Below.refl x6.heap.size x6).alloc (Nat.le_refl _) (.cells #[.int .i64 (-400), .int .i64 (-300)] 33)))
      clear HI9
      have HI9 := HI9'
      clear HI9'
      clear T7
      have HKs := Lib.hid (HK.out.keep T8.out (by have := HS1.out; omega) (by have := HS1.out; omega))
      have HLs := Lib.hid (HKs.out.n4.keep (Same.refl _ _) (by have := HS1.out; have := T8.out.size; omega) : LineAt (x6.alloc (.cells #[.int .i64 (-400), .int .i64 (-300)] 33)) (x6.alloc (.cells #[.int .i64 (-400), .int .i64 (-300)] 33)).heap.size _ lineS)
      have k0 : (x6.alloc (.cells #[.int .i64 (-400), .int .i64 (-300)] 33)).cell? ⟨w4.heap.size + 1 + 1 + 1, 0, none⟩ = some (.slice (some ⟨w3.heap.size + 1 + 1 + 1, 0, none⟩) 2 2) := HKs.out.b4.cell 0
      have k1 : (x6.alloc (.cells #[.int .i64 (-400), .int .i64 (-300)] 33)).cell? ⟨w4.heap.size + 1 + 1 + 1, 1, none⟩ = some (.int .i64 1) := HKs.out.b4.cell 1
      have k2 : (x6.alloc (.cells #[.int .i64 (-400), .int .i64 (-300)] 33)).cell? ⟨w4.heap.size + 1 + 1 + 1, 2, none⟩ = some (.int .i64 0) := HKs.out.b4.cell 2
      have k3 : (x6.alloc (.cells #[.int .i64 (-400), .int .i64 (-300)] 33)).cell? ⟨w4.heap.size + 1 + 1 + 1, 3, none⟩ = some (.int .i64 0) := HKs.out.b4.cell 3
      have k4 : (x6.alloc (.cells #[.int .i64 (-400), .int .i64 (-300)] 33)).cell? ⟨w4.heap.size + 1 + 1 + 1, 4, none⟩ = some (.slice (some ⟨w3.heap.size + 1 + 6, 0, none⟩) 3 3) := HKs.out.b4.cell 4
      go_wp2_with fail
      refine (print_ok HLs.out).mono ?_
      rintro e x7 ⟨rfl, hb⟩
      clear k0 k1 k2 k3 k4 HKs HLs
      have T9 := Lib.hid (T8.out.trans ((hb).mono T8.out.size))
      have HI5' := Lib.hid (ints_keep HI5.out (hb))
      clear HI5
      have HI5 := HI5'
      clear HI5'
      have HY7' := Lib.hid (HY7.out.below (hb) HY7.out.size)
      clear HY7
      have HY7 := HY7'
      clear HY7'
      have HI9' := Lib.hid (ints_keep HI9.out (hb))
      clear HI9
      have HI9 := HI9'
      clear HI9'
      have HY11' := Lib.hid (HY11.out.below (hb) HY11.out.size)
      clear HY11
      have HY11 := HY11'
      clear HY11'
      clear T8
      clear hb
      have y0 : x7.cell? ⟨x4.heap.size, 0, none⟩ = some (.int .i64 (-400)) := HY7.out.cell 0
      have y1 : x7.cell? ⟨x4.heap.size, 1, none⟩ = some (.int .i64 (-200)) := HY7.out.cell 1
      have y2 : x7.cell? ⟨x6.heap.size, 0, none⟩ = some (.int .i64 (-400)) := HY11.out.cell 0
      have y3 : x7.cell? ⟨x6.heap.size, 1, none⟩ = some (.int .i64 (-300)) := HY11.out.cell 1
      clear HY7
      clear HY11
      go_wp2_with fail
      clear y0 y1 y2 y3
      refine (same_lit2 HI5.out).mono ?_
      rintro e x8 ⟨rfl, hb⟩
      have T10 := Lib.hid (T9.out.trans ((hb).mono T9.out.size))
      have HI5' := Lib.hid (ints_keep HI5.out (hb))
      clear HI5
      have HI5 := HI5'
      clear HI5'
      have HI9' := Lib.hid (ints_keep HI9.out (hb))
      clear HI9
      have HI9 := HI9'
      clear HI9'
      clear T9
      clear hb
      clear HI5
      go_wp2_with fail
      refine (same_lit1 HI9.out).mono ?_
      rintro e x9 ⟨rfl, hb⟩
      have T11 := Lib.hid (T10.out.trans ((hb).mono T10.out.size))
      have HI9' := Lib.hid (ints_keep HI9.out (hb))
      clear HI9
      have HI9 := HI9'
      clear HI9'
      clear T10
      clear hb
      clear HI9
      go_wp2_with fail
      refine (line_laid _).mono ?_
      rintro e x10 ⟨g10, rfl, hl, hb⟩
      have T12 := Lib.hid (T11.out.trans ((hb).mono T11.out.size))
      clear T11
      clear hb
      have HL10 := Lib.hid hl
      clear hl
      go_wp2_with fail
      refine (marks_ok lineC_ok HL10.out lineC_marks).mono ?_
      rintro e x11 ⟨rfl, hb⟩
      have T13 := Lib.hid (T12.out.trans ((hb).mono T12.out.size))
      have HL10' := Lib.hid (line_keep HL10.out (hb))
      clear HL10
      have HL10 := HL10'
      clear HL10'
      clear T12
      clear hb
      clear HL10
      go_wp2_with fail
      refine (seen_laid2 _ 15 7).mono ?_
      rintro e x12 ⟨g12, rfl, hl, hb⟩
      have T14 := Lib.hid (T13.out.trans ((hb).mono T13.out.size))
      clear T13
      clear hb
      have HL12 := Lib.hid hl
      clear hl
      go_wp2_with fail
      refine (marks_ok lineM1_ok HL12.out lineM1_marks).mono ?_
      rintro e x13 ⟨rfl, hb⟩
      have T15 := Lib.hid (T14.out.trans ((hb).mono T14.out.size))
      have HL12' := Lib.hid (line_keep HL12.out (hb))
      clear HL12
      have HL12 := HL12'
      clear HL12'
      clear T14
      clear hb
      clear HL12
      go_wp2_with fail
      refine (seen_laid2 _ 15 1).mono ?_
      rintro e x14 ⟨g14, rfl, hl, hb⟩
      have T16 := Lib.hid (T15.out.trans ((hb).mono T15.out.size))
      clear T15
      clear hb
      have HL14 := Lib.hid hl
      clear hl
      go_wp2_with fail
      refine (hands_ok lineM2_ok HL14.out lineM2_handsOf (by simp)).mono ?_
      rintro e x15 ⟨A15, c15, rfl, hi, hb⟩
      have T17 := Lib.hid (T16.out.trans ((hb).mono T16.out.size))
      have HL14' := Lib.hid (line_keep HL14.out (hb))
      clear HL14
      have HL14 := HL14'
      clear HL14'
      clear T16
      clear hb
      have HI15 := Lib.hid hi
      clear hi
      clear HL14
      go_wp2_with fail
      refine (seen_laid2 _ 15 0).mono ?_
      rintro e x16 ⟨g16, rfl, hl, hb⟩
      have T18 := Lib.hid (T17.out.trans ((hb).mono T17.out.size))
      have HI15' := Lib.hid (ints_keep HI15.out (hb))
      clear HI15
      have HI15 := HI15'
      clear HI15'
      clear T17
      clear hb
      have HL16 := Lib.hid hl
      clear hl
      go_wp2_with fail
      refine (hands_clash lineM3_ok HL16.out lineM3_handsOf).mono ?_
      rintro e x17 ⟨rfl, hb⟩
      have T19 := Lib.hid (T18.out.trans ((hb).mono T18.out.size))
      have HI15' := Lib.hid (ints_keep HI15.out (hb))
      clear HI15
      have HI15 := HI15'
      clear HI15'
      have HL16' := Lib.hid (line_keep HL16.out (hb))
      clear HL16
      have HL16 := HL16'
      clear HL16'
      clear T18
      clear hb
      clear HL16
      go_wp2_with fail
      refine (seen_laid0 _).mono ?_
      rintro e x18 ⟨g18, rfl, hl, hb⟩
      have T20 := Lib.hid (T19.out.trans ((hb).mono T19.out.size))
      have HI15' := Lib.hid (ints_keep HI15.out (hb))
      clear HI15
      have HI15 := HI15'
      clear HI15'
      clear T19
      clear hb
      have HL18 := Lib.hid hl
      clear hl
      go_wp2_with fail
      refine (hands_clash lineM4_ok HL18.out lineM4_handsOf).mono ?_
      rintro e x19 ⟨rfl, hb⟩
      have T21 := Lib.hid (T20.out.trans ((hb).mono T20.out.size))
      have HI15' := Lib.hid (ints_keep HI15.out (hb))
      clear HI15
      have HI15 := HI15'
      clear HI15'
      have HL18' := Lib.hid (line_keep HL18.out (hb))
      clear HL18
      have HL18 := HL18'
      clear HL18'
      clear T20
      clear hb
      clear HL18
      go_wp2_with fail
      refine (line_laid _).mono ?_
      rintro e x20 ⟨g20, rfl, hl, hb⟩
      have T22 := Lib.hid (T21.out.trans ((hb).mono T21.out.size))
      have HI15' := Lib.hid (ints_keep HI15.out (hb))
      clear HI15
      have HI15 := HI15'
      clear HI15'
      clear T21
      clear hb
      have HL20 := Lib.hid hl
      clear hl
      go_wp2_with fail
      refine (look_ok HL20.out).mono ?_
      rintro e x21 ⟨rfl, hb⟩
      have T23 := Lib.hid (T22.out.trans ((hb).mono T22.out.size))
      have HI15' := Lib.hid (ints_keep HI15.out (hb))
      clear HI15
      have HI15 := HI15'
      clear HI15'
      have HL20' := Lib.hid (line_keep HL20.out (hb))
      clear HL20
      have HL20 := HL20'
      clear HL20'
      clear T22
      clear hb
      clear HL20
      go_wp2_with fail
      refine (line_laid _).mono ?_
      rintro e x22 ⟨g22, rfl, hl, hb⟩
      have T24 := Lib.hid (T23.out.trans ((hb).mono T23.out.size))
      have HI15' := Lib.hid (ints_keep HI15.out (hb))
      clear HI15
      have HI15 := HI15'
      clear HI15'
      clear T23
      clear hb
      have HL22 := Lib.hid hl
      clear hl
      have HTW := Lib.hid (Lib.tabBelow_of_tabIs (HT.out.on (HB1.out.trans (T24.out.mono HB1.out.size))).here)
      go_wp2_with fail
      refine (write_line _ lineC _ lineC_ok lineC_small (by rw [lineC_sheet]; decide +kernel) HL22.out HTW.out).mono ?_
      rintro e x23 ⟨rfl, hb⟩
      have T25 := Lib.hid (T24.out.trans ((hb).mono T24.out.size))
      have HI15' := Lib.hid (ints_keep HI15.out (hb))
      clear HI15
      have HI15 := HI15'
      clear HI15'
      have HL22' := Lib.hid (line_keep HL22.out (hb))
      clear HL22
      have HL22 := HL22'
      clear HL22'
      clear T24
      clear hb
      clear HL22
      clear HTW
      go_wp2_with fail
      refine (same_lit1 HI15.out).mono ?_
      rintro e x24 ⟨rfl, hb⟩
      have T26 := Lib.hid (T25.out.trans ((hb).mono T25.out.size))
      have HI15' := Lib.hid (ints_keep HI15.out (hb))
      clear HI15
      have HI15 := HI15'
      clear HI15'
      clear T25
      clear hb
      clear HI15
      go_wp2_with fail
      go_ret
      refine ⟨?_, HB1.out.trans (T26.out.mono HB1.out.size)⟩
      exact congrArg (fun b => Ending.returned (.bool b)) (by decide +kernel)
end Go.Proofs.YtcemefojpaicoaaDoor
