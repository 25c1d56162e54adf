/- DateTold, walked. -/
import Derived.Test.YtcbdcdpoackplaaGa
namespace Go.Proofs.Ytcbdcdpoackplaa
open Go.RowKit Dt

set_option maxRecDepth 100000 in
set_option maxHeartbeats 4000000 in
theorem told_walk (a0 : Option Addr) (len cap : Nat) (w : World) (hr : NumRow w a0 len) :
    Calls Try.prog 7 #[.slice a0 len cap] w fun e w' => e = .returned (.bool true) ∧ Below w.heap.size w w' := by
  obtain ⟨kI, hi, hz0, hz1, hz2⟩ := info_parts info_napi
  have HQ := Lib.hid hi
  have HQ0 := Lib.hid hz0
  have HQ1 := Lib.hid hz1
  have HQ2 := Lib.hid hz2
  clear hi hz0 hz1 hz2
  go_enter Try.func7, Try.ntmps7
  go_wp2_with fail
  refine (newUrn_any a0 len cap _ hr).mono ?_
  rintro e w1 ⟨rfl, hu1, hb1⟩
  have HU1 := Lib.hid hu1
  have HB1 := Lib.hid hb1
  clear hu1 hb1 hr
  go_wp2_with fail
  refine (datingOf_any w.heap.size 4 7 12 w1 (by omega) (by omega) (by omega) (by omega) (by omega) HU1.out).mono ?_
  rintro e w2 ⟨d, ys, fs, vd, vy, vf, rfl, hm, hD, hY, hF, hu2, hk2⟩
  obtain ⟨Ae, ce, An, cn, rfl⟩ := hD.slices
  obtain ⟨Ay, cy, rfl⟩ := own_slice hY
  obtain ⟨Af, cf, rfl⟩ := own_slice hF
  have HC := Lib.hid (LC.start (smax := 0) HB1.out (Nat.le_refl _) hD hY hF hu2 hk2 rfl)
  have HM := Lib.hid hm
  clear hD hY hF hu2 hk2 hm HU1 HB1
  go_wp2_with fail
  have hst := HM.out.ok.stones
  have hs4 := HM.out.stones
  refine (up_any _ _ _ (by omega) HC.out.urn).mono ?_
  rintro e w3 ⟨k, rfl, hk, hu3, hk3⟩
  have HC3 := Lib.hid (HC.out.calls hu3 hk3)
  have hks : k < d.stones := by omega
  clear hu3 hk3 HC hk
  have hny := HM.out.ny
  have hky : k < ys.length := by omega
  obtain ⟨y0, hy0⟩ : ∃ y0, ys[k]? = some y0 := ⟨_, List.getElem?_eq_getElem hky⟩
  obtain ⟨yb1, yb2⟩ := HM.out.years y0 (List.mem_of_getElem? hy0)
  obtain ⟨gy, rfl⟩ := own_addr HC3.out.oy (by omega)
  have HCY := Lib.hid (fun (W : World) (h : LC w w.heap.size w2.heap.size d ys fs (.slice Ae d.eras.length ce) (.slice An d.notes.length cn) (.slice (some ⟨gy, 0, none⟩) ys.length cy) (.slice Af fs.length cf) W) => (show W.cell? ⟨gy, k, none⟩ = some (.int .i64 y0) by
    rw [h.oy.cellAt k (by omega)]
    simp [intCells, hy0]))
  clear hny hy0
  go_wp2_with fail
  refine wp_region_v [(fun j => j == 1 || j == 4 || j == 7 || j == 8 || j == 9 || j == 10 || j == 11, fun W => W.cell? ⟨w2.heap.size + 1, 0, none⟩ = some (.slice (some ⟨gy, 0, none⟩) ys.length cy)), (fun j => j == 4 || j == 7 || j == 8 || j == 9 || j == 10 || j == 11, fun W => W.cell? ⟨gy, k, none⟩ = some (.int .i64 y0))] (by kernel_rfl) ?_
  refine wpAnyV_world (fun W => LC w w.heap.size w2.heap.size d ys fs (.slice Ae d.eras.length ce) (.slice An d.notes.length cn) (.slice (some ⟨gy, 0, none⟩) ys.length cy) (.slice Af fs.length cf) W) HC3.out.drew (fun V hV => ?_)
  have HV := Lib.hid hV
  clear hV
  refine wpAnyV_free (i := 0) (v := ?_) (by simp only [List.getElem?_toArray, List.getElem?_cons_zero]; rfl) (by kernel_rfl) (by kernel_rfl) (by kernel_rfl) (by kernel_rfl) (by exact fun _ _ _ h => h) (Or.inl ⟨by rfl, ?hya2⟩) (behind_cons (fun h => by simp at h) (behind_cons (fun h => by simp at h) (fun p hp => by cases hp))) ?resta2
  case hya2 => (intro W' _; go_simp; try with_reducible rfl)
  try simp only [Act.put, List.setIfInBounds_toArray, List.set_cons_zero, List.set_cons_succ]
  refine wpAnyV_free (i := 2) (v := ?_) (by simp only [List.getElem?_toArray, List.getElem?_cons_zero, List.getElem?_cons_succ]; rfl) (by kernel_rfl) (by kernel_rfl) (by kernel_rfl) (by kernel_rfl) (by exact fun _ _ _ h => h) (Or.inl ⟨by rfl, ?hya3⟩) (behind_cons (fun h => by simp at h) (behind_cons (fun h => by simp at h) (fun p hp => by cases hp))) ?resta3
  case hya3 => (intro W' _; go_simp; try with_reducible rfl)
  try simp only [Act.put, List.setIfInBounds_toArray, List.set_cons_zero, List.set_cons_succ]
  refine wpAnyV_free (i := 5) (v := ?_) (by simp only [List.getElem?_toArray, List.getElem?_cons_zero, List.getElem?_cons_succ]; rfl) (by kernel_rfl) (by kernel_rfl) (by kernel_rfl) (by kernel_rfl) (by exact fun _ _ _ h => h) (Or.inl ⟨by rfl, ?hya4⟩) (behind_cons (fun h => by simp at h) (behind_cons (fun h => by simp at h) (fun p hp => by cases hp))) ?resta4
  case hya4 => (intro W' _; go_simp; try with_reducible rfl)
  try simp only [Act.put, List.setIfInBounds_toArray, List.set_cons_zero, List.set_cons_succ]
  refine wpAnyV_free (i := 6) (v := ?_) (by simp only [List.getElem?_toArray, List.getElem?_cons_zero, List.getElem?_cons_succ]; rfl) (by kernel_rfl) (by kernel_rfl) (by kernel_rfl) (by kernel_rfl) (by exact fun _ _ _ h => h) (Or.inl ⟨by rfl, ?hya5⟩) (behind_cons (fun h => by simp at h) (behind_cons (fun h => by simp at h) (fun p hp => by cases hp))) ?resta5
  case hya5 => (intro W' _; go_simp; try with_reducible rfl)
  try simp only [Act.put, List.setIfInBounds_toArray, List.set_cons_zero, List.set_cons_succ]
  refine wpAnyV_take (i := 1) (m := 0) (v := ?_) (by simp only [List.getElem?_toArray, List.getElem?_cons_zero, List.getElem?_cons_succ]; rfl) (by rfl) (by kernel_rfl) (by kernel_rfl) (by kernel_rfl) (by kernel_rfl) (by exact fun _ _ _ h => h) (Or.inl ⟨by rfl, ?hya6⟩) (HV.out.kw.cell 0) (behind_cons (fun _ => (HV.out.kw.cell 0)) (behind_cons (fun h => by simp at h) (fun p hp => by cases hp))) ?resta6
  case hya6 => (intro W' hSW; go_simp; try with_reducible rfl)
  try simp only [Act.put, List.setIfInBounds_toArray, List.set_cons_zero, List.set_cons_succ]
  refine wpAnyV_free (i := 3) (v := ?_) (by simp only [List.getElem?_toArray, List.getElem?_cons_zero, List.getElem?_cons_succ]; rfl) (by kernel_rfl) (by kernel_rfl) (by kernel_rfl) (by kernel_rfl) (by exact fun _ _ _ h => h) (Or.inl ⟨by rfl, ?hya7⟩) (behind_cons (fun h => by simp at h) (behind_cons (fun h => by simp at h) (fun p hp => by cases hp))) ?resta7
  case hya7 => (intro W' _; go_simp; try with_reducible rfl)
  try simp only [Act.put, List.setIfInBounds_toArray, List.set_cons_zero, List.set_cons_succ]
  refine wpAnyV_take (i := 4) (m := 1) (v := ?_) (by simp only [List.getElem?_toArray, List.getElem?_cons_zero, List.getElem?_cons_succ]; rfl) (by rfl) (by kernel_rfl) (by kernel_rfl) (by kernel_rfl) (by kernel_rfl) (by exact fun _ _ _ h => h) (Or.inl ⟨by rfl, ?hya8⟩) (HCY.out _ HV.out) (behind_cons (fun _ => (HV.out.kw.cell 0)) (behind_cons (fun _ => (HCY.out _ HV.out)) (fun p hp => by cases hp))) ?resta8
  case hya8 => (intro W' hSW; go_simp; try with_reducible rfl)
  try simp only [Act.put, List.setIfInBounds_toArray, List.set_cons_zero, List.set_cons_succ]
  refine wpAnyV_ready (rs := [7]) (by kernel_rfl) (by simp) ?_
  refine AllReadyV.cons (by simp only [List.getElem?_toArray, List.getElem?_cons_zero, List.getElem?_cons_succ]; rfl) (fun K hK => ?_) AllReadyV.nil
  go_simp
  go_at_call 15
  refine (from_any _ _ _ _ (by omega) (by omega) (by omega) (by omega) HV.out.urn).mono ?_
  rintro e w501 ⟨r, rfl, hr1, hr2, hu, hk⟩
  have HC501 := Lib.hid (HV.out.calls hu hk)
  clear hu hk
  refine hK.out _ _ (behind_cons (fun _ => (HC501.out.kw.cell 0)) (behind_cons (fun _ => (HCY.out _ HC501.out)) (fun p hp => by cases hp))) ?_
  clear hK K
  try simp only [Act.put, List.setIfInBounds_toArray, List.set_cons_zero, List.set_cons_succ]
  refine wpAnyV_ready (rs := [8]) (by kernel_rfl) (by simp) ?_
  refine AllReadyV.cons (by simp only [List.getElem?_toArray, List.getElem?_cons_zero, List.getElem?_cons_succ]; rfl) (fun K hK => ?_) AllReadyV.nil
  go_simp
  have hbn := Blok.new w501 3 [.int .i64 0, .int .i64 r]
  try rw [World.size_alloc] at hbn
  have HN502 := Lib.hid hbn
  clear hbn
  have HC502 := Lib.hid (HC501.out.alloc (.cells #[.int .i64 0, .int .i64 r] 3))
  refine hK.out _ _ (behind_cons (fun _ => (HC502.out.kw.cell 0)) (behind_cons (fun _ => (HCY.out _ HC502.out)) (fun p hp => by cases hp))) ?_
  clear hK K
  try simp only [Act.put, List.setIfInBounds_toArray, List.set_cons_zero, List.set_cons_succ]
  refine wpAnyV_ready (rs := [9]) (by kernel_rfl) (by simp) ?_
  refine AllReadyV.cons (by simp only [List.getElem?_toArray, List.getElem?_cons_zero, List.getElem?_cons_succ]; rfl) (fun K hK => ?_) AllReadyV.nil
  go_simp
  go_at_call 11
  refine (any_any _ _ 2 2 3 [0, r] _ rfl (by simp) (by simp) HN502.out (HC502.out.urn.ne HN502.out (by decide)) HC502.out.urn).mono ?_
  rintro e w503 ⟨z, rfl, hz, hu, hk⟩
  have HC503 := Lib.hid (HC502.out.calls hu hk)
  clear hu hk
  have hzb : -6 ≤ z ∧ z ≤ 6 := by simp at hz; omega
  obtain ⟨z1, z2⟩ := hzb
  have q5 : IntKind.i64.wrap (y0 + z) = y0 + z := IntWalk.i64_in _ (by omega)
  clear hz hr1 hr2
  refine hK.out _ _ (behind_cons (fun _ => (HC503.out.kw.cell 0)) (behind_cons (fun _ => (HCY.out _ HC503.out)) (fun p hp => by cases hp))) ?_
  clear hK K
  try simp only [Act.put, List.setIfInBounds_toArray, List.set_cons_zero, List.set_cons_succ]
  refine wpAnyV_free (i := 10) (v := ?_) (by simp only [List.getElem?_toArray, List.getElem?_cons_zero, List.getElem?_cons_succ]; rfl) (by kernel_rfl) (by kernel_rfl) (by kernel_rfl) (by kernel_rfl) (by exact fun _ _ _ h => h) (Or.inl ⟨by rfl, ?hya12⟩) (behind_cons (fun _ => (HC503.out.kw.cell 0)) (behind_cons (fun _ => (HCY.out _ HC503.out)) (fun p hp => by cases hp))) ?resta12
  case hya12 => (intro W' _; go_simp; try with_reducible rfl)
  try simp only [Act.put, List.setIfInBounds_toArray, List.set_cons_zero, List.set_cons_succ]
  refine wpAnyV_free (i := 11) (v := ?_) (by simp only [List.getElem?_toArray, List.getElem?_cons_zero, List.getElem?_cons_succ]; rfl) (by kernel_rfl) (by kernel_rfl) (by kernel_rfl) (by kernel_rfl) (by exact fun _ _ _ h => h) (Or.inl ⟨by rfl, ?hya13⟩) (behind_cons (fun _ => (HC503.out.kw.cell 0)) (behind_cons (fun _ => (HCY.out _ HC503.out)) (fun p hp => by cases hp))) ?resta13
  case hya13 => (intro W' _; go_simp; try with_reducible rfl)
  try simp only [Act.put, List.setIfInBounds_toArray, List.set_cons_zero, List.set_cons_succ]
  refine wpAnyV_done (by kernel_rfl) ?_ _
  obtain ⟨w5, rfl⟩ : ∃ w5 : World, w5 = w503 := ⟨_, rfl⟩
  have HC5 := HC503

  have d0 := HC5.out.kd.cell 0
  have d1 := HC5.out.kd.cell 1
  have d2 := HC5.out.kd.cell 2
  simp at d0 d1 d2
  go_wp2_with fail
  refine (copyDating_any d HM.out.ok _ _ _ HC5.out.dat).mono ?_
  rintro e w6 ⟨vx, rfl, hX, hb6⟩
  obtain ⟨Ae', ce', An', cn', rfl⟩ := hX.slices
  have HC6 := Lib.hid (HC5.out.to hb6)
  obtain ⟨ve', vn', hv', hX1, xs, hxm, hX3, hX4⟩ := hX
  injection hv' with hv'
  simp at hv'
  obtain ⟨rfl, rfl⟩ := hv'
  have HX1 := Lib.hid hX1
  have HX3 := Lib.hid hX3
  have HX4 := Lib.hid hX4
  have HXM := Lib.hid hxm
  have hn7 := HM.out.notes
  obtain ⟨y, hy⟩ : ∃ y, y = y0 + z := ⟨_, rfl⟩
  rw [← hy]
  have y1 : -3000 ≤ y := by omega
  have y2 : y ≤ 3000 := by omega
  have z6 : w2.heap.size < w6.heap.size := by have := HC6.out.kd.size; omega
  have h56 := hb6.size
  have HB56 := Lib.hid hb6
  clear hX1 hX3 hX4 hxm hb6 d0 d1 d2 q5 hy
  have hal : Below w6.heap.size w6 (((w6.alloc (.cells #[.int .i64 d.stones, .slice Ae' d.eras.length ce', .slice An' d.notes.length cn'] 28)).alloc (.cells #[.int .i64 y] 3)).alloc (.cells #[.int .i64 1, .int .i64 k, .int .i64 0, .slice (some ⟨w6.heap.size + 1, 0, none⟩) 1 1, .int .i64 0, .int .i64 0] 51)) := (((Below.refl _ w6).alloc (Nat.le_refl _) _).alloc (by simp) _).alloc (by simp; omega) _
  have HO6 := Lib.hid (own_fx HX3.out (Fx.of_all hal) (fun _ _ _ _ => trivial))
  have bn6 := Blok.new ((w6.alloc (.cells #[.int .i64 d.stones, .slice Ae' d.eras.length ce', .slice An' d.notes.length cn'] 28)).alloc (.cells #[.int .i64 y] 3)) 51 [.int .i64 1, .int .i64 k, .int .i64 0, .slice (some ⟨w6.heap.size + 1, 0, none⟩) 1 1, .int .i64 0, .int .i64 0]
  have by6 := (Blok.new (w6.alloc (.cells #[.int .i64 d.stones, .slice Ae' d.eras.length ce', .slice An' d.notes.length cn'] 28)) 3 [.int .i64 y]).alloc (.cells #[.int .i64 1, .int .i64 k, .int .i64 0, .slice (some ⟨w6.heap.size + 1, 0, none⟩) 1 1, .int .i64 0, .int .i64 0] 51)
  have bd6 := ((Blok.new w6 28 [.int .i64 d.stones, .slice Ae' d.eras.length ce', .slice An' d.notes.length cn']).alloc (.cells #[.int .i64 y] 3)).alloc (.cells #[.int .i64 1, .int .i64 k, .int .i64 0, .slice (some ⟨w6.heap.size + 1, 0, none⟩) 1 1, .int .i64 0, .int .i64 0] 51)
  simp only [World.size_alloc] at bn6 by6
  have HBN := Lib.hid bn6
  have HBY := Lib.hid by6
  have HBD := Lib.hid bd6
  have HAL := Lib.hid hal
  clear bn6 by6 bd6 hal
  go_upto_region 7 with (at_builtin; refine wpList_append_lies _ rfl _ _ 26 rfl w5.heap.size 51 kI _ 6 64 Try.underlying26 HQ.out HQ0.out HQ1.out HQ2.out rfl (by decide) (.slice An' d.notes.length cn') d.notes.length (cellsN xs) (by rfl) HO6.out ⟨w6.heap.size + 1 + 1, 0, none⟩ 1 1 [.int .i64 1, .int .i64 k, .int .i64 0, .slice (some ⟨w6.heap.size + 1, 0, none⟩) 1 1, .int .i64 0, .int .i64 0] (by rfl) (by rfl) (World.news_of_block HBN.out) (by simp [Value.oneCell']) (by omega) (by unfold maxLen; omega) (by omega) (by simp; omega) _ rfl ?_; intro g8 c8 w8 hown8 hgrow8 hat8 hlt8; have hk8 := HBD.out.grown hgrow8 (own_ne HO6.out HBD.out (by decide)); have q8 : w8.cell? ⟨w6.heap.size, 2, none⟩ = some (.slice An' d.notes.length cn') := hk8.cell 2; have f8 := hk8.free 2; have HO8 := Lib.hid hown8; have HG8 := Lib.hid hgrow8; have HK8 := Lib.hid hk8; clear hown8 hgrow8 hat8 hk8)
  obtain ⟨U, hU⟩ : ∃ U, U = w8.setCell ⟨w6.heap.size, 2, none⟩ (.slice (some ⟨g8, 0, none⟩) (d.notes.length + 1) c8) := ⟨_, rfl⟩
  have hbU : Below w5.heap.size w5 U := by
    rw [hU]
    exact ((HB56.out.trans (HAL.out.mono h56)).grown HG8.out (by have := HAL.out.size; omega) (fun j hj => (HO6.out.lt j hj).1)).setCell (p := ⟨w6.heap.size, 2, none⟩) h56 _
  have HCU := Lib.hid (HC5.out.to hbU)
  have HKU : Hid (Blok U w6.heap.size 28 [.int .i64 d.stones, .slice Ae' d.eras.length ce', .slice (some ⟨g8, 0, none⟩) (d.notes.length + 1) c8]) := Lib.hid (by rw [hU]; exact HK8.out.put 2 _)
  have hxU : DatO U w5.heap.size (.agg #[.int .i64 d.stones, .slice Ae' d.eras.length ce', .slice (some ⟨g8, 0, none⟩) (d.notes.length + 1) c8]) (d.plus (yearN k y)) := by
    have far : ∀ {base size n : Nat} {e : TypeId} {u : Value} {cs : List Value}, e ≠ 51 → e ≠ 28 → w6.ownsRow base e size u n cs → U.ownsRow base e size u n cs := fun h1 h2 ho => by
      rw [hU]
      have ha := own_fx ho (Fx.of_all HAL.out) (fun _ _ _ _ => trivial)
      have ho' := own_fx ha (Fx.of_grown HG8.out) (fun b _ _ hb => own_disj ha HO6.out h1 b hb)
      exact own_far ho' (own_ne ho' HK8.out h2) _
    refine ⟨_, _, rfl, far (by decide) (by decide) HX1.out, xs ++ [(yearN k y, .slice (some ⟨w6.heap.size + 1, 0, none⟩) 1 1)], ?_, ?_, fun p hp => ?_⟩
    · rw [List.map_append, HXM.out]
      rfl
    · have ho := own_far HO8.out (p := ⟨w6.heap.size, 2, none⟩) (own_ne HO8.out HK8.out (by decide)) (.slice (some ⟨g8, 0, none⟩) (d.notes.length + 1) c8)
      rw [← hU] at ho
      rw [cellsN_snoc]
      simpa [Dat.plus, ntL, yearN] using ho
    · rcases List.mem_append.1 hp with hp | hp
      · exact far (by decide) (by decide) (HX4.out p hp)
      · rw [List.mem_singleton.1 hp]
        have hb := HBY.out.grown HG8.out (own_ne HO6.out HBY.out (by decide))
        have hb2 : Blok U (w6.heap.size + 1) 3 [.int .i64 y] := by rw [hU]; exact hb.far (by simp) _
        exact own_of_blok hb2 (by omega) rfl (by decide)
  have HXU := Lib.hid hxU
  rw [← hU]
  clear hU hbU hxU HO8 HG8 HK8 HO6 HBN HBY HBD HAL HX1 HX3 HX4 HXM HB56 HC5 q8 f8
  have hd := HM.out.ok
  have hmay : d.may := ⟨_, HM.out.is⟩
  have hxok : (d.plus (yearN k y)).Ok := plus_ok hd (yearN_ok hks y1 y2) (by omega)
  have HT := Lib.hid (told hd hmay hks hxok)
  have hyes := (may_iff hd).1 hmay
  have HCUT := Lib.hid (cut_yes d hd hyes k hks y (outB_no (by omega) (by omega)))
  have HYD := Lib.hid (years_yes d hd hyes)
  have HXOK := Lib.hid hxok
  have d0 := HCU.out.kd.cell 0
  have d1 := HCU.out.kd.cell 1
  have d2 := HCU.out.kd.cell 2
  simp at d0 d1 d2
  clear hd hmay hxok hyes
  go_wp2_with fail
  obtain ⟨cv, hcv⟩ : ∃ cv, cv = d.cutV (1 + k) y := ⟨_, rfl⟩
  have hct := HCUT.out _ _ U (Nat.le_refl _) HCU.out.dat.dat
  rw [← hcv] at hct
  refine hct.mono ?_
  clear hct
  rintro e w9 ⟨rfl, hb9⟩
  have HC9 := Lib.hid (HCU.out.to hb9)
  have HK9 := Lib.hid (HKU.out.below hb9 HKU.out.size)
  have HX9 := Lib.hid (HXU.out.below hb9)
  clear d0 d1 d2 hb9 HCU HKU HXU
  have d0 := HC9.out.kd.cell 0
  have d1 := HC9.out.kd.cell 1
  have d2 := HC9.out.kd.cell 2
  simp at d0 d1 d2
  have HCV := Lib.hid hcv
  clear hcv
  go_wp2_with fail
  refine (HYD.out _ _ w9 (Nat.le_refl _) HC9.out.dat.dat).mono ?_
  rintro e w10 ⟨va, rfl, ha, hb10⟩
  have hlen : ∀ (d : Dat) (n : Nat), (spanList d 1 n).length = n := fun d n => by simp [spanList]
  rw [hlen] at ha
  obtain ⟨Aa, ca, rfl⟩ := own_slice ha
  obtain ⟨ga, rfl⟩ := own_addr ha (by omega)
  have HA10 := Lib.hid ha
  have HC10 := Lib.hid (HC9.out.to hb10)
  have HK10 := Lib.hid (HK9.out.below hb10 HK9.out.size)
  have HX10 := Lib.hid (HX9.out.below hb10)
  clear d0 d1 d2 hb10 HC9 HK9 HX9 ha
  have HLEN := Lib.hid hlen
  clear hlen
  have e0 := HK10.out.cell 0
  have e1 := HK10.out.cell 1
  have e2 := HK10.out.cell 2
  simp at e0 e1 e2
  go_wp2_with fail
  by_cases hxa : (d.plus (yearN k y)).all = []
  · obtain rfl : cv = 2 := HCV.out.trans (HT.out.none.1 hxa)
    refine (years_no _ HXOK.out hxa _ _ w10 (Nat.le_refl _) HX10.out.dat).mono ?_
    rintro e w11 ⟨rfl, hb11⟩
    have HC11 := Lib.hid (HC10.out.to hb11)
    clear e0 e1 e2 hb11
    have d0 := HC11.out.kd.cell 0
    simp at d0
    go_wp2_with (go_at_call 20; refine (timely_any _).mono ?_; rintro e w12 ⟨rfl, hb12⟩; have HB12 := Lib.hid (HC11.out.below.trans (hb12.mono HC11.out.below.size)); clear hb12)
    go_ret
    exact ⟨rfl, HB12.out⟩
  · refine (years_yes _ HXOK.out hxa _ _ w10 (Nat.le_refl _) HX10.out.dat).mono ?_
    rintro e w11 ⟨vb, rfl, hb, hb11⟩
    rw [HLEN.out] at hb
    simp only [Dat.plus] at hb
    obtain ⟨Ab, cb, rfl⟩ := own_slice hb
    obtain ⟨gb, rfl⟩ := own_addr hb (by omega)
    have ha := own_fx HA10.out (Fx.of_all hb11) (fun _ _ _ _ => trivial)
    have hsp : ∀ (d' : Dat), (spanList d' 1 d.stones)[k]? = some (d'.span (1 + k)) := fun d' => by simp [spanList, hks]
    have hbs : (Dat.plus d (yearN k y)).span (1 + k) = (y, y) := HT.out.some hxa
    obtain ⟨p, q, hpq⟩ : ∃ p q, d.span (1 + k) = (p, q) := ⟨_, _, rfl⟩
    obtain ⟨u1, u2⟩ := flatS_at (spanList d 1 d.stones) k _ (hsp d)
    obtain ⟨v1, v2⟩ := flatS_at (spanList (Dat.plus d (yearN k y)) 1 d.stones) k _ (hsp _)
    rw [hpq] at u1 u2
    rw [hbs] at v1 v2
    have a1 := ha.cellAt (k * 2) (by omega)
    have a2 := ha.cellAt (k * 2 + 1) (by omega)
    have b1 := hb.cellAt (k * 2) (by omega)
    have b2 := hb.cellAt (k * 2 + 1) (by omega)
    simp only [Dat.plus] at v1 v2
    rw [u1] at a1
    rw [u2] at a2
    rw [v1] at b1
    rw [v2] at b2
    simp only at a1 a2 b1 b2
    have HC11 := Lib.hid (HC10.out.to hb11)
    have hsure : cv = 1 ↔ p = y ∧ q = y := by
      rw [HCV.out, HT.out.sure, hpq, Prod.ext_iff]
    have hcv2 : cv ≠ 2 := fun e => hxa (HT.out.none.2 (HCV.out.symm.trans e))
    have hcv3 : cv = 1 ∨ cv = 3 := by
      have := HT.out.rest
      rw [← HCV.out] at this
      omega
    have HSU := Lib.hid hsure
    have d0 := HC11.out.kd.cell 0
    simp at d0
    clear e0 e1 e2 hb11 u1 u2 v1 v2 ha hb hbs hpq hsp hsure hcv2 hxa HLEN HK10 HX10 HA10
    rcases hcv3 with rfl | rfl
    · obtain ⟨rfl, rfl⟩ := HSU.out.1 rfl
      have la := World.block_lt_of_cell? w11 _ a1
      have lb := World.block_lt_of_cell? w11 _ b1
      simp only at la lb
      have ld := HC11.out.kd.size
      go_wp2_with fail
      go_region_held3 (fun W' => W'.cell? ⟨gb, k * 2, none⟩ = some (.int .i64 q) ∧ W'.cell? ⟨gb, k * 2 + 1, none⟩ = some (.int .i64 q) ∧ W'.cell? ⟨w2.heap.size, 0, none⟩ = some (.int .i64 d.stones))
        (first
          | go_keep
          | (go_split_ands; exact ⟨bcell HB12.out lb b1, bcell HB12.out lb b2, bcell HB12.out ld d0⟩))
        ((go_at_call 23; (with_reducible refine (to_any q q _).mono ?_); rintro e w12 ⟨rfl, hb12⟩; have HB12 := Lib.hid (show Below w11.heap.size w11 w12 from ⟨hb12.os, hb12.tape, hb12.output, hb12.size, hb12.block⟩); clear hb12))
      have a1' := bcell HB12.out la a1
      have a2' := bcell HB12.out la a2
      have b1' := bcell HB12.out lb b1
      have b2' := bcell HB12.out lb b2
      have HC12 := Lib.hid (HC11.out.to HB12.out)
      have za := Nat.lt_of_lt_of_le la HB12.out.size
      have zb := Nat.lt_of_lt_of_le lb HB12.out.size
      clear a1 a2 b1 b2 d0
      go_wp2_with fail
      go_region_held3 (fun W' => W'.cell? ⟨ga, k * 2, none⟩ = some (.int .i64 q) ∧ W'.cell? ⟨ga, k * 2 + 1, none⟩ = some (.int .i64 q) ∧ W'.cell? ⟨gb, k * 2, none⟩ = some (.int .i64 q) ∧ W'.cell? ⟨gb, k * 2 + 1, none⟩ = some (.int .i64 q))
        (first
          | go_keep
          | (go_split_ands; exact ⟨bcell HB13.out za a1', bcell HB13.out za a2', bcell HB13.out zb b1', bcell HB13.out zb b2'⟩))
        ((go_at_call 20; refine (timely_any _).mono ?_; rintro e w13 ⟨rfl, hb13⟩; have HB13 := Lib.hid (show Below w12.heap.size w12 w13 from ⟨hb13.os, hb13.tape, hb13.output, hb13.size, hb13.block⟩); clear hb13))
      go_wp2_with fail
      go_ret
      exact ⟨rfl, HC12.out.below.trans (HB13.out.mono HC12.out.below.size)⟩
    · have hne : ¬ (p = y ∧ q = y) := fun e => absurd (HSU.out.2 e) (by decide)
      by_cases hp : p = y
      · subst hp
        have hq : ¬ q = p := fun e => hne ⟨rfl, e⟩
        clear hne
        have la := World.block_lt_of_cell? w11 _ a1
        have lb := World.block_lt_of_cell? w11 _ b1
        simp only at la lb
        have ld := HC11.out.kd.size
        go_wp2_with fail
        go_region_held3 (fun W' => W'.cell? ⟨gb, k * 2, none⟩ = some (.int .i64 p) ∧ W'.cell? ⟨gb, k * 2 + 1, none⟩ = some (.int .i64 p) ∧ W'.cell? ⟨w2.heap.size, 0, none⟩ = some (.int .i64 d.stones))
          (first
            | go_keep
            | (go_split_ands; exact ⟨bcell HB12.out lb b1, bcell HB12.out lb b2, bcell HB12.out ld d0⟩))
          ((go_at_call 23; (with_reducible refine (to_any p p _).mono ?_); rintro e w12 ⟨rfl, hb12⟩; have HB12 := Lib.hid (show Below w11.heap.size w11 w12 from ⟨hb12.os, hb12.tape, hb12.output, hb12.size, hb12.block⟩); clear hb12))
        have a1' := bcell HB12.out la a1
        have a2' := bcell HB12.out la a2
        have b1' := bcell HB12.out lb b1
        have b2' := bcell HB12.out lb b2
        have HC12 := Lib.hid (HC11.out.to HB12.out)
        have za := Nat.lt_of_lt_of_le la HB12.out.size
        have zb := Nat.lt_of_lt_of_le lb HB12.out.size
        clear a1 a2 b1 b2 d0
        go_wp2_with fail
        go_region_held3 (fun W' => W'.cell? ⟨ga, k * 2, none⟩ = some (.int .i64 p) ∧ W'.cell? ⟨ga, k * 2 + 1, none⟩ = some (.int .i64 q) ∧ W'.cell? ⟨gb, k * 2, none⟩ = some (.int .i64 p) ∧ W'.cell? ⟨gb, k * 2 + 1, none⟩ = some (.int .i64 p))
          (first
            | go_keep
            | (go_split_ands; exact ⟨bcell HB13.out za a1', bcell HB13.out za a2', bcell HB13.out zb b1', bcell HB13.out zb b2'⟩))
          ((go_at_call 20; refine (timely_any _).mono ?_; rintro e w13 ⟨rfl, hb13⟩; have HB13 := Lib.hid (show Below w12.heap.size w12 w13 from ⟨hb13.os, hb13.tape, hb13.output, hb13.size, hb13.block⟩); clear hb13))
        go_wp2_with fail
        go_ret
        exact ⟨rfl, HC12.out.below.trans (HB13.out.mono HC12.out.below.size)⟩
      · clear hne
        have la := World.block_lt_of_cell? w11 _ a1
        have lb := World.block_lt_of_cell? w11 _ b1
        simp only at la lb
        have ld := HC11.out.kd.size
        go_wp2_with fail
        go_region_held3 (fun W' => W'.cell? ⟨gb, k * 2, none⟩ = some (.int .i64 y) ∧ W'.cell? ⟨gb, k * 2 + 1, none⟩ = some (.int .i64 y) ∧ W'.cell? ⟨w2.heap.size, 0, none⟩ = some (.int .i64 d.stones))
          (first
            | go_keep
            | (go_split_ands; exact ⟨bcell HB12.out lb b1, bcell HB12.out lb b2, bcell HB12.out ld d0⟩))
          ((go_at_call 23; (with_reducible refine (to_any y y _).mono ?_); rintro e w12 ⟨rfl, hb12⟩; have HB12 := Lib.hid (show Below w11.heap.size w11 w12 from ⟨hb12.os, hb12.tape, hb12.output, hb12.size, hb12.block⟩); clear hb12))
        have a1' := bcell HB12.out la a1
        have a2' := bcell HB12.out la a2
        have b1' := bcell HB12.out lb b1
        have b2' := bcell HB12.out lb b2
        have HC12 := Lib.hid (HC11.out.to HB12.out)
        have za := Nat.lt_of_lt_of_le la HB12.out.size
        have zb := Nat.lt_of_lt_of_le lb HB12.out.size
        clear a1 a2 b1 b2 d0
        go_wp2_with fail
        go_region_held3 (fun W' => W'.cell? ⟨ga, k * 2, none⟩ = some (.int .i64 p) ∧ W'.cell? ⟨ga, k * 2 + 1, none⟩ = some (.int .i64 q) ∧ W'.cell? ⟨gb, k * 2, none⟩ = some (.int .i64 y) ∧ W'.cell? ⟨gb, k * 2 + 1, none⟩ = some (.int .i64 y))
          (first
            | go_keep
            | (go_split_ands; exact ⟨bcell HB13.out za a1', bcell HB13.out za a2', bcell HB13.out zb b1', bcell HB13.out zb b2'⟩))
          ((go_at_call 20; refine (timely_any _).mono ?_; rintro e w13 ⟨rfl, hb13⟩; have HB13 := Lib.hid (show Below w12.heap.size w12 w13 from ⟨hb13.os, hb13.tape, hb13.output, hb13.size, hb13.block⟩); clear hb13))
        go_wp2_with fail
        go_ret
        exact ⟨rfl, HC12.out.below.trans (HB13.out.mono HC12.out.below.size)⟩
end Go.Proofs.Ytcbdcdpoackplaa
