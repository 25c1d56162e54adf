/- DateTrue, walked. -/
import Derived.Test.YtcbdcdpoackplaaGd
namespace Go.Proofs.Ytcbdcdpoackplaa
open Go.RowKit Dt

set_option maxRecDepth 100000 in
set_option maxHeartbeats 8000000 in
theorem true_walk (a0 : Option Addr) (len cap : Nat) (w : World) (hr : NumRow w a0 len) :
    Calls Try.prog 3 #[.slice a0 len cap] w fun e w' => e = .returned (.bool true) ∧ Below w.heap.size w w' := by
  go_enter Try.func3, Try.ntmps3
  go_wp2_with fail
  refine (newUrn_any a0 len cap _ hr).mono ?_
  rintro e w0 ⟨rfl, hu1, hb1⟩
  have HU0 := Lib.hid hu1
  have HB0 := Lib.hid hb1
  have hg0 := hu1.size
  clear hu1 hb1 hr
  go_wp2_with fail
  refine (any_any w.heap.size w0.heap.size 2 2 3 [3, 30] _ rfl (by simp) (by simp) (Blok.new w0 _ _) (by omega) (HU0.out.alloc _)).mono ?_
  rintro e w1 ⟨far, rfl, hfar, hu1, hk1⟩
  have hfb : 3 ≤ far ∧ far ≤ 30 := by simp at hfar; omega
  obtain ⟨f3, f30⟩ := hfb
  have HU1 := Lib.hid hu1
  have HB1 := Lib.hid (HB0.out.trans ((((Kg.refl w.heap.size w0).alloc _).trans hk1).below HB0.out.size (Nat.le_refl _)))
  clear hu1 hk1 hfar HU0 HB0
  go_wp2_with fail
  refine (datingOf_any w.heap.size 6 7 far w1 (by omega) (by omega) (by omega) (by omega) (by omega) HU1.out).mono ?_
  rintro e w2 ⟨d, ys, fs, vd, vy, vf, rfl, hm, hD, hY, hF, hu2, hk2⟩
  obtain ⟨Ae, ce, An, cn, rfl⟩ := hD.slices
  obtain ⟨Ay, cy, rfl⟩ := own_slice hY
  obtain ⟨Af, cf, rfl⟩ := own_slice hF
  have HC := Lib.hid (LC.start (smax := 0) HB1.out (Nat.le_refl _) hD hY hF hu2 hk2 rfl)
  have HM := Lib.hid hm
  have hd := hm.ok
  have HNY := Lib.hid hm.ny
  have HNF := Lib.hid hm.nf
  have hst := hd.stones
  have he2 := hm.eras
  have hyes := (may_iff hd).1 ⟨_, hm.is⟩
  have HYD := Lib.hid (years_yes d hd hyes)
  have HFD := Lib.hid (firsts_yes d hd hyes)
  have HYES := Lib.hid hyes
  have HD := Lib.hid hd
  obtain ⟨ns, hns⟩ : ∃ ns, ns = d.stones := ⟨_, rfl⟩
  obtain ⟨ne, hne⟩ : ∃ ne, ne = d.eras.length := ⟨_, rfl⟩
  have hlen : ∀ (p n : Nat), (spanList d p n).length = n := fun p n => by simp [spanList]
  have HLEN := Lib.hid hlen
  clear hD hY hF hu2 hk2 hm HU1 HB1 hd hyes hlen hns hne ns ne
  go_wp2_with fail
  refine (HYD.out _ _ _ (Nat.le_refl _) HC.out.dat.dat).mono ?_
  rintro e w3 ⟨va, rfl, ha, hb3⟩
  rw [HLEN.out] at ha
  obtain ⟨Aa, ca, rfl⟩ := own_slice ha
  obtain ⟨ga, rfl⟩ := own_addr ha (by omega)
  have HC3 := Lib.hid (HC.out.to hb3)
  have HA3 := Lib.hid (ha.mono HC.out.below.size)
  clear ha hb3 HC
  have d0 := HC3.out.kd.cell 0
  have d1 := HC3.out.kd.cell 1
  have d2 := HC3.out.kd.cell 2
  simp at d0 d1 d2
  go_wp2_with fail
  refine (HFD.out _ _ _ (Nat.le_refl _) HC3.out.dat.dat).mono ?_
  rintro e w4 ⟨vb, rfl, hb, hb4⟩
  rw [HLEN.out] at hb
  obtain ⟨Ab, cb, rfl⟩ := own_slice hb
  have HT := Lib.hid (show LT w w.heap.size w2.heap.size d ys fs (.slice Ae d.eras.length ce) (.slice An d.notes.length cn) (.slice Ay ys.length cy) (.slice Af fs.length cf) (.slice (some ⟨ga, 0, none⟩) d.stones ca) (.slice Ab d.eras.length cb) (spanList d 1 d.stones) (spanList d 7 d.eras.length) d.stones d.eras.length w4 from
    ⟨HC3.out.to hb4, own_fx HA3.out (Fx.of_all hb4) (fun _ _ _ _ => trivial), hb.mono HC3.out.below.size⟩)
  clear hb hb4 HC3 HA3 d0 d1 d2
  have d0 := HT.out.lc.kd.cell 0
  have d1 := HT.out.lc.kd.cell 1
  simp at d0 d1
  go_wp2_with fail
  clear d0 d1
  obtain ⟨gy, rfl⟩ := own_addr HT.out.lc.oy (by have := HNY.out; omega)
  go_loopg [10] d.eras.length (fun r i wr => ∃ k : Nat, i = .int .i64 (k : Nat) ∧ k + r = d.eras.length ∧ LT w w.heap.size w2.heap.size d ys fs (.slice Ae d.eras.length ce) (.slice An d.notes.length cn) (.slice (some ⟨gy, 0, none⟩) ys.length cy) (.slice Af fs.length cf) (.slice (some ⟨ga, 0, none⟩) d.stones ca) (.slice Ab d.eras.length cb) (spanList d 1 d.stones) (spanList d 7 d.eras.length) d.stones d.eras.length wr)
  case atStart => exact ⟨0, rfl, by omega, HT.out⟩
  case round =>
    clear HT
    obtain ⟨k, rfl, hkr, ht⟩ := hrel
    have HT := Lib.hid ht
    clear ht
    by_cases hlt : k < d.eras.length
    · obtain ⟨gb, rfl⟩ := own_addr HT.out.b (by omega)
      obtain ⟨gf, rfl⟩ := own_addr HT.out.lc.of (by have := HNF.out; omega)
      obtain ⟨f, hf⟩ : ∃ f, fs[k]? = some f := ⟨_, List.getElem?_eq_getElem (by rw [HNF.out]; exact hlt)⟩
      obtain ⟨p, hp⟩ : ∃ p, p = d.span (7 + k) := ⟨_, rfl⟩
      have hsp : (spanList d 7 d.eras.length)[k]? = some p := by rw [hp]; simp [spanList, hlt]
      obtain ⟨u1, u2⟩ := flatS_at _ k p hsp
      have b1 := HT.out.b.cellAt (k * 2) (by omega)
      have b2 := HT.out.b.cellAt (k * 2 + 1) (by omega)
      rw [u1] at b1
      rw [u2] at b2
      have hfl := HNF.out
      have cf0 : wr.cell? ⟨gf, k, none⟩ = some (.int .i64 f) := by
        rw [HT.out.lc.of.cellAt k (by omega)]
        simp [intCells, hf]
      have cw1 : wr.cell? ⟨w2.heap.size + 1, 1, none⟩ = some (.slice (some ⟨gf, 0, none⟩) fs.length cf) := HT.out.lc.kw.cell 1
      have hkf : k < fs.length := by omega
      have hh : hasB p.1 p.2 f = true := by rw [hp]; exact true_first HM.out k f hf
      have HHAS := Lib.hid (fun w => hasIn_any p.1 p.2 f w)
      rw [hh] at HHAS
      have lb := World.block_lt_of_cell? wr _ b1
      have lf := World.block_lt_of_cell? wr _ cf0
      have lw := HT.out.lc.kw.size
      simp only at lb lf
      clear hfl hf hp hsp u1 u2 hh
      go_wp2_with fail
      go_region_held3 (fun W' => W'.cell? ⟨gb, k * 2, none⟩ = some (.int .i64 p.1) ∧ W'.cell? ⟨gb, k * 2 + 1, none⟩ = some (.int .i64 p.2) ∧ W'.cell? ⟨w2.heap.size + 1, 1, none⟩ = some (.slice (some ⟨gf, 0, none⟩) fs.length cf) ∧ W'.cell? ⟨gf, k, none⟩ = some (.int .i64 f))
        (first
          | go_keep
          | (go_split_ands; exact ⟨bcell HB5.out lb b1, bcell HB5.out lb b2, bcell HB5.out lw cw1, bcell HB5.out lf cf0⟩))
        ((go_at_call 14; (with_reducible refine (HHAS.out _).mono ?_); rintro e w5 ⟨rfl, hb5⟩; have HB5 := Lib.hid (show Below wr.heap.size wr w5 from ⟨hb5.os, hb5.tape, hb5.output, hb5.size, hb5.block⟩); clear hb5))
      have HT5 := Lib.hid (HT.out.to HB5.out)
      clear b1 b2 cf0 cw1
      go_wp2_with fail
      go_roundg (gk - 1)
      case measure => omega
      case rel => exact ⟨k + 1, by go_num, by omega, HT5.out⟩
    · skip
      go_wp2_with fail
      go_loopg [11] d.stones (fun r i wr => ∃ k : Nat, i = .int .i64 (k : Nat) ∧ k + r = d.stones ∧ LT w w.heap.size w2.heap.size d ys fs (.slice Ae d.eras.length ce) (.slice An d.notes.length cn) (.slice (some ⟨gy, 0, none⟩) ys.length cy) (.slice Af fs.length cf) (.slice (some ⟨ga, 0, none⟩) d.stones ca) (.slice Ab d.eras.length cb) (spanList d 1 d.stones) (spanList d 7 d.eras.length) d.stones d.eras.length wr)
      case atStart => exact ⟨0, rfl, by omega, HT.out⟩
      case round =>
        clear HT
        obtain ⟨k, rfl, hkr, ht⟩ := hrel
        have HT := Lib.hid ht
        clear ht
        by_cases hlt : k < d.stones
        · have hky : k < ys.length := by have := HNY.out; omega
          obtain ⟨y, hy⟩ : ∃ y, ys[k]? = some y := ⟨_, List.getElem?_eq_getElem hky⟩
          obtain ⟨yb1, yb2⟩ := HM.out.years y (List.mem_of_getElem? hy)
          have HCY := Lib.hid (fun (W : World) (h : LT w w.heap.size w2.heap.size d ys fs (.slice Ae d.eras.length ce) (.slice An d.notes.length cn) (.slice (some ⟨gy, 0, none⟩) ys.length cy) (.slice Af fs.length cf) (.slice (some ⟨ga, 0, none⟩) d.stones ca) (.slice Ab d.eras.length cb) (spanList d 1 d.stones) (spanList d 7 d.eras.length) d.stones d.eras.length W) => (show W.cell? ⟨gy, k, none⟩ = some (.int .i64 y) by
            rw [h.lc.oy.cellAt k (by omega)]
            simp [intCells, hy]))
          have HYK := Lib.hid hy
          clear hy
          go_wp2_with fail
          refine wp_region_v [(fun j => j == 1 || j == 4 || j == 7 || j == 8 || j == 9 || j == 10 || j == 13 || j == 14 || j == 15 || j == 16, fun W => W.cell? ⟨w2.heap.size + 1, 0, none⟩ = some (.slice (some ⟨gy, 0, none⟩) ys.length cy)), (fun j => j == 4 || j == 7 || j == 8 || j == 9 || j == 10 || j == 13 || j == 14 || j == 15 || j == 16, fun W => W.cell? ⟨gy, k, none⟩ = some (.int .i64 y)), (fun j => j == 7 || j == 8 || j == 9 || j == 10 || j == 13 || j == 14 || j == 15 || j == 16, fun W => W.cell? ⟨w2.heap.size, 0, none⟩ = some (.int .i64 d.stones))] (by kernel_rfl) ?_
          refine wpAnyV_world (fun W => LT w w.heap.size w2.heap.size d ys fs (.slice Ae d.eras.length ce) (.slice An d.notes.length cn) (.slice (some ⟨gy, 0, none⟩) ys.length cy) (.slice Af fs.length cf) (.slice (some ⟨ga, 0, none⟩) d.stones ca) (.slice Ab d.eras.length cb) (spanList d 1 d.stones) (spanList d 7 d.eras.length) d.stones d.eras.length W) HT.out.drew (fun V hV => ?_)
          have HV := Lib.hid hV
          clear hV
          refine wpAnyV_free (i := 0) (v := ?_) (by simp only [List.getElem?_toArray, List.getElem?_cons_zero]; rfl) (by kernel_rfl) (by kernel_rfl) (by kernel_rfl) (by kernel_rfl) (by exact fun _ _ _ h => h) (Or.inl ⟨by rfl, ?hya2⟩) (behind_cons (fun h => by simp at h) (behind_cons (fun h => by simp at h) (behind_cons (fun h => by simp at h) (fun p hp => by cases hp)))) ?resta2
          case hya2 => (intro W' _; go_simp; try with_reducible rfl)
          try simp only [Act.put, List.setIfInBounds_toArray, List.set_cons_zero, List.set_cons_succ]
          refine wpAnyV_free (i := 2) (v := ?_) (by simp only [List.getElem?_toArray, List.getElem?_cons_zero, List.getElem?_cons_succ]; rfl) (by kernel_rfl) (by kernel_rfl) (by kernel_rfl) (by kernel_rfl) (by exact fun _ _ _ h => h) (Or.inl ⟨by rfl, ?hya3⟩) (behind_cons (fun h => by simp at h) (behind_cons (fun h => by simp at h) (behind_cons (fun h => by simp at h) (fun p hp => by cases hp)))) ?resta3
          case hya3 => (intro W' _; go_simp; try with_reducible rfl)
          try simp only [Act.put, List.setIfInBounds_toArray, List.set_cons_zero, List.set_cons_succ]
          refine wpAnyV_free (i := 5) (v := ?_) (by simp only [List.getElem?_toArray, List.getElem?_cons_zero, List.getElem?_cons_succ]; rfl) (by kernel_rfl) (by kernel_rfl) (by kernel_rfl) (by kernel_rfl) (by exact fun _ _ _ h => h) (Or.inl ⟨by rfl, ?hya4⟩) (behind_cons (fun h => by simp at h) (behind_cons (fun h => by simp at h) (behind_cons (fun h => by simp at h) (fun p hp => by cases hp)))) ?resta4
          case hya4 => (intro W' _; go_simp; try with_reducible rfl)
          try simp only [Act.put, List.setIfInBounds_toArray, List.set_cons_zero, List.set_cons_succ]
          refine wpAnyV_free (i := 6) (v := ?_) (by simp only [List.getElem?_toArray, List.getElem?_cons_zero, List.getElem?_cons_succ]; rfl) (by kernel_rfl) (by kernel_rfl) (by kernel_rfl) (by kernel_rfl) (by exact fun _ _ _ h => h) (Or.inl ⟨by rfl, ?hya5⟩) (behind_cons (fun h => by simp at h) (behind_cons (fun h => by simp at h) (behind_cons (fun h => by simp at h) (fun p hp => by cases hp)))) ?resta5
          case hya5 => (intro W' _; go_simp; try with_reducible rfl)
          try simp only [Act.put, List.setIfInBounds_toArray, List.set_cons_zero, List.set_cons_succ]
          refine wpAnyV_free (i := 11) (v := ?_) (by simp only [List.getElem?_toArray, List.getElem?_cons_zero, List.getElem?_cons_succ]; rfl) (by kernel_rfl) (by kernel_rfl) (by kernel_rfl) (by kernel_rfl) (by exact fun _ _ _ h => h) (Or.inl ⟨by rfl, ?hya6⟩) (behind_cons (fun h => by simp at h) (behind_cons (fun h => by simp at h) (behind_cons (fun h => by simp at h) (fun p hp => by cases hp)))) ?resta6
          case hya6 => (intro W' _; go_simp; try with_reducible rfl)
          try simp only [Act.put, List.setIfInBounds_toArray, List.set_cons_zero, List.set_cons_succ]
          refine wpAnyV_free (i := 12) (v := ?_) (by simp only [List.getElem?_toArray, List.getElem?_cons_zero, List.getElem?_cons_succ]; rfl) (by kernel_rfl) (by kernel_rfl) (by kernel_rfl) (by kernel_rfl) (by exact fun _ _ _ h => h) (Or.inl ⟨by rfl, ?hya7⟩) (behind_cons (fun h => by simp at h) (behind_cons (fun h => by simp at h) (behind_cons (fun h => by simp at h) (fun p hp => by cases hp)))) ?resta7
          case hya7 => (intro W' _; go_simp; try with_reducible rfl)
          try simp only [Act.put, List.setIfInBounds_toArray, List.set_cons_zero, List.set_cons_succ]
          refine wpAnyV_take (i := 1) (m := 0) (v := ?_) (by simp only [List.getElem?_toArray, List.getElem?_cons_zero, List.getElem?_cons_succ]; rfl) (by rfl) (by kernel_rfl) (by kernel_rfl) (by kernel_rfl) (by kernel_rfl) (by exact fun _ _ _ h => h) (Or.inl ⟨by rfl, ?hya8⟩) (HV.out.lc.kw.cell 0) (behind_cons (fun _ => (HV.out.lc.kw.cell 0)) (behind_cons (fun h => by simp at h) (behind_cons (fun h => by simp at h) (fun p hp => by cases hp)))) ?resta8
          case hya8 => (intro W' hSW; go_simp; try with_reducible rfl)
          try simp only [Act.put, List.setIfInBounds_toArray, List.set_cons_zero, List.set_cons_succ]
          refine wpAnyV_free (i := 3) (v := ?_) (by simp only [List.getElem?_toArray, List.getElem?_cons_zero, List.getElem?_cons_succ]; rfl) (by kernel_rfl) (by kernel_rfl) (by kernel_rfl) (by kernel_rfl) (by exact fun _ _ _ h => h) (Or.inl ⟨by rfl, ?hya9⟩) (behind_cons (fun h => by simp at h) (behind_cons (fun h => by simp at h) (behind_cons (fun h => by simp at h) (fun p hp => by cases hp)))) ?resta9
          case hya9 => (intro W' _; go_simp; try with_reducible rfl)
          try simp only [Act.put, List.setIfInBounds_toArray, List.set_cons_zero, List.set_cons_succ]
          refine wpAnyV_take (i := 4) (m := 1) (v := ?_) (by simp only [List.getElem?_toArray, List.getElem?_cons_zero, List.getElem?_cons_succ]; rfl) (by rfl) (by kernel_rfl) (by kernel_rfl) (by kernel_rfl) (by kernel_rfl) (by exact fun _ _ _ h => h) (Or.inl ⟨by rfl, ?hya10⟩) (HCY.out _ HV.out) (behind_cons (fun _ => (HV.out.lc.kw.cell 0)) (behind_cons (fun _ => (HCY.out _ HV.out)) (behind_cons (fun h => by simp at h) (fun p hp => by cases hp)))) ?resta10
          case hya10 => (intro W' hSW; go_simp; try with_reducible rfl)
          try simp only [Act.put, List.setIfInBounds_toArray, List.set_cons_zero, List.set_cons_succ]
          refine wpAnyV_take (i := 13) (m := 2) (v := ?_) (by simp only [List.getElem?_toArray, List.getElem?_cons_zero, List.getElem?_cons_succ]; rfl) (by rfl) (by kernel_rfl) (by kernel_rfl) (by kernel_rfl) (by kernel_rfl) (by exact fun _ _ _ h => h) (Or.inl ⟨by rfl, ?hya11⟩) (HV.out.lc.kd.cell 0) (behind_cons (fun _ => (HV.out.lc.kw.cell 0)) (behind_cons (fun _ => (HCY.out _ HV.out)) (behind_cons (fun _ => (HV.out.lc.kd.cell 0)) (fun p hp => by cases hp)))) ?resta11
          case hya11 => (intro W' hSW; go_simp; try with_reducible rfl)
          try simp only [Act.put, List.setIfInBounds_toArray, List.set_cons_zero, List.set_cons_succ]
          refine wpAnyV_ready (rs := [7]) (by kernel_rfl) (by simp) ?_
          refine AllReadyV.cons (by simp only [List.getElem?_toArray, List.getElem?_cons_zero, List.getElem?_cons_succ]; rfl) (fun K hK => ?_) AllReadyV.nil
          go_simp
          go_at_call 15
          refine (from_any _ _ _ _ (by omega) (by omega) (by omega) (by omega) HV.out.urn).mono ?_
          rintro e w501 ⟨r, rfl, hr1, hr2, hu, hk⟩
          have HC501 := Lib.hid (HV.out.calls hu hk)
          clear hu hk
          refine hK.out _ _ (behind_cons (fun _ => (HC501.out.lc.kw.cell 0)) (behind_cons (fun _ => (HCY.out _ HC501.out)) (behind_cons (fun _ => (HC501.out.lc.kd.cell 0)) (fun p hp => by cases hp)))) ?_
          clear hK K
          try simp only [Act.put, List.setIfInBounds_toArray, List.set_cons_zero, List.set_cons_succ]
          refine wpAnyV_ready (rs := [8]) (by kernel_rfl) (by simp) ?_
          refine AllReadyV.cons (by simp only [List.getElem?_toArray, List.getElem?_cons_zero, List.getElem?_cons_succ]; rfl) (fun K hK => ?_) AllReadyV.nil
          go_simp
          have hbn := Blok.new w501 3 [.int .i64 0, .int .i64 r]
          try rw [World.size_alloc] at hbn
          have HN502 := Lib.hid hbn
          clear hbn
          have HC502 := Lib.hid (HC501.out.alloc (.cells #[.int .i64 0, .int .i64 r] 3))
          refine hK.out _ _ (behind_cons (fun _ => (HC502.out.lc.kw.cell 0)) (behind_cons (fun _ => (HCY.out _ HC502.out)) (behind_cons (fun _ => (HC502.out.lc.kd.cell 0)) (fun p hp => by cases hp)))) ?_
          clear hK K
          try simp only [Act.put, List.setIfInBounds_toArray, List.set_cons_zero, List.set_cons_succ]
          refine wpAnyV_ready (rs := [9]) (by kernel_rfl) (by simp) ?_
          refine AllReadyV.cons (by simp only [List.getElem?_toArray, List.getElem?_cons_zero, List.getElem?_cons_succ]; rfl) (fun K hK => ?_) AllReadyV.nil
          go_simp
          go_at_call 11
          refine (any_any _ _ 2 2 3 [0, r] _ rfl (by simp) (by simp) HN502.out (HC502.out.urn.ne HN502.out (by decide)) HC502.out.urn).mono ?_
          rintro e w503 ⟨z, rfl, hz, hu, hk⟩
          have HC503 := Lib.hid (HC502.out.calls hu hk)
          clear hu hk
          have hzb : -3 ≤ z ∧ z ≤ 3 := by simp at hz; omega
          obtain ⟨z1, z2⟩ := hzb
          have q5 : IntKind.i64.wrap (y + z) = y + z := IntWalk.i64_in _ (by omega)
          clear hz hr1 hr2
          refine hK.out _ _ (behind_cons (fun _ => (HC503.out.lc.kw.cell 0)) (behind_cons (fun _ => (HCY.out _ HC503.out)) (behind_cons (fun _ => (HC503.out.lc.kd.cell 0)) (fun p hp => by cases hp)))) ?_
          clear hK K
          try simp only [Act.put, List.setIfInBounds_toArray, List.set_cons_zero, List.set_cons_succ]
          refine wpAnyV_free (i := 10) (v := ?_) (by simp only [List.getElem?_toArray, List.getElem?_cons_zero, List.getElem?_cons_succ]; rfl) (by kernel_rfl) (by kernel_rfl) (by kernel_rfl) (by kernel_rfl) (by exact fun _ _ _ h => h) (Or.inl ⟨by rfl, ?hya15⟩) (behind_cons (fun _ => (HC503.out.lc.kw.cell 0)) (behind_cons (fun _ => (HCY.out _ HC503.out)) (behind_cons (fun _ => (HC503.out.lc.kd.cell 0)) (fun p hp => by cases hp)))) ?resta15
          case hya15 => (intro W' _; go_simp; try with_reducible rfl)
          try simp only [Act.put, List.setIfInBounds_toArray, List.set_cons_zero, List.set_cons_succ]
          refine wpAnyV_ready (rs := [14]) (by kernel_rfl) (by simp) ?_
          refine AllReadyV.cons (by simp only [List.getElem?_toArray, List.getElem?_cons_zero, List.getElem?_cons_succ]; rfl) (fun K hK => ?_) AllReadyV.nil
          go_simp
          go_at_call 16
          refine (up_any _ _ _ (by omega) HC503.out.urn).mono ?_
          rintro e w504 ⟨o, rfl, ho, hu, hk⟩
          have HC504 := Lib.hid (HC503.out.calls hu hk)
          clear hu hk
          refine hK.out _ _ (behind_cons (fun _ => (HC504.out.lc.kw.cell 0)) (behind_cons (fun _ => (HCY.out _ HC504.out)) (behind_cons (fun _ => (HC504.out.lc.kd.cell 0)) (fun p hp => by cases hp)))) ?_
          clear hK K
          try simp only [Act.put, List.setIfInBounds_toArray, List.set_cons_zero, List.set_cons_succ]
          refine wpAnyV_free (i := 15) (v := ?_) (by simp only [List.getElem?_toArray, List.getElem?_cons_zero, List.getElem?_cons_succ]; rfl) (by kernel_rfl) (by kernel_rfl) (by kernel_rfl) (by kernel_rfl) (by exact fun _ _ _ h => h) (Or.inl ⟨by rfl, ?hya17⟩) (behind_cons (fun _ => (HC504.out.lc.kw.cell 0)) (behind_cons (fun _ => (HCY.out _ HC504.out)) (behind_cons (fun _ => (HC504.out.lc.kd.cell 0)) (fun p hp => by cases hp)))) ?resta17
          case hya17 => (intro W' _; go_simp; try with_reducible rfl)
          try simp only [Act.put, List.setIfInBounds_toArray, List.set_cons_zero, List.set_cons_succ]
          refine wpAnyV_free (i := 16) (v := ?_) (by simp only [List.getElem?_toArray, List.getElem?_cons_zero, List.getElem?_cons_succ]; rfl) (by kernel_rfl) (by kernel_rfl) (by kernel_rfl) (by kernel_rfl) (by exact fun _ _ _ h => h) (Or.inl ⟨by rfl, ?hya18⟩) (behind_cons (fun _ => (HC504.out.lc.kw.cell 0)) (behind_cons (fun _ => (HCY.out _ HC504.out)) (behind_cons (fun _ => (HC504.out.lc.kd.cell 0)) (fun p hp => by cases hp)))) ?resta18
          case hya18 => (intro W' _; go_simp; try with_reducible rfl)
          try simp only [Act.put, List.setIfInBounds_toArray, List.set_cons_zero, List.set_cons_succ]
          refine wpAnyV_done (by kernel_rfl) ?_ _
          obtain ⟨w5, rfl⟩ : ∃ w5 : World, w5 = w504 := ⟨_, rfl⟩
          have HT5 := HC504
          have d0 := HT5.out.lc.kd.cell 0
          have d1 := HT5.out.lc.kd.cell 1
          have d2 := HT5.out.lc.kd.cell 2
          simp at d0 d1 d2
          obtain ⟨n, hn⟩ : ∃ n, n = y + z := ⟨_, rfl⟩
          rw [← hn]
          have n1 : -3000 ≤ n := by omega
          have n2 : n ≤ 3000 := by omega
          have hos : o < d.stones := by omega
          have hoy : o < ys.length := by have := HNY.out; omega
          clear hn q5 ho
          have HCUT := Lib.hid (cut_yes d HD.out HYES.out k hlt n (outB_no (by omega) (by omega)))
          have HEAR := Lib.hid (earlier_yes d HD.out HYES.out k o hlt hos)
          go_wp2_with fail
          obtain ⟨cv, hcv⟩ : ∃ cv, cv = d.cutV (1 + k) n := ⟨_, rfl⟩
          have hct := HCUT.out _ _ w5 (Nat.le_refl _) HT5.out.lc.dat.dat
          rw [← hcv] at hct
          refine hct.mono ?_
          clear hct
          rintro e w6 ⟨rfl, hb6⟩
          have HT6 := Lib.hid (HT5.out.to hb6)
          have HCV := Lib.hid hcv
          clear d0 d1 d2 hb6 HT5 hcv HCUT
          have d0 := HT6.out.lc.kd.cell 0
          have d1 := HT6.out.lc.kd.cell 1
          have d2 := HT6.out.lc.kd.cell 2
          simp at d0 d1 d2
          go_wp2_with fail
          obtain ⟨lv, hlv⟩ : ∃ lv, lv = d.laterV (1 + k) (1 + o) := ⟨_, rfl⟩
          have hct := HEAR.out _ _ w6 (Nat.le_refl _) HT6.out.lc.dat.dat
          rw [← hlv] at hct
          refine hct.mono ?_
          clear hct
          rintro e w7 ⟨rfl, hb7⟩
          have HT7 := Lib.hid (HT6.out.to hb7)
          have HLV := Lib.hid hlv
          clear d0 d1 d2 hb7 HT6 hlv HEAR
          obtain ⟨yo, hyo⟩ : ∃ yo, ys[o]? = some yo := ⟨_, List.getElem?_eq_getElem hoy⟩
          obtain ⟨p, hp⟩ : ∃ p, p = d.span (1 + k) := ⟨_, rfl⟩
          have hsp : (spanList d 1 d.stones)[k]? = some p := by rw [hp]; simp [spanList, hlt]
          obtain ⟨u1, u2⟩ := flatS_at _ k p hsp
          have a1 := HT7.out.a.cellAt (k * 2) (by omega)
          have a2 := HT7.out.a.cellAt (k * 2 + 1) (by omega)
          rw [u1] at a1
          rw [u2] at a2
          have cw := HT7.out.lc.kw.cell 0
          simp at cw
          have ck := HCY.out _ HT7.out
          have co : w7.cell? ⟨gy, o, none⟩ = some (.int .i64 yo) := by
            rw [HT7.out.lc.oy.cellAt o (by omega)]
            simp [intCells, hyo]
          have hh : hasB p.1 p.2 y = true := by rw [hp]; exact true_span HM.out k y HYK.out
          have hc : fitsB cv (n == y) = true := by rw [HCV.out]; exact true_cut HM.out k y HYK.out n
          have hl : fitsB lv (decide (y < yo)) = true := by rw [HLV.out]; exact true_later HM.out k o y yo HYK.out hyo
          have HHAS := Lib.hid (fun w => hasIn_any p.1 p.2 y w)
          rw [hh] at HHAS
          have HF1 := Lib.hid (fun w => fits_any cv (n == y) w)
          rw [hc] at HF1
          have HF2 := Lib.hid (fun w => fits_any lv (decide (y < yo)) w)
          rw [hl] at HF2
          have la := World.block_lt_of_cell? w7 _ a1
          have lk := World.block_lt_of_cell? w7 _ ck
          have lw := HT7.out.lc.kw.size
          simp only at la lk
          clear hyo hp hsp u1 u2 hh hc hl
          go_wp2_with fail
          go_region_held3 (fun W' => W'.cell? ⟨ga, k * 2, none⟩ = some (.int .i64 p.1) ∧ W'.cell? ⟨ga, k * 2 + 1, none⟩ = some (.int .i64 p.2) ∧ W'.cell? ⟨w2.heap.size + 1, 0, none⟩ = some (.slice (some ⟨gy, 0, none⟩) ys.length cy) ∧ W'.cell? ⟨gy, k, none⟩ = some (.int .i64 y) ∧ W'.cell? ⟨gy, o, none⟩ = some (.int .i64 yo))
            (first
              | go_keep
              | (go_split_ands; exact ⟨bcell HB8.out la a1, bcell HB8.out la a2, bcell HB8.out lw cw, bcell HB8.out lk ck, bcell HB8.out lk co⟩))
            (first
              | (go_at_call 14; (with_reducible refine (HHAS.out _).mono ?_); rintro e w8 ⟨rfl, hb8⟩; have HB8 := Lib.hid (show Below w7.heap.size w7 w8 from ⟨hb8.os, hb8.tape, hb8.output, hb8.size, hb8.block⟩); clear hb8)
              | (go_at_call 19; (with_reducible refine (HF1.out _).mono ?_); rintro e w9 ⟨rfl, rfl⟩)
              | (go_at_call 19; (with_reducible refine (HF2.out _).mono ?_); rintro e w9 ⟨rfl, rfl⟩))
          have HT8 := Lib.hid (HT7.out.to HB8.out)
          clear a1 a2 cw ck co
          go_wp2_with fail
          go_roundg (gk - 1)
          case measure => omega
          case rel => exact ⟨k + 1, by go_num, by omega, HT8.out⟩
        · go_wp2_with (go_at_call 20; refine (timely_any _).mono ?_; rintro e w5 ⟨rfl, hb5⟩; have HB5 := Lib.hid (HT.out.below.trans (hb5.mono HT.out.below.size)); clear hb5)
          go_ret
          exact ⟨rfl, HB5.out⟩
end Go.Proofs.Ytcbdcdpoackplaa
