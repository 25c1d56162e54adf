/- DatingOf. -/
import Derived.Test.YtcbdcdpoackplaaFj
namespace Go.Proofs.Ytcbdcdpoackplaa
open Go.RowKit Dt

set_option maxRecDepth 100000 in
set_option maxHeartbeats 20000000 in
theorem datingOf_any (g smax nmax : Nat) (far : Int) (w : World) (s1 : 1 ≤ smax) (s6 : smax ≤ 6) (n8 : nmax ≤ 8) (f1 : 0 ≤ far) (f2 : far ≤ 30) (hu : UrnAt w g) :
    Calls Try.prog 10 #[.pointer (some ⟨g, 0, none⟩), .int .i64 smax, .int .i64 nmax, .int .i64 far] w (DatPost g smax nmax w) := by
  have HU := Lib.hid hu
  have hgz := hu.size
  clear hu
  obtain ⟨i0, hi, hz0, hz1, hz2⟩ := info_parts info_num
  have HI := Lib.hid hi
  have HI0 := Lib.hid hz0
  have HI1 := Lib.hid hz1
  have HI2 := Lib.hid hz2
  clear hi hz0 hz1 hz2
  obtain ⟨j0, hi, hz0, hz1, hz2⟩ := info_parts info_span
  have HJ := Lib.hid hi
  have HJ0 := Lib.hid hz0
  have HJ1 := Lib.hid hz1
  have HJ2 := Lib.hid hz2
  clear hi hz0 hz1 hz2
  obtain ⟨k0, hi, hz0, hz1, hz2⟩ := info_parts info_napi
  have HQ := Lib.hid hi
  have HQ0 := Lib.hid hz0
  have HQ1 := Lib.hid hz1
  have HQ2 := Lib.hid hz2
  clear hi hz0 hz1 hz2
  go_enter Try.func10, Try.ntmps10
  go_wp2_with fail
  refine (from_any _ _ _ _ (by omega) (by omega) (by omega) (by omega) ((HU.out.alloc _).alloc _)).mono ?_
  rintro e w1 ⟨stones, rfl, a1, a2, hu1, hk1⟩
  obtain ⟨stones, rfl⟩ := Int.eq_ofNat_of_zero_le (show 0 ≤ stones by omega)
  have HU1 := Lib.hid hu1
  have HK1 := Lib.hid hk1
  clear hu1 hk1
  go_wp2_with fail
  refine (from_any _ _ _ _ (by omega) (by omega) (by omega) (by omega) ((HU1.out.alloc _).alloc _)).mono ?_
  rintro e w2 ⟨base, rfl, b1, b2, hu2, hk2⟩
  have HU2 := Lib.hid hu2
  have HK2 := Lib.hid hk2
  clear hu2 hk2
  go_wp2_with fail
  have hst : Mk g w w2 w1.heap.size (w1.heap.size + 1) stones (.slice none 0 0) (.slice none 0 0) (.slice none 0 0) (.slice none 0 0) := by
    have hz1 := HK1.out.size
    have hz2 := HK2.out.size
    simp at hz1 hz2
    refine ⟨?_, ?_, ?_, ?_, HU2.out, ((((((Kg.refl g w).alloc _).alloc _).trans HK1.out).alloc _).alloc _).trans HK2.out, by omega, by omega⟩
    · exact ((((((Blok.new w _ _).alloc _).kg HK1.out (by omega)).alloc _).alloc _)).kg HK2.out (by omega)
    · have := Blok.new (w.alloc (.cells zeroD.toArray 28)) 30 zeroW
      rw [World.size_alloc] at this
      exact ((this.kg HK1.out (by omega)).alloc _).alloc _ |>.kg HK2.out (by omega)
    · exact ((Blok.new w1 _ _).alloc _).kg HK2.out (by omega)
    · have := Blok.new (w1.alloc (.cells #[.int .i64 stones, .slice none 0 0, .slice none 0 0] 28)) 30 zeroW
      rw [World.size_alloc] at this
      exact this.kg HK2.out (by omega)
  have HST := Lib.hid hst
  have hw2 := hst.kg.size
  clear hst HU2 HK2 HU1 HK1
  go_loopw [13] (fun i wr => ∃ (k : Nat) (ys : List Int) (vy : Value), i = .int .i64 k ∧ ys.length = k ∧ k ≤ stones ∧ Mk g w wr w1.heap.size (w1.heap.size + 1) stones (.slice none 0 0) (.slice none 0 0) vy (.slice none 0 0) ∧ IntsO wr w2.heap.size vy ys ∧ w2.heap.size ≤ wr.heap.size ∧ ∀ y ∈ ys, base ≤ y ∧ y ≤ base + 2 * far) (fun i _ => stones - (intOf i).toNat)
  case atStart => exact ⟨0, [], _, rfl, rfl, by omega, HST.out, World.ownsRow_nil _ _ _ _, Nat.le_refl _, by simp⟩
  case round =>
    clear HST
    obtain ⟨k, ys, vy, rfl, hyl, hk, hm, hown, hz, hys⟩ := hrel
    obtain ⟨A, cA, rfl⟩ := own_slice hown
    have HO := Lib.hid (show wr.ownsRow w2.heap.size 3 1 (.slice A k cA) k (intCells ys) by rw [← hyl]; exact hown)
    rw [hyl] at hm
    have HM := Lib.hid hm
    have HY := Lib.hid hys
    have HYL := Lib.hid hyl
    have d0 : wr.cell? ⟨w1.heap.size, 0, none⟩ = some (.int .i64 stones) := hm.dat.cell 0
    have e0 : wr.cell? ⟨w1.heap.size + 1, 0, none⟩ = some (.slice A k cA) := hm.whe.cell 0
    have ld := hm.dat.size
    have lw := hm.whe.size
    have lk := hm.kg.size
    clear hm hown hys hyl
    by_cases hlt : k < stones
    · skip
      have q1 : IntKind.i64.wrap (2 * far) = 2 * far := IntWalk.i64_in _ (by omega)
      have q2 : IntKind.i64.wrap (2 * far + 1) = 2 * far + 1 := IntWalk.i64_in _ (by omega)
      go_wp2_with fail
      go_region_law (first
        | (refine step_append_lies _ (by rfl) _ _ _ (by rfl) w2.heap.size 3 i0 _ 1 8 Try.underlying22 HI.out HI0.out HI1.out HI2.out rfl (by omega) (.slice A k cA) k (intCells ys) (by rfl) (HO5.out.alloc _) ⟨w5.heap.size, 0, none⟩ 1 1 [.int .i64 (base + r)] (by rfl) (by rfl) (World.news_of_block (cs := #[.int .i64 (base + r)]) (t := 3) (fr := (0, 0)) (heap_alloc_new w5 _)) (by simp [Value.oneCell']) (by omega) (by unfold maxLen; omega) (by omega) (by simp; omega) _ rfl ?_; intro gg cap w7 hown7 hgrow hat hlt7; have hm7 := (HM5.out.alloc (.cells #[.int .i64 (base + r)] 3)).append (HO5.out.alloc (.cells #[.int .i64 (base + r)] 3)) hgrow (by decide) (by omega); have c7 := hm7.whe.cell 0; have f7 := hm7.whe.free 0; have z7 := hm7.whe.size; have HM7 := Lib.hid hm7; have HO7 := Lib.hid hown7; have HG7 := Lib.hid hgrow; clear hm7 hown7 hgrow)
        | (go_simp; go_at_call 16; refine (up_any _ _ _ (by omega) (show UrnAt (World.drew wr) g from HM.out.urn)).mono ?_; rintro e w5 ⟨r, rfl, hr, hu5, hk5⟩; have q3 : IntKind.i64.wrap (base + (r : Int)) = base + r := IntWalk.i64_in _ (by omega); have HM5 := Lib.hid (HM.out.drew.kgs hu5 hk5); have HO5 := Lib.hid (own_kg (w := World.drew wr) HO.out (show UrnAt (World.drew wr) g from HM.out.urn) (by decide) hk5); have hz5 : wr.heap.size ≤ w5.heap.size := hk5.size; have hl5 := HM5.out.whe.size; have c5 : w5.cell? ⟨w1.heap.size + 1, 0, none⟩ = some (.slice A k cA) := (by have := HM5.out.whe.cell 0; simpa using this); clear hu5 hk5))
      all_goals
        have hyr : base ≤ base + (r : Int) ∧ base + (r : Int) ≤ base + 2 * far := by omega
        clear q1 q2 q3 hr
        go_wp2
        go_roundw
        case rel => exact ⟨k + 1, ys ++ [base + (r : Int)], _, by go_num, by rw [List.length_append, HYL.out]; rfl, by omega, HM7.out.putY _, by
          have h := own_far HO7.out (p := ⟨w1.heap.size + 1, 0, none⟩) (own_ne HO7.out HM7.out.whe (by decide)) (.slice (some ⟨gg, 0, none⟩) (k + 1) cap)
          simpa only [IntsO, intCells, List.length_append, List.length_cons, List.length_nil, Nat.zero_add, HYL.out, List.map_append, List.map_cons, List.map_nil] using h, by have := HG7.out.size; simp at this ⊢; omega, fun y hy => by
          rcases List.mem_append.1 hy with hy | hy
          · exact HY.out y hy
          · rw [List.mem_singleton.1 hy]; exact hyr⟩
        case measure => simp [intOf]; omega
    · obtain rfl : k = stones := by omega
      have hst2 : Mk g w wr w1.heap.size (w1.heap.size + 1) k (.slice none 0 0) (.slice none 0 0) (.slice A k cA) (.slice none 0 0) := HM.out
      clear HM d0 e0
      have HM := Lib.hid hst2
      have d0 : wr.cell? ⟨w1.heap.size, 0, none⟩ = some (.int .i64 k) := hst2.dat.cell 0
      clear hst2
      go_wp2_with fail
      refine (up_any _ _ _ (by omega) HM.out.urn).mono ?_
      rintro e w3 ⟨j, rfl, hj, hu3, hk3⟩
      have hri : RI g w w1.heap.size (w1.heap.size + 1) k w2.heap.size w3.heap.size (.slice A k cA) ys (.slice none 0 0) (.slice none 0 0) (.slice none 0 0) 0 [] (.slice none 0 0) 0 [] w3 :=
        ⟨HM.out.kgs hu3 hk3, World.ownsRow_nil _ _ _ _, World.ownsRow_nil _ _ _ _, own_kg (by rw [HYL.out]; exact HO.out) HM.out.urn (by decide) hk3, fun b hb => by have := (HO.out.lt b hb).2; have := hk3.size; omega, Nat.le_refl _, by have := hk3.size; omega⟩
      have HRI := Lib.hid hri
      have hj2 : j ≤ 2 := by omega
      have hw3 : w2.heap.size ≤ w3.heap.size := by have := hk3.size; omega
      clear hri hu3 hk3 HM HO d0 ld lw lk hz
      go_wp2_with fail
      go_loopw [14] (fun i wr => ∃ (q : Nat) (es : List (Int × Int)) (fs : List Int) (ve vf : Value), i = .int .i64 q ∧ es.length + q ≤ 2 ∧ Eras base es fs ∧ RI g w w1.heap.size (w1.heap.size + 1) k w2.heap.size w3.heap.size (.slice A k cA) ys ve vf ve es.length (flatS es) vf fs.length (intCells fs) wr) (fun i _ => (intOf i).toNat)
      case atStart => exact ⟨j, [], [], _, _, rfl, by simpa using hj2, Eras.nil _, HRI.out⟩
      case round =>
        clear HRI
        obtain ⟨q, es, fs, ve, vf, rfl, hq, he, hri⟩ := hrel
        have HR := Lib.hid hri
        have HE := Lib.hid he
        have hfl : fs.length ≤ 2 := by rw [he.len]; omega
        by_cases hq0 : 0 < q
        · skip
          have d1 : wr.cell? ⟨w1.heap.size, 1, none⟩ = some ve := hri.md.dat.cell 1
          go_wp2_with fail
          refine (up_any _ _ _ (by omega) HR.out.md.urn).mono ?_
          rintro e w5 ⟨r, rfl, hr, hu5, hk5⟩
          have HR5 := Lib.hid (HR.out.calls hu5 hk5)
          clear hu5 hk5 d1
          have q4 : IntKind.i64.wrap (base - (r : Int)) = base - r := IntWalk.i64_in _ (by omega)
          go_wp2_with fail
          refine wp_region_v [(fun j => j == 1 || j == 5 || j == 6 || j == 7 || j == 11 || j == 12, fun W => W.cell? ⟨w1.heap.size, 1, none⟩ = some ve), (fun j => j == 1 || j == 5 || j == 6 || j == 7 || j == 9 || j == 11 || j == 12 || j == 13 || j == 14, fun W => W.cell? ⟨w1.heap.size + 1, 1, none⟩ = some vf)] (by kernel_rfl) ?_
          refine wpAnyV_world (fun W => RI g w w1.heap.size (w1.heap.size + 1) k w2.heap.size w3.heap.size (.slice A k cA) ys ve vf ve es.length (flatS es) vf fs.length (intCells fs) W) HR5.out.drew (fun V hV => ?_)
          have HV := Lib.hid hV
          clear hV
          refine wpAnyV_free (i := 0) (v := ?_) (by simp only [List.getElem?_toArray, List.getElem?_cons_zero]; rfl) (by kernel_rfl) (by kernel_rfl) (by kernel_rfl) (by kernel_rfl) (by exact fun _ _ _ h => h) (Or.inl ⟨by rfl, ?hyr2⟩) (behind_cons (fun h => by simp at h) (behind_cons (fun h => by simp at h) (fun p hp => by cases hp))) ?restr2
          case hyr2 => (intro W' _; go_simp; try with_reducible rfl)
          try simp only [Act.put, List.setIfInBounds_toArray, List.set_cons_zero, List.set_cons_succ]
          refine wpAnyV_free (i := 2) (v := ?_) (by simp only [List.getElem?_toArray, List.getElem?_cons_zero, List.getElem?_cons_succ]; rfl) (by kernel_rfl) (by kernel_rfl) (by kernel_rfl) (by kernel_rfl) (by exact fun _ _ _ h => h) (Or.inl ⟨by rfl, ?hyr3⟩) (behind_cons (fun h => by simp at h) (behind_cons (fun h => by simp at h) (fun p hp => by cases hp))) ?restr3
          case hyr3 => (intro W' _; go_simp; try with_reducible rfl)
          try simp only [Act.put, List.setIfInBounds_toArray, List.set_cons_zero, List.set_cons_succ]
          refine wpAnyV_free (i := 3) (v := ?_) (by simp only [List.getElem?_toArray, List.getElem?_cons_zero, List.getElem?_cons_succ]; rfl) (by kernel_rfl) (by kernel_rfl) (by kernel_rfl) (by kernel_rfl) (by exact fun _ _ _ h => h) (Or.inl ⟨by rfl, ?hyr4⟩) (behind_cons (fun h => by simp at h) (behind_cons (fun h => by simp at h) (fun p hp => by cases hp))) ?restr4
          case hyr4 => (intro W' _; go_simp; try with_reducible rfl)
          try simp only [Act.put, List.setIfInBounds_toArray, List.set_cons_zero, List.set_cons_succ]
          refine wpAnyV_free (i := 4) (v := ?_) (by simp only [List.getElem?_toArray, List.getElem?_cons_zero, List.getElem?_cons_succ]; rfl) (by kernel_rfl) (by kernel_rfl) (by kernel_rfl) (by kernel_rfl) (by exact fun _ _ _ h => h) (Or.inl ⟨by rfl, ?hyr5⟩) (behind_cons (fun h => by simp at h) (behind_cons (fun h => by simp at h) (fun p hp => by cases hp))) ?restr5
          case hyr5 => (intro W' _; go_simp; try with_reducible rfl)
          try simp only [Act.put, List.setIfInBounds_toArray, List.set_cons_zero, List.set_cons_succ]
          refine wpAnyV_free (i := 8) (v := ?_) (by simp only [List.getElem?_toArray, List.getElem?_cons_zero, List.getElem?_cons_succ]; rfl) (by kernel_rfl) (by kernel_rfl) (by kernel_rfl) (by kernel_rfl) (by exact fun _ _ _ h => h) (Or.inl ⟨by rfl, ?hyr6⟩) (behind_cons (fun h => by simp at h) (behind_cons (fun h => by simp at h) (fun p hp => by cases hp))) ?restr6
          case hyr6 => (intro W' _; go_simp; try with_reducible rfl)
          try simp only [Act.put, List.setIfInBounds_toArray, List.set_cons_zero, List.set_cons_succ]
          refine wpAnyV_free (i := 10) (v := ?_) (by simp only [List.getElem?_toArray, List.getElem?_cons_zero, List.getElem?_cons_succ]; rfl) (by kernel_rfl) (by kernel_rfl) (by kernel_rfl) (by kernel_rfl) (by exact fun _ _ _ h => h) (Or.inl ⟨by rfl, ?hyr7⟩) (behind_cons (fun h => by simp at h) (behind_cons (fun h => by simp at h) (fun p hp => by cases hp))) ?restr7
          case hyr7 => (intro W' _; go_simp; try with_reducible rfl)
          try simp only [Act.put, List.setIfInBounds_toArray, List.set_cons_zero, List.set_cons_succ]
          refine wpAnyV_take (i := 9) (m := 1) (v := ?_) (by simp only [List.getElem?_toArray, List.getElem?_cons_zero, List.getElem?_cons_succ]; rfl) (by rfl) (by kernel_rfl) (by kernel_rfl) (by kernel_rfl) (by kernel_rfl) (by exact fun _ _ _ h => h) (Or.inl ⟨by rfl, ?hyr8⟩) (HV.out.md.whe.cell 1) (behind_cons (fun h => by simp at h) (behind_cons (fun _ => (HV.out.md.whe.cell 1)) (fun p hp => by cases hp))) ?restr8
          case hyr8 => (intro W' hSW; go_simp; try with_reducible rfl)
          try simp only [Act.put, List.setIfInBounds_toArray, List.set_cons_zero, List.set_cons_succ]
          refine wpAnyV_take (i := 1) (m := 0) (v := ?_) (by simp only [List.getElem?_toArray, List.getElem?_cons_zero, List.getElem?_cons_succ]; rfl) (by rfl) (by kernel_rfl) (by kernel_rfl) (by kernel_rfl) (by kernel_rfl) (by exact fun _ _ _ h => h) (Or.inl ⟨by rfl, ?hyr9⟩) (HV.out.md.dat.cell 1) (behind_cons (fun _ => (HV.out.md.dat.cell 1)) (behind_cons (fun _ => (HV.out.md.whe.cell 1)) (fun p hp => by cases hp))) ?restr9
          case hyr9 => (intro W' hSW; go_simp; try with_reducible rfl)
          try simp only [Act.put, List.setIfInBounds_toArray, List.set_cons_zero, List.set_cons_succ]
          refine wpAnyV_ready (rs := [5, 11]) (by kernel_rfl) (by simp) ?_
          refine AllReadyV.cons (by simp only [List.getElem?_toArray, List.getElem?_cons_zero, List.getElem?_cons_succ]; rfl) (fun K hK => ?_) (AllReadyV.cons (by simp only [List.getElem?_toArray, List.getElem?_cons_zero, List.getElem?_cons_succ]; rfl) (fun K hK => ?_) AllReadyV.nil)
          · go_simp
            go_at_call 36
            refine (bracket_any _ _ _ _ (by omega) (by omega) (by omega) (by omega) HV.out.md.urn).mono ?_
            rintro e w101 ⟨lo, hi, rfl, l1, l2, l3, l4, l5, l6, hu, hk⟩
            have HR101 := Lib.hid (HV.out.calls hu hk)
            clear hu hk
            refine hK.out _ _ (behind_cons (fun _ => (HR101.out.md.dat.cell 1)) (behind_cons (fun _ => (HR101.out.md.whe.cell 1)) (fun p hp => by cases hp))) ?_
            clear hK K
            try simp only [Act.put, List.setIfInBounds_toArray, List.set_cons_zero, List.set_cons_succ]
            refine wpAnyV_ready (rs := [6, 11]) (by kernel_rfl) (by simp) ?_
            refine AllReadyV.cons (by simp only [List.getElem?_toArray, List.getElem?_cons_zero, List.getElem?_cons_succ]; rfl) (fun K hK => ?_) (AllReadyV.cons (by simp only [List.getElem?_toArray, List.getElem?_cons_zero, List.getElem?_cons_succ]; rfl) (fun K hK => ?_) AllReadyV.nil)
            · go_simp
              have HR102 := Lib.hid (HR101.out.alloc (.cells #[.int .i64 lo, .int .i64 hi] 39))
              have hbn := Blok.new w101 39 [.int .i64 lo, .int .i64 hi]
              try rw [World.size_alloc] at hbn
              have Hns102 := Lib.hid hbn
              clear hbn
              refine hK.out _ _ (behind_cons (fun _ => (HR102.out.md.dat.cell 1)) (behind_cons (fun _ => (HR102.out.md.whe.cell 1)) (fun p hp => by cases hp))) ?_
              clear hK K
              try simp only [Act.put, List.setIfInBounds_toArray, List.set_cons_zero, List.set_cons_succ]
              refine wpAnyV_ready (rs := [7, 11]) (by kernel_rfl) (by simp) ?_
              refine AllReadyV.cons (by simp only [List.getElem?_toArray, List.getElem?_cons_zero, List.getElem?_cons_succ]; rfl) (fun K hK => ?_) (AllReadyV.cons (by simp only [List.getElem?_toArray, List.getElem?_cons_zero, List.getElem?_cons_succ]; rfl) (fun K hK => ?_) AllReadyV.nil)
              · refine step_append_lies (w101.alloc (.cells #[.int .i64 lo, .int .i64 hi] 39)) (by rfl) _ _ 25 (by rfl) w3.heap.size 39 j0 _ 2 16 Try.underlying25 HJ.out HJ0.out HJ1.out HJ2.out rfl (by omega) ve es.length (flatS es) (by rfl) HR102.out.oa ⟨w101.heap.size, 0, none⟩ 1 1 [.int .i64 lo, .int .i64 hi] (by rfl) (by rfl) (World.news_of_block Hns102.out) (by simp [Value.oneCell']) (by omega) (by unfold maxLen; omega) (by omega) HR102.out.size _ rfl ?_
                intro gns cns w103 hown hgrow hat hlt
                have HR103 := Lib.hid (HR102.out.app1 hgrow hown)
                clear hown hgrow hat hlt
                try go_simp
                refine hK.out _ _ (behind_cons (fun _ => (HR103.out.md.dat.cell 1)) (behind_cons (fun _ => (HR103.out.md.whe.cell 1)) (fun p hp => by cases hp))) ?_
                clear hK K
                try simp only [Act.put, List.setIfInBounds_toArray, List.set_cons_zero, List.set_cons_succ]
                refine wpAnyV_free (i := 13) (v := ?_) (by simp only [List.getElem?_toArray, List.getElem?_cons_zero, List.getElem?_cons_succ]; rfl) (by kernel_rfl) (by kernel_rfl) (by kernel_rfl) (by kernel_rfl) (by exact fun _ _ _ h => h) (Or.inl ⟨by rfl, ?hyr13⟩) (behind_cons (fun h => by simp at h) (behind_cons (fun _ => (HR103.out.md.whe.cell 1)) (fun p hp => by cases hp))) ?restr13
                case hyr13 => (intro W' _; go_simp; try with_reducible rfl)
                try simp only [Act.put, List.setIfInBounds_toArray, List.set_cons_zero, List.set_cons_succ]
                refine wpAnyV_ready (rs := [11]) (by kernel_rfl) (by simp) ?_
                refine AllReadyV.cons (by simp only [List.getElem?_toArray, List.getElem?_cons_zero, List.getElem?_cons_succ]; rfl) (fun K hK => ?_) AllReadyV.nil
                go_simp
                have HR104 := Lib.hid (HR103.out.alloc (.cells #[.int .i64 (base - (r : Int))] 3))
                have hbn := Blok.new w103 3 [.int .i64 (base - (r : Int))]
                try rw [World.size_alloc] at hbn
                have Hnn104 := Lib.hid hbn
                clear hbn
                refine hK.out _ _ (behind_cons (fun _ => (HR104.out.md.dat.cell 1)) (behind_cons (fun _ => (HR104.out.md.whe.cell 1)) (fun p hp => by cases hp))) ?_
                clear hK K
                try simp only [Act.put, List.setIfInBounds_toArray, List.set_cons_zero, List.set_cons_succ]
                refine wpAnyV_ready (rs := [12]) (by kernel_rfl) (by simp) ?_
                refine AllReadyV.cons (by simp only [List.getElem?_toArray, List.getElem?_cons_zero, List.getElem?_cons_succ]; rfl) (fun K hK => ?_) AllReadyV.nil
                refine step_append_lies (w103.alloc (.cells #[.int .i64 (base - (r : Int))] 3)) (by rfl) _ _ 22 (by rfl) w3.heap.size 3 i0 _ 1 8 Try.underlying22 HI.out HI0.out HI1.out HI2.out rfl (by omega) vf fs.length (intCells fs) (by rfl) HR104.out.ob ⟨w103.heap.size, 0, none⟩ 1 1 [.int .i64 (base - (r : Int))] (by rfl) (by rfl) (World.news_of_block Hnn104.out) (by simp [Value.oneCell']) (by omega) (by unfold maxLen; omega) (by omega) HR104.out.size _ rfl ?_
                intro gnn cnn w105 hown hgrow hat hlt
                have HR105 := Lib.hid (HR104.out.app2 hgrow hown)
                clear hown hgrow hat hlt
                try go_simp
                refine hK.out _ _ (behind_cons (fun _ => (HR105.out.md.dat.cell 1)) (behind_cons (fun _ => (HR105.out.md.whe.cell 1)) (fun p hp => by cases hp))) ?_
                clear hK K
                try simp only [Act.put, List.setIfInBounds_toArray, List.set_cons_zero, List.set_cons_succ]
                refine wpAnyV_ready (rs := [14]) (by kernel_rfl) (by simp) ?_
                refine AllReadyV.cons (by simp only [List.getElem?_toArray, List.getElem?_cons_zero, List.getElem?_cons_succ]; rfl) (fun K hK => ?_) AllReadyV.nil
                have c106 : w105.cell? ⟨w1.heap.size, 1, none⟩ = some ve := HR105.out.md.dat.cell 1
                have f106 := HR105.out.md.dat.free 1
                go_simp
                clear c106 f106
                have HR106 := Lib.hid (HR105.out.put1 (.slice (some ⟨gns, 0, none⟩) (es.length + 1) cns))
                refine hK.out _ _ (behind_cons (fun h => by simp at h) (behind_cons (fun _ => (HR106.out.md.whe.cell 1)) (fun p hp => by cases hp))) ?_
                clear hK K
                try simp only [Act.put, List.setIfInBounds_toArray, List.set_cons_zero, List.set_cons_succ]
                refine wpAnyV_free (i := 15) (v := ?_) (by simp only [List.getElem?_toArray, List.getElem?_cons_zero, List.getElem?_cons_succ]; rfl) (by kernel_rfl) (by kernel_rfl) (by kernel_rfl) (by kernel_rfl) (by exact fun _ _ _ h => h) (Or.inl ⟨by rfl, ?hyr17⟩) (behind_cons (fun h => by simp at h) (behind_cons (fun h => by simp at h) (fun p hp => by cases hp))) ?restr17
                case hyr17 => (intro W' _; go_simp; try with_reducible rfl)
                try simp only [Act.put, List.setIfInBounds_toArray, List.set_cons_zero, List.set_cons_succ]
                refine wpAnyV_ready (rs := [16]) (by kernel_rfl) (by simp) ?_
                refine AllReadyV.cons (by simp only [List.getElem?_toArray, List.getElem?_cons_zero, List.getElem?_cons_succ]; rfl) (fun K hK => ?_) AllReadyV.nil
                have c107 : (w105.setCell ⟨w1.heap.size, 1, none⟩ (.slice (some ⟨gns, 0, none⟩) (es.length + 1) cns)).cell? ⟨w1.heap.size + 1, 1, none⟩ = some vf := HR106.out.md.whe.cell 1
                have f107 := HR106.out.md.whe.free 1
                go_simp
                clear c107 f107
                have HR107 := Lib.hid (HR106.out.putF (.slice (some ⟨gnn, 0, none⟩) (fs.length + 1) cnn))
                refine hK.out _ _ (behind_cons (fun h => by simp at h) (behind_cons (fun h => by simp at h) (fun p hp => by cases hp))) ?_
                clear hK K
                try simp only [Act.put, List.setIfInBounds_toArray, List.set_cons_zero, List.set_cons_succ]
                refine wpAnyV_done (by kernel_rfl) ?_ _
                go_wp2_with fail
                go_roundw
                case rel => exact ⟨q - 1, es ++ [(lo, hi)], fs ++ [base - (r : Int)], _, _, by go_num, by simp; omega, HE.out.snoc (lo, hi) _ (show SpanOk lo hi from ⟨l1, by omega, l4⟩) (show -1000 ≤ lo ∧ hi ≤ 1000 from ⟨by omega, by omega⟩) (show lo ≤ base - (r : Int) ∧ base - (r : Int) ≤ hi from ⟨l2, l3⟩) (by omega), HR107.out.snoc⟩
                case measure => simp [intOf]; omega
              · go_simp
                have HR108 := Lib.hid (HR102.out.alloc (.cells #[.int .i64 (base - (r : Int))] 3))
                have hbn := Blok.new (w101.alloc (.cells #[.int .i64 lo, .int .i64 hi] 39)) 3 [.int .i64 (base - (r : Int))]
                try rw [World.size_alloc] at hbn
                have Hnn108 := Lib.hid hbn
                clear hbn
                have Hns108 := Lib.hid (Hns102.out.alloc (.cells #[.int .i64 (base - (r : Int))] 3))
                refine hK.out _ _ (behind_cons (fun _ => (HR108.out.md.dat.cell 1)) (behind_cons (fun _ => (HR108.out.md.whe.cell 1)) (fun p hp => by cases hp))) ?_
                clear hK K
                try simp only [Act.put, List.setIfInBounds_toArray, List.set_cons_zero, List.set_cons_succ]
                refine wpAnyV_ready (rs := [7]) (by kernel_rfl) (by simp) ?_
                refine AllReadyV.cons (by simp only [List.getElem?_toArray, List.getElem?_cons_zero, List.getElem?_cons_succ]; rfl) (fun K hK => ?_) AllReadyV.nil
                refine step_append_lies ((w101.alloc (.cells #[.int .i64 lo, .int .i64 hi] 39)).alloc (.cells #[.int .i64 (base - (r : Int))] 3)) (by rfl) _ _ 25 (by rfl) w3.heap.size 39 j0 _ 2 16 Try.underlying25 HJ.out HJ0.out HJ1.out HJ2.out rfl (by omega) ve es.length (flatS es) (by rfl) HR108.out.oa ⟨w101.heap.size, 0, none⟩ 1 1 [.int .i64 lo, .int .i64 hi] (by rfl) (by rfl) (World.news_of_block Hns108.out) (by simp [Value.oneCell']) (by omega) (by unfold maxLen; omega) (by omega) HR108.out.size _ rfl ?_
                intro gns cns w109 hown hgrow hat hlt
                have HR109 := Lib.hid (HR108.out.app1 hgrow hown)
                have Hnn109 := Lib.hid (Hnn108.out.grown hgrow (own_ne HR108.out.oa Hnn108.out (by decide)))
                clear hown hgrow hat hlt
                try go_simp
                refine hK.out _ _ (behind_cons (fun _ => (HR109.out.md.dat.cell 1)) (behind_cons (fun _ => (HR109.out.md.whe.cell 1)) (fun p hp => by cases hp))) ?_
                clear hK K
                try simp only [Act.put, List.setIfInBounds_toArray, List.set_cons_zero, List.set_cons_succ]
                refine wpAnyV_free (i := 13) (v := ?_) (by simp only [List.getElem?_toArray, List.getElem?_cons_zero, List.getElem?_cons_succ]; rfl) (by kernel_rfl) (by kernel_rfl) (by kernel_rfl) (by kernel_rfl) (by exact fun _ _ _ h => h) (Or.inl ⟨by rfl, ?hyr21⟩) (behind_cons (fun h => by simp at h) (behind_cons (fun _ => (HR109.out.md.whe.cell 1)) (fun p hp => by cases hp))) ?restr21
                case hyr21 => (intro W' _; go_simp; try with_reducible rfl)
                try simp only [Act.put, List.setIfInBounds_toArray, List.set_cons_zero, List.set_cons_succ]
                refine wpAnyV_ready (rs := [12]) (by kernel_rfl) (by simp) ?_
                refine AllReadyV.cons (by simp only [List.getElem?_toArray, List.getElem?_cons_zero, List.getElem?_cons_succ]; rfl) (fun K hK => ?_) AllReadyV.nil
                refine step_append_lies w109 (by rfl) _ _ 22 (by rfl) w3.heap.size 3 i0 _ 1 8 Try.underlying22 HI.out HI0.out HI1.out HI2.out rfl (by omega) vf fs.length (intCells fs) (by rfl) HR109.out.ob ⟨w101.heap.size + 1, 0, none⟩ 1 1 [.int .i64 (base - (r : Int))] (by rfl) (by rfl) (World.news_of_block Hnn109.out) (by simp [Value.oneCell']) (by omega) (by unfold maxLen; omega) (by omega) HR109.out.size _ rfl ?_
                intro gnn cnn w110 hown hgrow hat hlt
                have HR110 := Lib.hid (HR109.out.app2 hgrow hown)
                clear hown hgrow hat hlt
                try go_simp
                refine hK.out _ _ (behind_cons (fun _ => (HR110.out.md.dat.cell 1)) (behind_cons (fun _ => (HR110.out.md.whe.cell 1)) (fun p hp => by cases hp))) ?_
                clear hK K
                try simp only [Act.put, List.setIfInBounds_toArray, List.set_cons_zero, List.set_cons_succ]
                refine wpAnyV_ready (rs := [14]) (by kernel_rfl) (by simp) ?_
                refine AllReadyV.cons (by simp only [List.getElem?_toArray, List.getElem?_cons_zero, List.getElem?_cons_succ]; rfl) (fun K hK => ?_) AllReadyV.nil
                have c111 : w110.cell? ⟨w1.heap.size, 1, none⟩ = some ve := HR110.out.md.dat.cell 1
                have f111 := HR110.out.md.dat.free 1
                go_simp
                clear c111 f111
                have HR111 := Lib.hid (HR110.out.put1 (.slice (some ⟨gns, 0, none⟩) (es.length + 1) cns))
                refine hK.out _ _ (behind_cons (fun h => by simp at h) (behind_cons (fun _ => (HR111.out.md.whe.cell 1)) (fun p hp => by cases hp))) ?_
                clear hK K
                try simp only [Act.put, List.setIfInBounds_toArray, List.set_cons_zero, List.set_cons_succ]
                refine wpAnyV_free (i := 15) (v := ?_) (by simp only [List.getElem?_toArray, List.getElem?_cons_zero, List.getElem?_cons_succ]; rfl) (by kernel_rfl) (by kernel_rfl) (by kernel_rfl) (by kernel_rfl) (by exact fun _ _ _ h => h) (Or.inl ⟨by rfl, ?hyr24⟩) (behind_cons (fun h => by simp at h) (behind_cons (fun h => by simp at h) (fun p hp => by cases hp))) ?restr24
                case hyr24 => (intro W' _; go_simp; try with_reducible rfl)
                try simp only [Act.put, List.setIfInBounds_toArray, List.set_cons_zero, List.set_cons_succ]
                refine wpAnyV_ready (rs := [16]) (by kernel_rfl) (by simp) ?_
                refine AllReadyV.cons (by simp only [List.getElem?_toArray, List.getElem?_cons_zero, List.getElem?_cons_succ]; rfl) (fun K hK => ?_) AllReadyV.nil
                have c112 : (w110.setCell ⟨w1.heap.size, 1, none⟩ (.slice (some ⟨gns, 0, none⟩) (es.length + 1) cns)).cell? ⟨w1.heap.size + 1, 1, none⟩ = some vf := HR111.out.md.whe.cell 1
                have f112 := HR111.out.md.whe.free 1
                go_simp
                clear c112 f112
                have HR112 := Lib.hid (HR111.out.putF (.slice (some ⟨gnn, 0, none⟩) (fs.length + 1) cnn))
                refine hK.out _ _ (behind_cons (fun h => by simp at h) (behind_cons (fun h => by simp at h) (fun p hp => by cases hp))) ?_
                clear hK K
                try simp only [Act.put, List.setIfInBounds_toArray, List.set_cons_zero, List.set_cons_succ]
                refine wpAnyV_done (by kernel_rfl) ?_ _
                go_wp2_with fail
                go_roundw
                case rel => exact ⟨q - 1, es ++ [(lo, hi)], fs ++ [base - (r : Int)], _, _, by go_num, by simp; omega, HE.out.snoc (lo, hi) _ (show SpanOk lo hi from ⟨l1, by omega, l4⟩) (show -1000 ≤ lo ∧ hi ≤ 1000 from ⟨by omega, by omega⟩) (show lo ≤ base - (r : Int) ∧ base - (r : Int) ≤ hi from ⟨l2, l3⟩) (by omega), HR112.out.snoc⟩
                case measure => simp [intOf]; omega
            · go_simp
              have HR113 := Lib.hid (HR101.out.alloc (.cells #[.int .i64 (base - (r : Int))] 3))
              have hbn := Blok.new w101 3 [.int .i64 (base - (r : Int))]
              try rw [World.size_alloc] at hbn
              have Hnn113 := Lib.hid hbn
              clear hbn
              refine hK.out _ _ (behind_cons (fun _ => (HR113.out.md.dat.cell 1)) (behind_cons (fun _ => (HR113.out.md.whe.cell 1)) (fun p hp => by cases hp))) ?_
              clear hK K
              try simp only [Act.put, List.setIfInBounds_toArray, List.set_cons_zero, List.set_cons_succ]
              refine wpAnyV_ready (rs := [6]) (by kernel_rfl) (by simp) ?_
              refine AllReadyV.cons (by simp only [List.getElem?_toArray, List.getElem?_cons_zero, List.getElem?_cons_succ]; rfl) (fun K hK => ?_) AllReadyV.nil
              go_simp
              have HR114 := Lib.hid (HR113.out.alloc (.cells #[.int .i64 lo, .int .i64 hi] 39))
              have hbn := Blok.new (w101.alloc (.cells #[.int .i64 (base - (r : Int))] 3)) 39 [.int .i64 lo, .int .i64 hi]
              try rw [World.size_alloc] at hbn
              have Hns114 := Lib.hid hbn
              clear hbn
              have Hnn114 := Lib.hid (Hnn113.out.alloc (.cells #[.int .i64 lo, .int .i64 hi] 39))
              refine hK.out _ _ (behind_cons (fun _ => (HR114.out.md.dat.cell 1)) (behind_cons (fun _ => (HR114.out.md.whe.cell 1)) (fun p hp => by cases hp))) ?_
              clear hK K
              try simp only [Act.put, List.setIfInBounds_toArray, List.set_cons_zero, List.set_cons_succ]
              refine wpAnyV_ready (rs := [7]) (by kernel_rfl) (by simp) ?_
              refine AllReadyV.cons (by simp only [List.getElem?_toArray, List.getElem?_cons_zero, List.getElem?_cons_succ]; rfl) (fun K hK => ?_) AllReadyV.nil
              refine step_append_lies ((w101.alloc (.cells #[.int .i64 (base - (r : Int))] 3)).alloc (.cells #[.int .i64 lo, .int .i64 hi] 39)) (by rfl) _ _ 25 (by rfl) w3.heap.size 39 j0 _ 2 16 Try.underlying25 HJ.out HJ0.out HJ1.out HJ2.out rfl (by omega) ve es.length (flatS es) (by rfl) HR114.out.oa ⟨w101.heap.size + 1, 0, none⟩ 1 1 [.int .i64 lo, .int .i64 hi] (by rfl) (by rfl) (World.news_of_block Hns114.out) (by simp [Value.oneCell']) (by omega) (by unfold maxLen; omega) (by omega) HR114.out.size _ rfl ?_
              intro gns cns w115 hown hgrow hat hlt
              have HR115 := Lib.hid (HR114.out.app1 hgrow hown)
              have Hnn115 := Lib.hid (Hnn114.out.grown hgrow (own_ne HR114.out.oa Hnn114.out (by decide)))
              clear hown hgrow hat hlt
              try go_simp
              refine hK.out _ _ (behind_cons (fun _ => (HR115.out.md.dat.cell 1)) (behind_cons (fun _ => (HR115.out.md.whe.cell 1)) (fun p hp => by cases hp))) ?_
              clear hK K
              try simp only [Act.put, List.setIfInBounds_toArray, List.set_cons_zero, List.set_cons_succ]
              refine wpAnyV_free (i := 13) (v := ?_) (by simp only [List.getElem?_toArray, List.getElem?_cons_zero, List.getElem?_cons_succ]; rfl) (by kernel_rfl) (by kernel_rfl) (by kernel_rfl) (by kernel_rfl) (by exact fun _ _ _ h => h) (Or.inl ⟨by rfl, ?hyr29⟩) (behind_cons (fun h => by simp at h) (behind_cons (fun _ => (HR115.out.md.whe.cell 1)) (fun p hp => by cases hp))) ?restr29
              case hyr29 => (intro W' _; go_simp; try with_reducible rfl)
              try simp only [Act.put, List.setIfInBounds_toArray, List.set_cons_zero, List.set_cons_succ]
              refine wpAnyV_ready (rs := [12]) (by kernel_rfl) (by simp) ?_
              refine AllReadyV.cons (by simp only [List.getElem?_toArray, List.getElem?_cons_zero, List.getElem?_cons_succ]; rfl) (fun K hK => ?_) AllReadyV.nil
              refine step_append_lies w115 (by rfl) _ _ 22 (by rfl) w3.heap.size 3 i0 _ 1 8 Try.underlying22 HI.out HI0.out HI1.out HI2.out rfl (by omega) vf fs.length (intCells fs) (by rfl) HR115.out.ob ⟨w101.heap.size, 0, none⟩ 1 1 [.int .i64 (base - (r : Int))] (by rfl) (by rfl) (World.news_of_block Hnn115.out) (by simp [Value.oneCell']) (by omega) (by unfold maxLen; omega) (by omega) HR115.out.size _ rfl ?_
              intro gnn cnn w116 hown hgrow hat hlt
              have HR116 := Lib.hid (HR115.out.app2 hgrow hown)
              clear hown hgrow hat hlt
              try go_simp
              refine hK.out _ _ (behind_cons (fun _ => (HR116.out.md.dat.cell 1)) (behind_cons (fun _ => (HR116.out.md.whe.cell 1)) (fun p hp => by cases hp))) ?_
              clear hK K
              try simp only [Act.put, List.setIfInBounds_toArray, List.set_cons_zero, List.set_cons_succ]
              refine wpAnyV_ready (rs := [14]) (by kernel_rfl) (by simp) ?_
              refine AllReadyV.cons (by simp only [List.getElem?_toArray, List.getElem?_cons_zero, List.getElem?_cons_succ]; rfl) (fun K hK => ?_) AllReadyV.nil
              have c117 : w116.cell? ⟨w1.heap.size, 1, none⟩ = some ve := HR116.out.md.dat.cell 1
              have f117 := HR116.out.md.dat.free 1
              go_simp
              clear c117 f117
              have HR117 := Lib.hid (HR116.out.put1 (.slice (some ⟨gns, 0, none⟩) (es.length + 1) cns))
              refine hK.out _ _ (behind_cons (fun h => by simp at h) (behind_cons (fun _ => (HR117.out.md.whe.cell 1)) (fun p hp => by cases hp))) ?_
              clear hK K
              try simp only [Act.put, List.setIfInBounds_toArray, List.set_cons_zero, List.set_cons_succ]
              refine wpAnyV_free (i := 15) (v := ?_) (by simp only [List.getElem?_toArray, List.getElem?_cons_zero, List.getElem?_cons_succ]; rfl) (by kernel_rfl) (by kernel_rfl) (by kernel_rfl) (by kernel_rfl) (by exact fun _ _ _ h => h) (Or.inl ⟨by rfl, ?hyr32⟩) (behind_cons (fun h => by simp at h) (behind_cons (fun h => by simp at h) (fun p hp => by cases hp))) ?restr32
              case hyr32 => (intro W' _; go_simp; try with_reducible rfl)
              try simp only [Act.put, List.setIfInBounds_toArray, List.set_cons_zero, List.set_cons_succ]
              refine wpAnyV_ready (rs := [16]) (by kernel_rfl) (by simp) ?_
              refine AllReadyV.cons (by simp only [List.getElem?_toArray, List.getElem?_cons_zero, List.getElem?_cons_succ]; rfl) (fun K hK => ?_) AllReadyV.nil
              have c118 : (w116.setCell ⟨w1.heap.size, 1, none⟩ (.slice (some ⟨gns, 0, none⟩) (es.length + 1) cns)).cell? ⟨w1.heap.size + 1, 1, none⟩ = some vf := HR117.out.md.whe.cell 1
              have f118 := HR117.out.md.whe.free 1
              go_simp
              clear c118 f118
              have HR118 := Lib.hid (HR117.out.putF (.slice (some ⟨gnn, 0, none⟩) (fs.length + 1) cnn))
              refine hK.out _ _ (behind_cons (fun h => by simp at h) (behind_cons (fun h => by simp at h) (fun p hp => by cases hp))) ?_
              clear hK K
              try simp only [Act.put, List.setIfInBounds_toArray, List.set_cons_zero, List.set_cons_succ]
              refine wpAnyV_done (by kernel_rfl) ?_ _
              go_wp2_with fail
              go_roundw
              case rel => exact ⟨q - 1, es ++ [(lo, hi)], fs ++ [base - (r : Int)], _, _, by go_num, by simp; omega, HE.out.snoc (lo, hi) _ (show SpanOk lo hi from ⟨l1, by omega, l4⟩) (show -1000 ≤ lo ∧ hi ≤ 1000 from ⟨by omega, by omega⟩) (show lo ≤ base - (r : Int) ∧ base - (r : Int) ≤ hi from ⟨l2, l3⟩) (by omega), HR118.out.snoc⟩
              case measure => simp [intOf]; omega
          · go_simp
            have HR119 := Lib.hid (HV.out.alloc (.cells #[.int .i64 (base - (r : Int))] 3))
            have hbn := Blok.new V 3 [.int .i64 (base - (r : Int))]
            try rw [World.size_alloc] at hbn
            have Hnn119 := Lib.hid hbn
            clear hbn
            refine hK.out _ _ (behind_cons (fun _ => (HR119.out.md.dat.cell 1)) (behind_cons (fun _ => (HR119.out.md.whe.cell 1)) (fun p hp => by cases hp))) ?_
            clear hK K
            try simp only [Act.put, List.setIfInBounds_toArray, List.set_cons_zero, List.set_cons_succ]
            refine wpAnyV_ready (rs := [5]) (by kernel_rfl) (by simp) ?_
            refine AllReadyV.cons (by simp only [List.getElem?_toArray, List.getElem?_cons_zero, List.getElem?_cons_succ]; rfl) (fun K hK => ?_) AllReadyV.nil
            go_simp
            go_at_call 36
            refine (bracket_any _ _ _ _ (by omega) (by omega) (by omega) (by omega) HR119.out.md.urn).mono ?_
            rintro e w120 ⟨lo, hi, rfl, l1, l2, l3, l4, l5, l6, hu, hk⟩
            have HR120 := Lib.hid (HR119.out.calls hu hk)
            have HN120 := Lib.hid (Hnn119.out.kg hk (HR119.out.md.urn.ne Hnn119.out (by decide)))
            clear hu hk
            refine hK.out _ _ (behind_cons (fun _ => (HR120.out.md.dat.cell 1)) (behind_cons (fun _ => (HR120.out.md.whe.cell 1)) (fun p hp => by cases hp))) ?_
            clear hK K
            try simp only [Act.put, List.setIfInBounds_toArray, List.set_cons_zero, List.set_cons_succ]
            refine wpAnyV_ready (rs := [6]) (by kernel_rfl) (by simp) ?_
            refine AllReadyV.cons (by simp only [List.getElem?_toArray, List.getElem?_cons_zero, List.getElem?_cons_succ]; rfl) (fun K hK => ?_) AllReadyV.nil
            go_simp
            have HR121 := Lib.hid (HR120.out.alloc (.cells #[.int .i64 lo, .int .i64 hi] 39))
            have hbn := Blok.new w120 39 [.int .i64 lo, .int .i64 hi]
            try rw [World.size_alloc] at hbn
            have Hns121 := Lib.hid hbn
            clear hbn
            have Hnn121 := Lib.hid (HN120.out.alloc (.cells #[.int .i64 lo, .int .i64 hi] 39))
            refine hK.out _ _ (behind_cons (fun _ => (HR121.out.md.dat.cell 1)) (behind_cons (fun _ => (HR121.out.md.whe.cell 1)) (fun p hp => by cases hp))) ?_
            clear hK K
            try simp only [Act.put, List.setIfInBounds_toArray, List.set_cons_zero, List.set_cons_succ]
            refine wpAnyV_ready (rs := [7]) (by kernel_rfl) (by simp) ?_
            refine AllReadyV.cons (by simp only [List.getElem?_toArray, List.getElem?_cons_zero, List.getElem?_cons_succ]; rfl) (fun K hK => ?_) AllReadyV.nil
            refine step_append_lies (w120.alloc (.cells #[.int .i64 lo, .int .i64 hi] 39)) (by rfl) _ _ 25 (by rfl) w3.heap.size 39 j0 _ 2 16 Try.underlying25 HJ.out HJ0.out HJ1.out HJ2.out rfl (by omega) ve es.length (flatS es) (by rfl) HR121.out.oa ⟨w120.heap.size, 0, none⟩ 1 1 [.int .i64 lo, .int .i64 hi] (by rfl) (by rfl) (World.news_of_block Hns121.out) (by simp [Value.oneCell']) (by omega) (by unfold maxLen; omega) (by omega) HR121.out.size _ rfl ?_
            intro gns cns w122 hown hgrow hat hlt
            have HR122 := Lib.hid (HR121.out.app1 hgrow hown)
            have Hnn122 := Lib.hid (Hnn121.out.grown hgrow (own_ne HR121.out.oa Hnn121.out (by decide)))
            clear hown hgrow hat hlt
            try go_simp
            refine hK.out _ _ (behind_cons (fun _ => (HR122.out.md.dat.cell 1)) (behind_cons (fun _ => (HR122.out.md.whe.cell 1)) (fun p hp => by cases hp))) ?_
            clear hK K
            try simp only [Act.put, List.setIfInBounds_toArray, List.set_cons_zero, List.set_cons_succ]
            refine wpAnyV_free (i := 13) (v := ?_) (by simp only [List.getElem?_toArray, List.getElem?_cons_zero, List.getElem?_cons_succ]; rfl) (by kernel_rfl) (by kernel_rfl) (by kernel_rfl) (by kernel_rfl) (by exact fun _ _ _ h => h) (Or.inl ⟨by rfl, ?hyr38⟩) (behind_cons (fun h => by simp at h) (behind_cons (fun _ => (HR122.out.md.whe.cell 1)) (fun p hp => by cases hp))) ?restr38
            case hyr38 => (intro W' _; go_simp; try with_reducible rfl)
            try simp only [Act.put, List.setIfInBounds_toArray, List.set_cons_zero, List.set_cons_succ]
            refine wpAnyV_ready (rs := [12]) (by kernel_rfl) (by simp) ?_
            refine AllReadyV.cons (by simp only [List.getElem?_toArray, List.getElem?_cons_zero, List.getElem?_cons_succ]; rfl) (fun K hK => ?_) AllReadyV.nil
            refine step_append_lies w122 (by rfl) _ _ 22 (by rfl) w3.heap.size 3 i0 _ 1 8 Try.underlying22 HI.out HI0.out HI1.out HI2.out rfl (by omega) vf fs.length (intCells fs) (by rfl) HR122.out.ob ⟨V.heap.size, 0, none⟩ 1 1 [.int .i64 (base - (r : Int))] (by rfl) (by rfl) (World.news_of_block Hnn122.out) (by simp [Value.oneCell']) (by omega) (by unfold maxLen; omega) (by omega) HR122.out.size _ rfl ?_
            intro gnn cnn w123 hown hgrow hat hlt
            have HR123 := Lib.hid (HR122.out.app2 hgrow hown)
            clear hown hgrow hat hlt
            try go_simp
            refine hK.out _ _ (behind_cons (fun _ => (HR123.out.md.dat.cell 1)) (behind_cons (fun _ => (HR123.out.md.whe.cell 1)) (fun p hp => by cases hp))) ?_
            clear hK K
            try simp only [Act.put, List.setIfInBounds_toArray, List.set_cons_zero, List.set_cons_succ]
            refine wpAnyV_ready (rs := [14]) (by kernel_rfl) (by simp) ?_
            refine AllReadyV.cons (by simp only [List.getElem?_toArray, List.getElem?_cons_zero, List.getElem?_cons_succ]; rfl) (fun K hK => ?_) AllReadyV.nil
            have c124 : w123.cell? ⟨w1.heap.size, 1, none⟩ = some ve := HR123.out.md.dat.cell 1
            have f124 := HR123.out.md.dat.free 1
            go_simp
            clear c124 f124
            have HR124 := Lib.hid (HR123.out.put1 (.slice (some ⟨gns, 0, none⟩) (es.length + 1) cns))
            refine hK.out _ _ (behind_cons (fun h => by simp at h) (behind_cons (fun _ => (HR124.out.md.whe.cell 1)) (fun p hp => by cases hp))) ?_
            clear hK K
            try simp only [Act.put, List.setIfInBounds_toArray, List.set_cons_zero, List.set_cons_succ]
            refine wpAnyV_free (i := 15) (v := ?_) (by simp only [List.getElem?_toArray, List.getElem?_cons_zero, List.getElem?_cons_succ]; rfl) (by kernel_rfl) (by kernel_rfl) (by kernel_rfl) (by kernel_rfl) (by exact fun _ _ _ h => h) (Or.inl ⟨by rfl, ?hyr41⟩) (behind_cons (fun h => by simp at h) (behind_cons (fun h => by simp at h) (fun p hp => by cases hp))) ?restr41
            case hyr41 => (intro W' _; go_simp; try with_reducible rfl)
            try simp only [Act.put, List.setIfInBounds_toArray, List.set_cons_zero, List.set_cons_succ]
            refine wpAnyV_ready (rs := [16]) (by kernel_rfl) (by simp) ?_
            refine AllReadyV.cons (by simp only [List.getElem?_toArray, List.getElem?_cons_zero, List.getElem?_cons_succ]; rfl) (fun K hK => ?_) AllReadyV.nil
            have c125 : (w123.setCell ⟨w1.heap.size, 1, none⟩ (.slice (some ⟨gns, 0, none⟩) (es.length + 1) cns)).cell? ⟨w1.heap.size + 1, 1, none⟩ = some vf := HR124.out.md.whe.cell 1
            have f125 := HR124.out.md.whe.free 1
            go_simp
            clear c125 f125
            have HR125 := Lib.hid (HR124.out.putF (.slice (some ⟨gnn, 0, none⟩) (fs.length + 1) cnn))
            refine hK.out _ _ (behind_cons (fun h => by simp at h) (behind_cons (fun h => by simp at h) (fun p hp => by cases hp))) ?_
            clear hK K
            try simp only [Act.put, List.setIfInBounds_toArray, List.set_cons_zero, List.set_cons_succ]
            refine wpAnyV_done (by kernel_rfl) ?_ _
            go_wp2_with fail
            go_roundw
            case rel => exact ⟨q - 1, es ++ [(lo, hi)], fs ++ [base - (r : Int)], _, _, by go_num, by simp; omega, HE.out.snoc (lo, hi) _ (show SpanOk lo hi from ⟨l1, by omega, l4⟩) (show -1000 ≤ lo ∧ hi ≤ 1000 from ⟨by omega, by omega⟩) (show lo ≤ base - (r : Int) ∧ base - (r : Int) ≤ hi from ⟨l2, l3⟩) (by omega), HR125.out.snoc⟩
            case measure => simp [intOf]; omega
        · obtain rfl : q = 0 := by omega
          have hel : es.length ≤ 2 := by omega
          have hm3 : Mk g w wr w1.heap.size (w1.heap.size + 1) k ve (.slice none 0 0) (.slice A k cA) vf := hri.md
          have hsz := hri.size
          clear hri
          go_wp2_with fail
          refine (up_any _ _ _ (by omega) HR.out.md.urn).mono ?_
          rintro e w4 ⟨m0, rfl, hm0, hu4, hk4⟩
          have hri4 := HR.out.calls hu4 hk4
          have hni : NI g w w1.heap.size (w1.heap.size + 1) k w2.heap.size w3.heap.size w4.heap.size (.slice A k cA) ys ve es vf fs (.slice none 0 0) [] w4 :=
            ⟨hri4.md, hri4.oy, hri4.oa, hri4.ob, World.ownsRow_nil _ _ _ _, by simp, hw2, by have := hri4.base; omega, by have := hri4.size; omega, Nat.le_refl _⟩
          have HN4 := Lib.hid hni
          have hm8 : m0 ≤ nmax := by omega
          have HYS := Lib.hid HY.out
          obtain ⟨gy, hgy⟩ : ∃ gy, A = some ⟨gy, 0, none⟩ := by
            rcases hri4.oy.2 with ⟨_, h0⟩ | ⟨gy, cap, cur, e1, _⟩
            · rw [HYL.out] at h0
              omega
            · injection e1 with e1
              exact ⟨gy, e1⟩
          subst hgy
          clear hni hri4 hu4 hk4 hm0 hm3 HR hsz
          go_wp2_with fail
          refine notes_loop g nmax far base w w1.heap.size k w2.heap.size w3.heap.size gy cA m0 w4 ys fs es ve vf f1 f2 b1 (by omega) (by omega) n8 hm8 (by omega) HYL HYS HE hel _ _ _ _ _ _ _ _ _ _ _ _ _ _ _ _ _ _ _ _ _ _ _ _ _ _ _ _ _ _ _ _ _ _ _ _ _ _ _ _ _ _ _ _ _ _ _ _ _ _ _ _ _ _ _ _ _ _ _ _ _ _ _ _ _ _ _ _ _ _ _ _ _ _ _ _ _ _ _ _ _ _ _ _ _ _ _ _ _ _ _ _ _ _ _ _ _ _ _ _ _ _ _ _ _ _ _ _ _ _ _ _ _ _ _ _ _ _ _ _ _ _ _ _ _ _ _ _ _ _ _ _ _ _ _ _ _ _ _ _ _ _ _ _ _ _ _ _ _ _ _ _ _ _ _ _ _ _ _ _ _ _ _ _ _ _ _ _ _ _ _ _ _ _ _ _ _ _ _ _ _ _ _ _ _ _ _ _ _ _ _ _ _ _ _ _ _ _ _ _ _ _ _ _ _ _ _ _ _ _ _ _ _ _ _ _ _ _ _ _ _ _ _ _ _ _ _ _ _ _ _ HN4.out ?ex ?hqp
          case hqp => (intro c a dst v w h; cases dst <;> exact h)
          intro _ _ _ _ _ _ _ _ _ _ _ _ _ _ _ _ _ _ _ _ _ _ _ _ _ _ _ _ _ _ _ _ _ _ _ _ _ _ _ _ _ _ _ _ _ _ _ _ _ _ _ _ _ _ _ _ _ _ _ _ _ _ _ _ _ _ _ _ _ _ _ _ _ _ _ _ _ _ _ _ _ _ _ _ _ _ _ _ _ _ _ _ _ _ _ _ _ _ _ _ _ _ _ _ _ _ _ _ _ _ _ _ _ _ _ _ _ _ _ _ _ _ _ _ _ _ _ _ _ _ _ _ _ _ _ _ _ _ _ _ _ _ _ _ _ _ _ _ _ _ _ _ _ _ _ _ _ _ _ _ _ _ _ _ wo ⟨vn, xs, hxm, hfn, hni⟩
          have HN := Lib.hid hni
          have HF := Lib.hid hfn
          clear hni hfn HN4
          obtain ⟨Ae, ce, rfl⟩ := own_slice HN.out.oe
          obtain ⟨Af, cf, rfl⟩ := own_slice HN.out.of
          obtain ⟨An, cn, rfl⟩ := own_slice HN.out.on
          have c0 : wo.cell? ⟨w1.heap.size, 0, none⟩ = some (.int .i64 k) := HN.out.md.dat.cell 0
          have c1 : wo.cell? ⟨w1.heap.size, 1, none⟩ = some (.slice Ae es.length ce) := HN.out.md.dat.cell 1
          have c2 : wo.cell? ⟨w1.heap.size, 2, none⟩ = some (.slice An xs.length cn) := HN.out.md.dat.cell 2
          have c3 : wo.cell? ⟨w1.heap.size + 1, 0, none⟩ = some (.slice (some ⟨gy, 0, none⟩) k cA) := HN.out.md.whe.cell 0
          have c4 : wo.cell? ⟨w1.heap.size + 1, 1, none⟩ = some (.slice Af fs.length cf) := HN.out.md.whe.cell 1
          have z0 : wo.cell? ⟨w.heap.size, 0, none⟩ = some (.int .i64 0) := HN.out.md.r8.cell 0
          have z1 : wo.cell? ⟨w.heap.size, 1, none⟩ = some (.slice none 0 0) := HN.out.md.r8.cell 1
          have z2 : wo.cell? ⟨w.heap.size, 2, none⟩ = some (.slice none 0 0) := HN.out.md.r8.cell 2
          have z3 : wo.cell? ⟨w.heap.size + 1, 0, none⟩ = some (.slice none 0 0) := HN.out.md.r9.cell 0
          have z4 : wo.cell? ⟨w.heap.size + 1, 1, none⟩ = some (.slice none 0 0) := HN.out.md.r9.cell 1
          have f0 := HN.out.md.r8.free 0
          have f1 := HN.out.md.r8.free 1
          have f2 := HN.out.md.r8.free 2
          have f3 := HN.out.md.r9.free 0
          have f4 := HN.out.md.r9.free 1
          have n1 := HN.out.md.nD
          have n2 : w1.heap.size ≠ w.heap.size := by omega
          have n3 : w1.heap.size ≠ w.heap.size + 1 := by omega
          have n4 : w1.heap.size + 1 ≠ w.heap.size := by omega
          have n5 : w1.heap.size + 1 ≠ w.heap.size + 1 := by omega
          go_wp2_with fail
          go_region
          all_goals
            go_wp2_with fail
            clear c0 c1 c2 c3 c4 z0 z1 z2 z3 z4 f0 f1 f2 f3 f4 n1 n2 n3 n4 n5
            obtain ⟨U, hU⟩ : ∃ U, U = (((((wo.setCell ⟨w.heap.size, 0, none⟩ (.int .i64 k)).setCell ⟨w.heap.size, 1, none⟩ (.slice Ae es.length ce)).setCell ⟨w.heap.size, 2, none⟩ (.slice An xs.length cn)).setCell ⟨w.heap.size + 1, 0, none⟩ (.slice (some ⟨gy, 0, none⟩) k cA)).setCell ⟨w.heap.size + 1, 1, none⟩ (.slice Af fs.length cf)).drew := ⟨_, rfl⟩
            have hdn := HN.out.md.done (.int .i64 k) (.slice Ae es.length ce) (.slice An xs.length cn) (.slice (some ⟨gy, 0, none⟩) k cA) (.slice Af fs.length cf)
            unfold puts9 puts8 at hdn
            rw [← hU] at hdn ⊢
            clear hU
            obtain ⟨k8, k9, hfx, huU, hkU⟩ := hdn
            refine bodyPost_ret (results_cell_row2 Try.results10 _ _ w.heap.size (w.heap.size + 1) 28 30 _ _ _ _ rfl rfl k8 k9 Try.underlying28 Try.underlying30 rfl rfl (by kernel_rfl) (by kernel_rfl)) rfl ?_
            exact ⟨⟨k, es, xs.map Prod.fst⟩, ys, fs, _, _, _, rfl, made_mk b1 (by omega) (by omega) (by omega) (by omega) HYL.out (fun z hz => by have := HYS.out z hz; omega) HE.out hel (fun n hn => by
              obtain ⟨p, hp, rfl⟩ := List.mem_map.1 hn
              exact HF.out p hp) (by simp; omega) (by simp; omega), HN.out.dat.fx hfx (fun b t _ _ ht => by rcases ht with rfl | rfl | rfl <;> decide), own_fx (HN.out.oy.mono HN.out.b1) hfx (fun _ _ _ _ => by decide), own_fx (HN.out.of.mono (Nat.le_trans HN.out.b1 HN.out.b2)) hfx (fun _ _ _ _ => by decide), huU, hkU⟩
end Go.Proofs.Ytcbdcdpoackplaa
