/- little, walked. · What DateEnds holds: an urn, a small dating, all truths, and rows of its own. -/
import Derived.Test.YtmfjfjahemlhkaaGreatPq
namespace Go.Proofs.YtmfjfjahemlhkaaGreat
section
open Go.RowKit Dt

def LittlePost (g : Nat) (w : World) (e : Ending) (w' : World) : Prop := ∃ (v : Value) (d : Dat), e = .returned v ∧ Little d ∧ DatO w' w.heap.size v d ∧ UrnAt w' g ∧ Kg g w w'
set_option maxRecDepth 100000 in
set_option maxHeartbeats 8000000 in
theorem little_any (g : Nat) (w : World) (hu : UrnAt w g) : Calls Tryz.prog 6 #[.pointer (some ⟨g, 0, none⟩)] w (LittlePost g w) := by
  have HU := Lib.hid hu
  have hgz := hu.size
  obtain ⟨kI, hi, hz0, hz1, hz2⟩ := info_parts info_napi
  have HQ := Lib.hid hi
  have HQ0 := Lib.hid hz0
  have HQ1 := Lib.hid hz1
  have HQ2 := Lib.hid hz2
  clear hi hz0 hz1 hz2
  obtain ⟨kS, hi, hz0, hz1, hz2⟩ := info_parts info_span
  have HS0 := Lib.hid hi
  have HS1 := Lib.hid hz0
  have HS2 := Lib.hid hz1
  have HS3 := Lib.hid hz2
  clear hi hz0 hz1 hz2
  obtain ⟨kN, hi, hz0, hz1, hz2⟩ := info_parts info_num
  have HI := Lib.hid hi
  have HI0 := Lib.hid hz0
  have HI1 := Lib.hid hz1
  have HI2 := Lib.hid hz2
  clear hi hz0 hz1 hz2 hu
  go_enter Tryz.func6, Tryz.ntmps6
  go_wp2_with fail
  refine (from_any g 1 3 _ (by omega) (by omega) (by omega) (by omega) (HU.out.alloc _)).mono ?_
  rintro e w1 ⟨sI, rfl, s1, s2', hu, hk⟩
  obtain ⟨st, rfl⟩ : ∃ st : Nat, sI = (st : Int) := ⟨sI.toNat, by omega⟩
  have hst1 : 1 ≤ st := by omega
  have hst3 : st ≤ 3 := by omega
  have hb2 : Blok w1 w.heap.size 28 zeroD := (Blok.new w _ _).kg hk (by omega)
  have HU1 := Lib.hid hu
  have HK1 := Lib.hid (((Kg.refl g w).alloc _).trans hk)
  have HB2 := Lib.hid hb2
  have hwz := hb2.size
  clear hu hk hb2 s1 s2' HU
  go_upto_region 2 with fail
  obtain ⟨w2, hw2⟩ : ∃ w2, w2 = w1.alloc (.cells #[.int .i64 st, .slice none 0 0, .slice none 0 0] 28) := ⟨_, rfl⟩
  obtain ⟨bd, hbd⟩ : ∃ bd, bd = w1.heap.size := ⟨_, rfl⟩
  have hlb : LB w g bd st (.slice none 0 0) (.slice none 0 0) (.slice none 0 0) [] (.slice none 0 0) [] w2 := by
    rw [hw2, hbd]
    exact ⟨HU1.out.alloc _, HK1.out.alloc _, HB2.out.alloc _, Blok.new w1 _ _, hwz, World.ownsRow_nil _ _ _ _, [], rfl, World.ownsRow_nil _ _ _ _, by simp⟩
  rw [← hw2, ← hbd]
  have HS := Lib.hid hlb
  clear hlb hw2 hbd HU1 HK1 HB2 hwz
  go_wp2_with fail
  refine (up_any _ _ _ (by omega) HS.out.urn).mono ?_
  rintro e w3 ⟨r1, rfl, hr1, hu, hk⟩
  have hr1 : r1 ≤ 1 := by omega
  have HS3' := Lib.hid (HS.out.calls hu hk)
  clear hu hk HS
  go_wp2_with fail
  go_loopg [4] r1 (fun r i wr => ∃ (es : List (Int × Int)) (va : Value), i = .int .i64 (r : Nat) ∧ es.length + r = r1 ∧ EsOk es ∧ LB w g bd st va (.slice none 0 0) va es (.slice none 0 0) [] wr)
  case atStart => exact ⟨[], _, rfl, by simp, by simp [EsOk], HS3'.out⟩
  case round =>
    clear HS3'
    obtain ⟨es, va, rfl, her, hes, hs⟩ := hrel
    have HS := Lib.hid hs
    have HES := Lib.hid hes
    clear hs hes
    obtain ⟨Aa, ca, rfl⟩ := own_slice HS.out.oe
    obtain ⟨ne, hne⟩ : ∃ ne, ne = es.length := ⟨_, rfl⟩
    have HNE := Lib.hid hne
    have hne1 : ne ≤ 1 := by omega
    rw [← hne] at HS her
    clear hne
    by_cases h0 : 0 < gk
    · obtain ⟨g0, hg0⟩ : ∃ g0, g0 = gk - 1 := ⟨_, rfl⟩
      have q0 : IntKind.i64.wrap ((gk : Int) - 1) = (g0 : Int) := by
        have : IntKind.i64.wrap ((gk : Int) - 1) = (gk : Int) - 1 := IntWalk.i64_in _ (by omega)
        omega
      have h0' : (0 : Int) < (gk : Int) := by omega
      go_wp2_with fail
      refine wp_region_v [(fun j => j == 1 || j == 3 || j == 4 || j == 5 || j == 6, fun W => W.cell? ⟨bd, 1, none⟩ = some (.slice Aa ne ca))] (by kernel_rfl) ?_
      refine wpAnyV_world (fun W => LB w g bd st (.slice Aa ne ca) (.slice none 0 0) (.slice Aa ne ca) es (.slice none 0 0) [] W) HS.out.drew (fun V hV => ?_)
      have HV := Lib.hid hV
      clear hV
      refine wpAnyV_free (i := 0) (v := ?_) (by simp only [List.getElem?_toArray, List.getElem?_cons_zero]; rfl) (by kernel_rfl) (by kernel_rfl) (by kernel_rfl) (by kernel_rfl) (by exact fun _ _ _ h => h) (Or.inl ⟨by rfl, ?hya2⟩) (behind_cons (fun h => by simp at h) (fun p hp => by cases hp)) ?resta2
      case hya2 => (intro W' _; go_simp; try with_reducible rfl)
      try simp only [Act.put, List.setIfInBounds_toArray, List.set_cons_zero, List.set_cons_succ]
      refine wpAnyV_free (i := 2) (v := ?_) (by simp only [List.getElem?_toArray, List.getElem?_cons_zero, List.getElem?_cons_succ]; rfl) (by kernel_rfl) (by kernel_rfl) (by kernel_rfl) (by kernel_rfl) (by exact fun _ _ _ h => h) (Or.inl ⟨by rfl, ?hya3⟩) (behind_cons (fun h => by simp at h) (fun p hp => by cases hp)) ?resta3
      case hya3 => (intro W' _; go_simp; try with_reducible rfl)
      try simp only [Act.put, List.setIfInBounds_toArray, List.set_cons_zero, List.set_cons_succ]
      refine wpAnyV_take (i := 1) (m := 0) (v := ?_) (by simp only [List.getElem?_toArray, List.getElem?_cons_zero, List.getElem?_cons_succ]; rfl) (by rfl) (by kernel_rfl) (by kernel_rfl) (by kernel_rfl) (by kernel_rfl) (by exact fun _ _ _ h => h) (Or.inl ⟨by rfl, ?hya4⟩) ((HV.out.kd.cell 1)) (behind_cons (fun _ => (HV.out.kd.cell 1)) (fun p hp => by cases hp)) ?resta4
      case hya4 => (intro W' hSW; go_simp; try with_reducible rfl)
      try simp only [Act.put, List.setIfInBounds_toArray, List.set_cons_zero, List.set_cons_succ]
      refine wpAnyV_ready (rs := [3]) (by kernel_rfl) (by simp) ?_
      refine AllReadyV.cons (by simp only [List.getElem?_toArray, List.getElem?_cons_zero, List.getElem?_cons_succ]; rfl) (fun K hK => ?_) AllReadyV.nil
      go_simp
      go_at_call 26
      refine (urnSpan_any g (-2) (2) _ (by omega) (by omega) (by omega) HV.out.urn).mono ?_
      rintro e w501 ⟨a, b, rfl, a1, a2, a3, hu, hk⟩
      have HC501 := Lib.hid (HV.out.calls hu hk)
      clear hu hk
      refine hK.out _ _ (behind_cons (fun _ => (HC501.out.kd.cell 1)) (fun p hp => by cases hp)) ?_
      clear hK K
      try simp only [Act.put, List.setIfInBounds_toArray, List.set_cons_zero, List.set_cons_succ]
      refine wpAnyV_ready (rs := [4]) (by kernel_rfl) (by simp) ?_
      refine AllReadyV.cons (by simp only [List.getElem?_toArray, List.getElem?_cons_zero, List.getElem?_cons_succ]; rfl) (fun K hK => ?_) AllReadyV.nil
      go_simp
      have HC502 := Lib.hid (HC501.out.alloc (.cells #[.int .i64 a, .int .i64 b] 33))
      have HNB := Lib.hid (Blok.new w501 33 [.int .i64 a, .int .i64 b])
      refine hK.out _ _ (behind_cons (fun _ => (HC502.out.kd.cell 1)) (fun p hp => by cases hp)) ?_
      clear hK K
      try simp only [Act.put, List.setIfInBounds_toArray, List.set_cons_zero, List.set_cons_succ]
      refine wpAnyV_ready (rs := [5]) (by kernel_rfl) (by simp) ?_
      refine AllReadyV.cons (by simp only [List.getElem?_toArray, List.getElem?_cons_zero, List.getElem?_cons_succ]; rfl) (fun K hK => ?_) AllReadyV.nil
      have hoe := HC502.out.oe
      rw [← HNE.out] at hoe
      refine step_append_lies (w501.alloc (.cells #[.int .i64 a, .int .i64 b] 33)) (by rfl) _ _ 25 (by rfl) w.heap.size 33 kS _ 2 16 Tryz.underlying25 HS0.out HS1.out HS2.out HS3.out rfl (by omega) (.slice Aa ne ca) ne (flatS es) (by rfl) hoe ⟨w501.heap.size, 0, none⟩ 1 1 [.int .i64 a, .int .i64 b] (by rfl) (by rfl) (World.news_of_block HNB.out) (by simp [Value.oneCell']) (by omega) (by unfold maxLen; omega) (by omega) HC502.out.kg.size _ rfl ?_
      intro g8 c8 w503 hown hgrow hat hlt8
      have HC503 := Lib.hid (HC502.out.span (s := (a, b)) hgrow (by rw [← HNE.out]; exact hown))
      clear hown hgrow hat hlt8 hoe
      try go_simp
      refine hK.out _ _ (behind_cons (fun _ => (HC503.out.kd.cell 1)) (fun p hp => by cases hp)) ?_
      clear hK K
      try simp only [Act.put, List.setIfInBounds_toArray, List.set_cons_zero, List.set_cons_succ]
      refine wpAnyV_free (i := 6) (v := ?_) (by simp only [List.getElem?_toArray, List.getElem?_cons_zero, List.getElem?_cons_succ]; rfl) (by kernel_rfl) (by kernel_rfl) (by kernel_rfl) (by kernel_rfl) (by exact fun _ _ _ h => h) (Or.inl ⟨by rfl, ?hya8⟩) (behind_cons (fun _ => (HC503.out.kd.cell 1)) (fun p hp => by cases hp)) ?resta8
      case hya8 => (intro W' _; go_simp; try with_reducible rfl)
      try simp only [Act.put, List.setIfInBounds_toArray, List.set_cons_zero, List.set_cons_succ]
      refine wpAnyV_ready (rs := [7]) (by kernel_rfl) (by simp) ?_
      refine AllReadyV.cons (by simp only [List.getElem?_toArray, List.getElem?_cons_zero, List.getElem?_cons_succ]; rfl) (fun K hK => ?_) AllReadyV.nil
      have x0 : w503.cell? ⟨bd, 1, none⟩ = some (.slice Aa ne ca) := HC503.out.kd.cell 1
      have y0 := HC503.out.kd.free 1
      go_simp
      clear x0 y0
      have HC504 := Lib.hid (HC503.out.put (i := 1) (u := .slice (some ⟨g8, 0, none⟩) (ne + 1) c8) rfl)
      refine hK.out _ _ (behind_cons (fun h => by simp at h) (fun p hp => by cases hp)) ?_
      clear hK K
      try simp only [Act.put, List.setIfInBounds_toArray, List.set_cons_zero, List.set_cons_succ]
      refine wpAnyV_done (by kernel_rfl) ?_ _
      go_wp2_with fail
      go_roundg (gk - 1)
      case measure => omega
      case rel => exact ⟨es ++ [(a, b)], _, by rw [← hg0], by rw [List.length_append, ← HNE.out]; simp; omega, fun s hs => by
        rcases List.mem_append.1 hs with hs | hs
        · exact HES.out s hs
        · rw [List.mem_singleton.1 hs]; exact ⟨a1, a2, a3⟩, HC504.out⟩
    · have hg0 : gk = 0 := by omega
      subst hg0
      clear h0 her hr1
      go_wp2_with fail
      go_loopg [5] st (fun r i wr => ∃ (k : Nat) (l : List Nt) (vb : Value), i = .int .i64 (k : Nat) ∧ k + r = st ∧ l.length = k ∧ Firsts_ k l ∧ LB w g bd st (.slice Aa ne ca) vb (.slice Aa ne ca) es vb l wr)
      case atStart => exact ⟨0, [], _, rfl, by omega, rfl, by simp [Firsts_], HS.out⟩
      case round =>
        clear HS
        obtain ⟨k, l, vb, rfl, hkr, hlk, hfi, hs⟩ := hrel
        have HS := Lib.hid hs
        have HFI := Lib.hid hfi
        have HLK := Lib.hid hlk
        clear hs hfi hlk
        obtain ⟨Bn, bn, rfl⟩ : ∃ A c, vb = .slice A l.length c := by
          obtain ⟨xs, _, h1, _⟩ := HS.out.no
          exact own_slice h1
        rw [HLK.out] at HS
        have d0 := HS.out.kd.cell 0
        simp at d0
        by_cases hlt : k < st
        · go_wp2_with fail
          clear d0
          refine wp_region_v [(fun j => j == 1 || j == 4 || j == 5 || j == 6 || j == 7 || j == 8, fun W => W.cell? ⟨bd, 2, none⟩ = some (.slice Bn k bn))] (by kernel_rfl) ?_
          refine wpAnyV_world (fun W => LB w g bd st (.slice Aa ne ca) (.slice Bn k bn) (.slice Aa ne ca) es (.slice Bn k bn) l W) HS.out.drew (fun V hV => ?_)
          have HV := Lib.hid hV
          clear hV
          refine wpAnyV_free (i := 0) (v := ?_) (by simp only [List.getElem?_toArray, List.getElem?_cons_zero]; rfl) (by kernel_rfl) (by kernel_rfl) (by kernel_rfl) (by kernel_rfl) (by exact fun _ _ _ h => h) (Or.inl ⟨by rfl, ?hyb2⟩) (behind_cons (fun h => by simp at h) (fun p hp => by cases hp)) ?restb2
          case hyb2 => (intro W' _; go_simp; try with_reducible rfl)
          try simp only [Act.put, List.setIfInBounds_toArray, List.set_cons_zero, List.set_cons_succ]
          refine wpAnyV_free (i := 2) (v := ?_) (by simp only [List.getElem?_toArray, List.getElem?_cons_zero, List.getElem?_cons_succ]; rfl) (by kernel_rfl) (by kernel_rfl) (by kernel_rfl) (by kernel_rfl) (by exact fun _ _ _ h => h) (Or.inl ⟨by rfl, ?hyb3⟩) (behind_cons (fun h => by simp at h) (fun p hp => by cases hp)) ?restb3
          case hyb3 => (intro W' _; go_simp; try with_reducible rfl)
          try simp only [Act.put, List.setIfInBounds_toArray, List.set_cons_zero, List.set_cons_succ]
          refine wpAnyV_free (i := 3) (v := ?_) (by simp only [List.getElem?_toArray, List.getElem?_cons_zero, List.getElem?_cons_succ]; rfl) (by kernel_rfl) (by kernel_rfl) (by kernel_rfl) (by kernel_rfl) (by exact fun _ _ _ h => h) (Or.inl ⟨by rfl, ?hyb4⟩) (behind_cons (fun h => by simp at h) (fun p hp => by cases hp)) ?restb4
          case hyb4 => (intro W' _; go_simp; try with_reducible rfl)
          try simp only [Act.put, List.setIfInBounds_toArray, List.set_cons_zero, List.set_cons_succ]
          refine wpAnyV_take (i := 1) (m := 0) (v := ?_) (by simp only [List.getElem?_toArray, List.getElem?_cons_zero, List.getElem?_cons_succ]; rfl) (by rfl) (by kernel_rfl) (by kernel_rfl) (by kernel_rfl) (by kernel_rfl) (by exact fun _ _ _ h => h) (Or.inl ⟨by rfl, ?hyb5⟩) ((HV.out.kd.cell 2)) (behind_cons (fun _ => (HV.out.kd.cell 2)) (fun p hp => by cases hp)) ?restb5
          case hyb5 => (intro W' hSW; go_simp; try with_reducible rfl)
          try simp only [Act.put, List.setIfInBounds_toArray, List.set_cons_zero, List.set_cons_succ]
          refine wpAnyV_ready (rs := [4]) (by kernel_rfl) (by simp) ?_
          refine AllReadyV.cons (by simp only [List.getElem?_toArray, List.getElem?_cons_zero, List.getElem?_cons_succ]; rfl) (fun K hK => ?_) AllReadyV.nil
          go_simp
          go_at_call 26
          refine (urnSpan_any g (0) (7) _ (by omega) (by omega) (by omega) HV.out.urn).mono ?_
          rintro e w505 ⟨a, b, rfl, a1, a2, a3, hu, hk⟩
          have HC505 := Lib.hid (HV.out.calls hu hk)
          clear hu hk
          refine hK.out _ _ (behind_cons (fun _ => (HC505.out.kd.cell 2)) (fun p hp => by cases hp)) ?_
          clear hK K
          try simp only [Act.put, List.setIfInBounds_toArray, List.set_cons_zero, List.set_cons_succ]
          refine wpAnyV_free (i := 5) (v := ?_) (by simp only [List.getElem?_toArray, List.getElem?_cons_zero, List.getElem?_cons_succ]; rfl) (by kernel_rfl) (by kernel_rfl) (by kernel_rfl) (by kernel_rfl) (by exact fun _ _ _ h => h) (Or.inl ⟨by rfl, ?hyb7⟩) (behind_cons (fun _ => (HC505.out.kd.cell 2)) (fun p hp => by cases hp)) ?restb7
          case hyb7 => (intro W' _; go_simp; try with_reducible rfl)
          try simp only [Act.put, List.setIfInBounds_toArray, List.set_cons_zero, List.set_cons_succ]
          refine wpAnyV_ready (rs := [6]) (by kernel_rfl) (by simp) ?_
          refine AllReadyV.cons (by simp only [List.getElem?_toArray, List.getElem?_cons_zero, List.getElem?_cons_succ]; rfl) (fun K hK => ?_) AllReadyV.nil
          go_simp
          have HC506 := Lib.hid (HC505.out.alloc (.cells #[.int .i64 2, .int .i64 k, .int .i64 0, .slice none 0 0, .int .i64 a, .int .i64 b] 64))
          have HNB := Lib.hid (Blok.new w505 64 [.int .i64 2, .int .i64 k, .int .i64 0, .slice none 0 0, .int .i64 a, .int .i64 b])
          refine hK.out _ _ (behind_cons (fun _ => (HC506.out.kd.cell 2)) (fun p hp => by cases hp)) ?_
          clear hK K
          try simp only [Act.put, List.setIfInBounds_toArray, List.set_cons_zero, List.set_cons_succ]
          refine wpAnyV_ready (rs := [7]) (by kernel_rfl) (by simp) ?_
          refine AllReadyV.cons (by simp only [List.getElem?_toArray, List.getElem?_cons_zero, List.getElem?_cons_succ]; rfl) (fun K hK => ?_) AllReadyV.nil
          obtain ⟨xs9, hxs, hon, hyr⟩ := HC506.out.no
          rw [HLK.out] at hon
          refine step_append_lies (w505.alloc (.cells #[.int .i64 2, .int .i64 k, .int .i64 0, .slice none 0 0, .int .i64 a, .int .i64 b] 64)) (by rfl) _ _ 26 (by rfl) w.heap.size 64 kI _ 6 64 Tryz.underlying26 HQ.out HQ0.out HQ1.out HQ2.out rfl (by omega) (.slice Bn k bn) k (cellsN xs9) (by rfl) hon ⟨w505.heap.size, 0, none⟩ 1 1 [.int .i64 2, .int .i64 k, .int .i64 0, .slice none 0 0, .int .i64 a, .int .i64 b] (by rfl) (by rfl) (World.news_of_block HNB.out) (by simp [Value.oneCell']) (by omega) (by unfold maxLen; omega) (by omega) HC506.out.kg.size _ rfl ?_
          intro g8 c8 w507 hown hgrow hat hlt8
          have HC507 := Lib.hid (HC506.out.note (x := spanN k a b) (vy := .slice none 0 0) hxs (by rw [HLK.out]; exact hon) hyr hgrow (by rw [HLK.out]; exact hown) (World.ownsRow_nil _ _ _ _))
          clear hown hgrow hat hlt8 hon hyr hxs
          try go_simp
          refine hK.out _ _ (behind_cons (fun _ => (HC507.out.kd.cell 2)) (fun p hp => by cases hp)) ?_
          clear hK K
          try simp only [Act.put, List.setIfInBounds_toArray, List.set_cons_zero, List.set_cons_succ]
          refine wpAnyV_free (i := 8) (v := ?_) (by simp only [List.getElem?_toArray, List.getElem?_cons_zero, List.getElem?_cons_succ]; rfl) (by kernel_rfl) (by kernel_rfl) (by kernel_rfl) (by kernel_rfl) (by exact fun _ _ _ h => h) (Or.inl ⟨by rfl, ?hyb10⟩) (behind_cons (fun _ => (HC507.out.kd.cell 2)) (fun p hp => by cases hp)) ?restb10
          case hyb10 => (intro W' _; go_simp; try with_reducible rfl)
          try simp only [Act.put, List.setIfInBounds_toArray, List.set_cons_zero, List.set_cons_succ]
          refine wpAnyV_ready (rs := [9]) (by kernel_rfl) (by simp) ?_
          refine AllReadyV.cons (by simp only [List.getElem?_toArray, List.getElem?_cons_zero, List.getElem?_cons_succ]; rfl) (fun K hK => ?_) AllReadyV.nil
          have x0 : w507.cell? ⟨bd, 2, none⟩ = some (.slice Bn k bn) := HC507.out.kd.cell 2
          have y0 := HC507.out.kd.free 2
          go_simp
          clear x0 y0
          have HC508 := Lib.hid (HC507.out.put (i := 2) (u := .slice (some ⟨g8, 0, none⟩) (k + 1) c8) rfl)
          refine hK.out _ _ (behind_cons (fun h => by simp at h) (fun p hp => by cases hp)) ?_
          clear hK K
          try simp only [Act.put, List.setIfInBounds_toArray, List.set_cons_zero, List.set_cons_succ]
          refine wpAnyV_done (by kernel_rfl) ?_ _
          obtain ⟨w7, hw7⟩ : ∃ w7, w7 = (w507.setCell ⟨bd, 2, none⟩ (.slice (some ⟨g8, 0, none⟩) (k + 1) c8)) := ⟨_, rfl⟩
          have HS7 := HC508
          rw [← hw7] at HS7 ⊢
          clear hw7
          have hl7 : (l ++ [spanN k a b]).length = k + 1 := by rw [List.length_append, HLK.out]; rfl
          have HL7 := Lib.hid hl7
          have HF7 := Lib.hid (show Firsts_ (k + 1) (l ++ [spanN k a b]) from fun j hj => by
            by_cases e : j < k
            · obtain ⟨lo, hi, p1, p2, p3, p4⟩ := HFI.out j e
              exact ⟨lo, hi, p1, p2, p3, by rw [List.getElem?_append_left (by rw [HLK.out]; exact e)]; exact p4⟩
            · obtain rfl : j = k := by omega
              exact ⟨a, b, a1, a2, a3, by rw [List.getElem?_append_right (by rw [HLK.out]; omega), HLK.out, Nat.sub_self]; rfl⟩)
          clear hl7
          go_wp2_with fail
          refine (odds_any _ _ _ _ (by omega) HS7.out.urn).mono ?_
          rintro e w8 ⟨bo, rfl, hu, hk⟩
          have HS8 := Lib.hid (HS7.out.calls hu hk)
          clear hu hk HS7
          cases bo
          · go_wp2_with fail
            go_roundg (gk - 1)
            case measure => omega
            case rel => exact ⟨k + 1, _, _, by go_num, by omega, HL7.out, HF7.out, HS8.out⟩
          · obtain ⟨xs8, hxs8, hon8, hyr8⟩ := HS8.out.no
            rw [HL7.out] at hon8
            obtain ⟨p, hp, hpn⟩ : ∃ p, xs8[k]? = some p ∧ p.1 = spanN k a b := by
              have hk1 : (l ++ [spanN k a b])[k]? = some (spanN k a b) := by rw [List.getElem?_append_right (by rw [HLK.out]; omega), HLK.out, Nat.sub_self]; rfl
              rw [← hxs8, List.getElem?_map] at hk1
              cases hq : xs8[k]? with
              | none => rw [hq] at hk1; simp at hk1
              | some p => rw [hq] at hk1; simp at hk1; exact ⟨p, rfl, hk1⟩
            have hgl8 := hon8.cellAt
            have z4 : w8.cell? ⟨g8, k * 6 + 4, none⟩ = some (.int .i64 a) := by
              rw [hon8.cellAt (k * 6 + 4) (by omega), cellsN_at xs8 k p 4 hp (by omega), hpn]
              rfl
            have z5 : w8.cell? ⟨g8, k * 6 + 5, none⟩ = some (.int .i64 b) := by
              rw [hon8.cellAt (k * 6 + 5) (by omega), cellsN_at xs8 k p 5 hp (by omega), hpn]
              rfl
            have hg8 := (hon8.lt g8 rfl).2
            have HZ4 := Lib.hid (fun (W : World) (hb : Below w8.heap.size w8 W) => (show W.cell? ⟨g8, k * 6 + 4, none⟩ = some (.int .i64 a) from (hb.cell (p := ⟨g8, k * 6 + 4, none⟩) hg8).trans z4))
            have HZ5 := Lib.hid (fun (W : World) (hb : Below w8.heap.size w8 W) => (show W.cell? ⟨g8, k * 6 + 5, none⟩ = some (.int .i64 b) from (hb.cell (p := ⟨g8, k * 6 + 5, none⟩) hg8).trans z5))
            have HFZ := Lib.hid (fun (W : World) (hb : Below w8.heap.size w8 W) (j : Nat) => (show W.frozen? ⟨g8, j, none⟩ = false from (own_fx hon8 (Fx.of_all hb) (fun _ _ _ _ => trivial)).frozenAt j))
            have hkk : (l ++ [spanN k a b])[k]? = some (spanN k a b) := by rw [List.getElem?_append_right (by rw [HLK.out]; omega), HLK.out, Nat.sub_self]; rfl
            have hset : (l ++ [spanN k a b]).set k (spanN k 0 7) = l ++ [spanN k 0 7] := by
              have := HLK.out
              rw [List.set_append_right _ _ (by omega), this, Nat.sub_self]
              rfl
            have HKK := Lib.hid hkk
            have HST := Lib.hid hset
            clear hxs8 hon8 hyr8 hp hpn hgl8 z4 z5 hkk hset
            have hkI : (k : Int) < (k : Int) + 1 := by omega
            go_wp2_with fail
            refine wp_region_v [(fun j => j == 1 || j == 3 || j == 5, fun W => W.cell? ⟨bd, 2, none⟩ = some (.slice (some ⟨g8, 0, none⟩) (k + 1) c8))] (by kernel_rfl) ?_
            refine wpAnyV_world (fun W => Below w8.heap.size w8 W) (show Below w8.heap.size w8 w8.drew from (Below.refl _ w8).drew) (fun V hV => ?_)
            have HV := Lib.hid hV
            clear hV
            refine wpAnyV_free (i := 0) (v := ?_) (by simp only [List.getElem?_toArray, List.getElem?_cons_zero]; rfl) (by kernel_rfl) (by kernel_rfl) (by kernel_rfl) (by kernel_rfl) (by exact fun _ _ _ h => h) (Or.inl ⟨by rfl, ?hyc2⟩) (behind_cons (fun h => by simp at h) (fun p hp => by cases hp)) ?restc2
            case hyc2 => (intro W' _; go_simp; try with_reducible rfl)
            try simp only [Act.put, List.setIfInBounds_toArray, List.set_cons_zero, List.set_cons_succ]
            refine wpAnyV_free (i := 2) (v := ?_) (by simp only [List.getElem?_toArray, List.getElem?_cons_zero, List.getElem?_cons_succ]; rfl) (by kernel_rfl) (by kernel_rfl) (by kernel_rfl) (by kernel_rfl) (by exact fun _ _ _ h => h) (Or.inl ⟨by rfl, ?hyc3⟩) (behind_cons (fun h => by simp at h) (fun p hp => by cases hp)) ?restc3
            case hyc3 => (intro W' _; go_simp; try with_reducible rfl)
            try simp only [Act.put, List.setIfInBounds_toArray, List.set_cons_zero, List.set_cons_succ]
            refine wpAnyV_take (i := 1) (m := 0) (v := ?_) (by simp only [List.getElem?_toArray, List.getElem?_cons_zero, List.getElem?_cons_succ]; rfl) (by rfl) (by kernel_rfl) (by kernel_rfl) (by kernel_rfl) (by kernel_rfl) (by exact fun _ _ _ h => h) (Or.inl ⟨by rfl, ?hyc4⟩) (((HS8.out.to HV.out).kd.cell 2)) (behind_cons (fun _ => ((HS8.out.to HV.out).kd.cell 2)) (fun p hp => by cases hp)) ?restc4
            case hyc4 => (intro W' hSW; go_simp; try with_reducible rfl)
            try simp only [Act.put, List.setIfInBounds_toArray, List.set_cons_zero, List.set_cons_succ]
            refine wpAnyV_ready (rs := [3]) (by kernel_rfl) (by simp) ?_
            refine AllReadyV.cons (by simp only [List.getElem?_toArray, List.getElem?_cons_zero, List.getElem?_cons_succ]; rfl) (fun K hK => ?_) AllReadyV.nil
            go_simp
            go_at_call 8
            (with_reducible refine (to_any 0 7 _).mono ?_)
            rintro e w509 ⟨rfl, hb⟩
            have HC509 := Lib.hid (HV.out.trans (hb.mono HV.out.size))
            clear hb
            refine hK.out _ _ (behind_cons (fun _ => ((HS8.out.to HC509.out).kd.cell 2)) (fun p hp => by cases hp)) ?_
            clear hK K
            try simp only [Act.put, List.setIfInBounds_toArray, List.set_cons_zero, List.set_cons_succ]
            refine wpAnyV_free (i := 4) (v := ?_) (by simp only [List.getElem?_toArray, List.getElem?_cons_zero, List.getElem?_cons_succ]; rfl) (by kernel_rfl) (by kernel_rfl) (by kernel_rfl) (by kernel_rfl) (by exact fun _ _ _ h => h) (Or.inl ⟨by rfl, ?hyc6⟩) (behind_cons (fun h => by simp at h) (fun p hp => by cases hp)) ?restc6
            case hyc6 => (intro W' _; go_simp; try with_reducible rfl)
            try simp only [Act.put, List.setIfInBounds_toArray, List.set_cons_zero, List.set_cons_succ]
            refine wpAnyV_free (i := 5) (v := ?_) (by simp only [List.getElem?_toArray, List.getElem?_cons_zero, List.getElem?_cons_succ]; rfl) (by kernel_rfl) (by kernel_rfl) (by kernel_rfl) (by kernel_rfl) (by exact fun _ _ _ h => h) (Or.inl ⟨by rfl, ?hyc7⟩) (behind_cons (fun _ => ((HS8.out.to HC509.out).kd.cell 2)) (fun p hp => by cases hp)) ?restc7
            case hyc7 => (intro W' _; go_simp; try with_reducible rfl)
            try simp only [Act.put, List.setIfInBounds_toArray, List.set_cons_zero, List.set_cons_succ]
            refine wpAnyV_ready (rs := [6]) (by kernel_rfl) (by simp) ?_
            refine AllReadyV.cons (by simp only [List.getElem?_toArray, List.getElem?_cons_zero, List.getElem?_cons_succ]; rfl) (fun K hK => ?_) AllReadyV.nil
            have x0 := HZ4.out _ HC509.out
            have x1 := HZ5.out _ HC509.out
            have y0 := HFZ.out _ HC509.out (k * 6 + 4)
            have y1 := HFZ.out _ HC509.out (k * 6 + 5)
            go_simp
            clear x0 x1 y0 y1
            refine hK.out _ _ (behind_cons (fun h => by simp at h) (fun p hp => by cases hp)) ?_
            clear hK K
            try simp only [Act.put, List.setIfInBounds_toArray, List.set_cons_zero, List.set_cons_succ]
            refine wpAnyV_done (by kernel_rfl) ?_ _
            have HLH := Lib.hid ((HS8.out.to HC509.out).lohi (a := 0) (b := 7) HKK.out)
            go_wp2_with fail
            go_roundg (gk - 1)
            case measure => omega
            case rel =>
              refine ⟨k + 1, l ++ [spanN k 0 7], .slice (some ⟨g8, 0, none⟩) (k + 1) c8, by go_num, by omega, by rw [List.length_append, HLK.out]; rfl, fun j hj => ?_, ?_⟩
              · by_cases e : j < k
                · obtain ⟨lo, hi, p1, p2, p3, p4⟩ := HFI.out j e
                  exact ⟨lo, hi, p1, p2, p3, by rw [List.getElem?_append_left (by rw [HLK.out]; exact e)]; exact p4⟩
                · obtain rfl : j = k := by omega
                  exact ⟨0, 7, by omega, by omega, by omega, by rw [List.getElem?_append_right (by rw [HLK.out]; omega), HLK.out, Nat.sub_self]; rfl⟩
              · have h := HLH.out
                rw [show (⟨(spanN k a b).kind, (spanN k a b).stone, (spanN k a b).other, (spanN k a b).years, 0, 7⟩ : Nt) = spanN k 0 7 from rfl, HST.out] at h
                exact h
        · obtain rfl : k = st := by omega
          go_wp2_with fail
          refine (up_any _ _ _ (by omega) HS.out.urn).mono ?_
          rintro e w4 ⟨r3, rfl, hr3, hu, hk⟩
          have hr3 : r3 ≤ 3 := by omega
          have HS4 := Lib.hid (HS.out.calls hu hk)
          have HOK := Lib.hid (show ∀ n ∈ l, n.Ok ⟨k, es, []⟩ from fun n hn => by
            obtain ⟨j, hj⟩ := List.getElem?_of_mem hn
            have hjk := (List.getElem?_eq_some_iff.1 hj).1
            rw [HLK.out] at hjk
            obtain ⟨lo, hi, p1, p2, p3, p4⟩ := HFI.out j hjk
            rw [hj] at p4
            injection p4 with p4
            rw [p4]
            exact spanN_ok hjk (by unfold SpanOk; omega))
          clear hu hk HS d0
          go_wp2_with fail
          obtain ⟨wo, rfl⟩ : ∃ wo : World, wo = wr := ⟨_, rfl⟩
          refine lnotes w _ g bd k ne ca r3 Aa _ es l HNE.out HLK.out (by omega) hst1 hst3 HOK.out HFI.out _ _ _ _ _ _ _ _ _ _ _ _ _ _ _ _ _ _ _ _ _ _ _ _ _ _ _ _ _ _ _ _ _ _ _ _ _ _ _ _ _ _ _ _ _ _ _ _ _ _ _ _ _ _ _ _ _ _ _ _ _ _ _ _ _ _ _ _ _ _ _ _ _ _ _ _ _ _ _ _ _ _ _ _ _ _ _ _ _ _ _ _ _ _ _ _ _ _ _ _ _ _ _ _ _ _ _ _ _ _ _ _ _ _ _ _ _ _ _ _ _ HS4.out ?hqp ?_
          case hqp => (intro c a dst v w h; cases dst <;> exact h)
          intro _ _ _ _ _ _ _ _ _ _ _ _ _ _ _ _ _ _ _ _ _ _ _ _ _ _ _ _ _ _ _ _ _ _ _ _ _ _ _ _ _ _ _ _ _ _ _ _ _ _ _ _ _ _ _ _ _ _ _ _ _ _ _ _ _ _ _ _ _ _ _ _ _ _ _ _ l2 vb2 wo hok2 hfi2 hl2 hs
          obtain ⟨Bn, bn, rfl⟩ : ∃ A c, vb2 = .slice A l2.length c := by
            obtain ⟨xs, _, h1, _⟩ := hs.no
            exact own_slice h1
          obtain ⟨m, hm⟩ : ∃ m, m = l2.length := ⟨_, rfl⟩
          rw [← hm] at hs hl2
          clear HS4 HOK HFI HLK
          have HS := Lib.hid hs
          have HMM := Lib.hid hm
          have HOK := Lib.hid hok2
          have HFI := Lib.hid hfi2
          clear hs hm hok2 hfi2
          have HLT := Lib.hid (show Little ⟨k, es, l2⟩ from ⟨⟨⟨by show 1 ≤ k; omega, by show k ≤ 6; omega⟩, ⟨by show es.length ≤ 3; rw [← HNE.out]; omega, fun s hs => by have := HES.out s hs; unfold SpanOk; omega⟩, ⟨by show l2.length ≤ 8; rw [← HMM.out]; omega, fun n hn => nt_ok (HOK.out n hn) rfl rfl⟩⟩, hst3, by show es.length ≤ 1; rw [← HNE.out]; exact hne1, fun s hs => by have := HES.out s hs; omega, fun i hi => by
            obtain ⟨lo, hi', p1, p2, p3, p4⟩ := HFI.out i hi
            exact ⟨lo, hi', p1, p3, List.mem_of_getElem? p4⟩⟩)
          have d0 := HS.out.kd.cell 0
          have e1 := HS.out.kd.cell 1
          have e2 := HS.out.kd.cell 2
          simp at d0 e1 e2
          have r0 : wo.cell? ⟨w.heap.size, 0, none⟩ = some (.int .i64 0) := HS.out.k2.cell 0
          have r1' : wo.cell? ⟨w.heap.size, 1, none⟩ = some (.slice none 0 0) := HS.out.k2.cell 1
          have r2 : wo.cell? ⟨w.heap.size, 2, none⟩ = some (.slice none 0 0) := HS.out.k2.cell 2
          have g0 := HS.out.k2.free 0
          have g1 := HS.out.k2.free 1
          have g2 := HS.out.k2.free 2
          go_wp2_with fail
          have hC := HS.out
          have hoe := hC.oe
          obtain ⟨xs, hxs, hon, hyr⟩ := hC.no
          have hgw : g ≠ w.heap.size := by omega
          refine bodyPost_ret (v := .agg #[.int .i64 k, .slice Aa ne ca, .slice Bn m bn]) ?_ rfl ⟨_, ⟨k, es, l2⟩, rfl, HLT.out, ⟨_, _, rfl, ?_, xs, hxs, ?_, fun p hp => ?_⟩, ((hC.urn.far (p := ⟨w.heap.size, 0, none⟩) hgw _).far (p := ⟨w.heap.size, 1, none⟩) hgw _).far (p := ⟨w.heap.size, 2, none⟩) hgw _, ((hC.kg.putNew (p := ⟨w.heap.size, 0, none⟩) (Nat.le_refl _) _).putNew (p := ⟨w.heap.size, 1, none⟩) (Nat.le_refl _) _).putNew (p := ⟨w.heap.size, 2, none⟩) (Nat.le_refl _) _⟩
          · exact results_cell_row Tryz.results6 _ _ w.heap.size 28 _ (0, 0) _ rfl (((hC.k2.put 0 (.int .i64 k)).put 1 (.slice Aa ne ca)).put 2 (.slice Bn m bn)) Tryz.underlying28 rfl (by kernel_rfl)
          · have h := own_far (own_far (own_far hoe (p := ⟨w.heap.size, 0, none⟩) (own_ne hoe hC.k2 (by decide)) (.int .i64 k)) (p := ⟨w.heap.size, 1, none⟩) (own_ne hoe hC.k2 (by decide)) (.slice Aa ne ca)) (p := ⟨w.heap.size, 2, none⟩) (own_ne hoe hC.k2 (by decide)) (.slice Bn m bn)
            exact h
          · have h := own_far (own_far (own_far hon (p := ⟨w.heap.size, 0, none⟩) (own_ne hon hC.k2 (by decide)) (.int .i64 k)) (p := ⟨w.heap.size, 1, none⟩) (own_ne hon hC.k2 (by decide)) (.slice Aa ne ca)) (p := ⟨w.heap.size, 2, none⟩) (own_ne hon hC.k2 (by decide)) (.slice Bn m bn)
            exact h
          · have hy := hyr p hp
            exact own_far (own_far (own_far hy (own_ne hy hC.k2 (by decide)) _) (own_ne hy hC.k2 (by decide)) _) (own_ne hy hC.k2 (by decide)) _
end
section
open Go.RowKit Dt

theorem WhensO.fx {p : Nat → TypeId → Prop} {w w' : World} {B : Nat} {v : Value} {l : List (List Int × List Int)} (h : WhensO w B v l) (hk : Fx p w w') (hp : ∀ b, B ≤ b → b < w.heap.size → p b 36 ∧ p b 3) : WhensO w' B v l := by
  obtain ⟨xs, h1, h2, h3⟩ := h
  exact ⟨xs, h1, own_fx h2 hk (fun b h1 h2 _ => (hp b h1 h2).1), fun p hq => ⟨own_fx (h3 p hq).1 hk (fun b h1 h2 _ => (hp b h1 h2).2), own_fx (h3 p hq).2 hk (fun b h1 h2 _ => (hp b h1 h2).2)⟩⟩
/-- Where the years of one truth lie. -/
theorem WhensO.at {w : World} {B g n c k : Nat} {l : List (List Int × List Int)} {q : List Int × List Int} (h : WhensO w B (.slice (some ⟨g, 0, none⟩) n c) l) (hq : l[k]? = some q) :
    ∃ v1 v2, w.cell? ⟨g, k * 2, none⟩ = some v1 ∧ w.cell? ⟨g, k * 2 + 1, none⟩ = some v2 ∧ IntsO w B v1 q.1 ∧ IntsO w B v2 q.2 := by
  obtain ⟨xs, hxs, hon, h3⟩ := h
  have hk : k < l.length := (List.getElem?_eq_some_iff.1 hq).1
  obtain ⟨p, hp, rfl⟩ : ∃ p, xs[k]? = some p ∧ p.1 = q := by
    rw [← hxs, List.getElem?_map] at hq
    cases hz : xs[k]? with
    | none => rw [hz] at hq; simp at hq
    | some p => rw [hz] at hq; simp at hq; exact ⟨p, rfl, hq⟩
  have hc := cellsW_at xs k p hp
  obtain ⟨A, c', e⟩ := own_slice hon
  injection e with e1 e2 e3
  subst e2
  exact ⟨p.2.1, p.2.2, (hon.cellAt (k * 2) (by omega)).trans hc.1, (hon.cellAt (k * 2 + 1) (by omega)).trans hc.2, h3 p (List.mem_of_getElem? hp)⟩
/-- A number of a row. -/
theorem IntsO.at {w : World} {B i : Nat} {v : Value} {l : List Int} (h : IntsO w B v l) (hi : i < l.length) : ∃ g c, v = .slice (some ⟨g, 0, none⟩) l.length c ∧ w.cell? ⟨g, i, none⟩ = some (.int .i64 (l.getD i 0)) := by
  obtain ⟨A, c, rfl⟩ := own_slice h
  obtain ⟨g, rfl⟩ := own_addr h (by omega)
  refine ⟨g, c, rfl, (h.cellAt i (by omega)).trans ?_⟩
  simp [intCells, List.getD, hi]
/-- What the law holds. -/
structure LE (w : World) (g bd : Nat) (d : Dat) (ve vn vt : Value) (L : List (List Int × List Int)) (R : List (Value × List (Int × Int))) (W : World) : Prop where
  urn : UrnAt W g
  hg : w.heap.size ≤ g
  below : Below w.heap.size w W
  kd : Blok W bd 28 [.int .i64 d.stones, ve, vn]
  hbd : w.heap.size ≤ bd
  es : SpansO W w.heap.size ve d.eras
  no : NotesO W w.heap.size vn d.notes
  tr : WhensO W w.heap.size vt L
  ow : ∀ r ∈ R, SpansO W w.heap.size r.1 r.2
section
variable {w W W' : World} {g bd : Nat} {d : Dat} {ve vn vt : Value} {L : List (List Int × List Int)} {R : List (Value × List (Int × Int))}
theorem LE.calls (h : LE w g bd d ve vn vt L R W) (hu : UrnAt W' g) (hk : Kg g W W') : LE w g bd d ve vn vt L R W' :=
  ⟨hu, h.hg, h.below.trans (hk.below h.below.size h.hg), h.kd.kg hk (h.urn.ne h.kd (by decide)), h.hbd, own_kg h.es h.urn (by decide) hk, h.no.fx (Fx.of_kg hk h.urn) (fun _ _ _ => ⟨by decide, by decide⟩), h.tr.fx (Fx.of_kg hk h.urn) (fun _ _ _ => ⟨by decide, by decide⟩), fun r hr => own_kg (h.ow r hr) h.urn (by decide) hk⟩
theorem LE.to (h : LE w g bd d ve vn vt L R W) (hk : Below W.heap.size W W') : LE w g bd d ve vn vt L R W' := h.calls (h.urn.keep hk h.urn.size) (Kg.of_below hk)
theorem LE.alloc (h : LE w g bd d ve vn vt L R W) (o : Obj) : LE w g bd d ve vn vt L R (W.alloc o) := h.to ((Below.refl _ W).alloc (Nat.le_refl _) o)
theorem LE.drew (h : LE w g bd d ve vn vt L R W) : LE w g bd d ve vn vt L R W.drew := h.to (Below.refl _ W).drew
theorem LE.dat (h : LE w g bd d ve vn vt L R W) : DatO W w.heap.size (.agg #[.int .i64 d.stones, ve, vn]) d := ⟨ve, vn, rfl, h.es, h.no⟩
theorem LE.row (h : LE w g bd d ve vn vt L R W) (k : Nat) {r : Value × List (Int × Int)} (hr : R[k]? = some r) : SpansO W w.heap.size r.1 r.2 := h.ow r (List.mem_of_getElem? hr)
theorem LE.add (h : LE w g bd d ve vn vt L R W) (r : Value × List (Int × Int)) (hr : SpansO W w.heap.size r.1 r.2) : LE w g bd d ve vn vt L (R ++ [r]) W :=
  ⟨h.urn, h.hg, h.below, h.kd, h.hbd, h.es, h.no, h.tr, fun q hq => by
    rcases List.mem_append.1 hq with hq | hq
    · exact h.ow q hq
    · rw [List.mem_singleton.1 hq]; exact hr⟩
end
/-- No row of spans lies in this block. -/
def Aside (bs : Nat) (ve : Value) (R : List (Value × List (Int × Int))) : Prop := ve.ownBlock ≠ some bs ∧ ∀ r ∈ R, r.1.ownBlock ≠ some bs
section
variable {w W W' : World} {g bd bs : Nat} {d : Dat} {ve vn vt : Value} {L : List (List Int × List Int)} {R : List (Value × List (Int × Int))} {cs : List Value}
theorem LE.aside (h : LE w g bd d ve vn vt L R W) (hs : bs = W.heap.size) : Aside bs ve R := by
  subst hs
  exact ⟨fun e => by have := (h.es.lt _ e).2; omega, fun r hr e => by have := ((h.ow r hr).lt _ e).2; omega⟩
theorem LE.put (h : LE w g bd d ve vn vt L R W) (hb : Blok W bs 33 cs) (hbs : w.heap.size ≤ bs) (ha : Aside bs ve R) (i : Nat) (u : Value) : LE w g bd d ve vn vt L R (W.setCell ⟨bs, i, none⟩ u) := by
  have hF := Fx.of_putT (x := ⟨bs, i, none⟩) hb u
  exact ⟨h.urn.far (h.urn.ne' hb (by decide)) u, h.hg, h.below.setCell (p := ⟨bs, i, none⟩) hbs u, h.kd.far (blok_ne h.kd hb (by decide)) u, h.hbd, own_far h.es ha.1 u, h.no.fx hF (fun _ _ _ => ⟨by decide, by decide⟩), h.tr.fx hF (fun _ _ _ => ⟨by decide, by decide⟩), fun r hr => own_far (h.ow r hr) (ha.2 r hr) u⟩
end
/-- What a loop over the truths has: a span in a variable of its own. -/
structure LS (w : World) (g bd : Nat) (d : Dat) (ve vn vt : Value) (L : List (List Int × List Int)) (R : List (Value × List (Int × Int))) (bs : Nat) (lo hi : Int) (W : World) : Prop where
  le : LE w g bd d ve vn vt L R W
  nb : Blok W bs 33 [.int .i64 lo, .int .i64 hi]
  ge : w.heap.size ≤ bs
  asd : Aside bs ve R
section
variable {w W W' : World} {g bd bs : Nat} {d : Dat} {ve vn vt : Value} {L : List (List Int × List Int)} {R : List (Value × List (Int × Int))} {lo hi : Int}
theorem LS.calls (h : LS w g bd d ve vn vt L R bs lo hi W) (hu : UrnAt W' g) (hk : Kg g W W') : LS w g bd d ve vn vt L R bs lo hi W' := ⟨h.le.calls hu hk, h.nb.kg hk (h.le.urn.ne h.nb (by decide)), h.ge, h.asd⟩
theorem LS.to (h : LS w g bd d ve vn vt L R bs lo hi W) (hk : Below W.heap.size W W') : LS w g bd d ve vn vt L R bs lo hi W' := h.calls (h.le.urn.keep hk h.le.urn.size) (Kg.of_below hk)
theorem LS.drew (h : LS w g bd d ve vn vt L R bs lo hi W) : LS w g bd d ve vn vt L R bs lo hi W.drew := h.to (Below.refl _ W).drew
theorem LS.store (h : LS w g bd d ve vn vt L R bs lo hi W) (a b : Int) : LS w g bd d ve vn vt L R bs a b ((W.setCell ⟨bs, 0, none⟩ (.int .i64 a)).setCell ⟨bs, 1, none⟩ (.int .i64 b)) :=
  ⟨(h.le.put h.nb h.ge h.asd 0 _).put (h.nb.put 0 _) h.ge h.asd 1 _, (h.nb.put 0 (.int .i64 a)).put 1 (.int .i64 b), h.ge, h.asd⟩
theorem LE.var (h : LE w g bd d ve vn vt L R W) (a b : Int) : LS w g bd d ve vn vt L R W.heap.size a b (W.alloc (.cells #[.int .i64 a, .int .i64 b] 33)) :=
  ⟨h.alloc _, Blok.new W _ _, h.below.size, h.aside rfl⟩
end
/-- The first so many of some numbers, and the next one. -/
theorem take_snoc {α β : Type} (f : α → β) (l : List α) (k : Nat) (q : α) (h : l[k]? = some q) : (l.take (k + 1)).map f = (l.take k).map f ++ [f q] := by
  rw [List.take_add_one, h]
  simp
theorem take_count {α : Type} (f : α → Bool) (l : List α) (k : Nat) (q : α) (h : l[k]? = some q) : (l.take (k + 1)).countP f = (l.take k).countP f + (if f q = true then 1 else 0) := by
  rw [List.take_add_one, h, List.countP_append]
  simp [List.countP_cons]
end
end Go.Proofs.YtmfjfjahemlhkaaGreat
