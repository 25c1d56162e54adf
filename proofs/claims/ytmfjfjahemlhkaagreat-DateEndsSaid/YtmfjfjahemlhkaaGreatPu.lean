/- DateEnds, walked. -/
import Derived.Test.YtmfjfjahemlhkaaGreatPt
namespace Go.Proofs.YtmfjfjahemlhkaaGreat
open Go.RowKit Dt

theorem grown_none {w W : World} (h : w.grownBy W (Value.slice none 0 0).ownBlock) : Below w.heap.size w W := ⟨h.os, h.tape, h.output, h.size, fun b hb => h.block b hb (by simp [Value.ownBlock])⟩
theorem LE.withTr {w W : World} {g bd : Nat} {d : Dat} {ve vn vt vt' : Value} {L L' : List (List Int × List Int)} {R : List (Value × List (Int × Int))} (h : LE w g bd d ve vn vt L R W) (ht : WhensO W w.heap.size vt' L') : LE w g bd d ve vn vt' L' R W :=
  ⟨h.urn, h.hg, h.below, h.kd, h.hbd, h.es, h.no, ht, h.ow⟩
set_option maxRecDepth 100000 in
set_option maxHeartbeats 8000000 in
theorem ends_walk (a0 : Option Addr) (len cap : Nat) (w : World) (hr : NumRow w a0 len) :
    Calls Tryz.prog 3 #[.slice a0 len cap] w fun e w' => e = .returned (.bool true) ∧ Below w.heap.size w w' := by
  go_enter Tryz.func3, Tryz.ntmps3
  go_wp2_with fail
  refine (newUrn_any a0 len cap _ hr).mono ?_
  rintro e w0 ⟨rfl, hu1, hb1⟩
  have HB0 := Lib.hid hb1
  have hg0 := hu1.size
  have HU0 := Lib.hid hu1
  clear hu1 hb1 hr
  go_wp2_with fail
  refine (little_any w.heap.size w0 HU0.out).mono ?_
  rintro e w1 ⟨v, d, rfl, hl, hD, hu2, hk2⟩
  have hD := hD.mono (B' := w.heap.size) HB0.out.size
  obtain ⟨ve, vn, rfl, hSp, hNo⟩ := hD
  obtain ⟨Ae, ce, rfl⟩ := own_slice hSp
  obtain ⟨An, cn, rfl⟩ : ∃ A c, vn = .slice A d.notes.length c := by
    obtain ⟨xs, _, h1, _⟩ := hNo
    exact own_slice h1
  obtain ⟨ne, hne⟩ : ∃ n, n = d.eras.length := ⟨_, rfl⟩
  obtain ⟨nn, hnn⟩ : ∃ n, n = d.notes.length := ⟨_, rfl⟩
  rw [← hne] at hSp
  rw [← hnn] at hNo
  have hb2 : Below w.heap.size w w1 := HB0.out.trans (hk2.below HB0.out.size (Nat.le_refl _))
  have HE2 : Hid (LE w w.heap.size w1.heap.size d (.slice Ae ne ce) (.slice An nn cn) (.slice none 0 0) [] [] (w1.alloc (.cells #[.int .i64 d.stones, .slice Ae ne ce, .slice An nn cn] 28))) := by
    have hb := (Below.refl w1.heap.size w1).alloc (Nat.le_refl _) (.cells #[.int .i64 d.stones, .slice Ae ne ce, .slice An nn cn] 28)
    exact Lib.hid ⟨hu2.alloc _, Nat.le_refl _, hb2.trans (hb.mono hb2.size), Blok.new w1 _ _, hb2.size, own_fx hSp (Fx.of_all hb) (fun _ _ _ _ => trivial), hNo.fx (Fx.of_all hb) (fun _ _ _ => ⟨trivial, trivial⟩), WhensO.nil _ _, by simp⟩
  have HL := Lib.hid hl
  have HES := Lib.hid (show ∀ s ∈ d.eras, -1000 ≤ s.1 ∧ s.2 ≤ 1000 from fun s hs => by have := hl.ers s hs; have := (hl.ok.eras.2 s hs); omega)
  have HNE := Lib.hid hne
  have HNN := Lib.hid hnn
  have hst := hl.ok.stones
  have hlen : ∀ (d : Dat) (p n : Nat), (spanList d p n).length = n := fun d p n => by simp [spanList]
  have HLEN := Lib.hid hlen
  rw [← hne, ← hnn]
  clear hSp hNo hu2 hk2 hb2 HB0 HU0 hl hne hnn hlen
  go_upto_region 3 with fail
  obtain ⟨w2, hw2⟩ : ∃ w2, w2 = w1.alloc (.cells #[.int .i64 d.stones, .slice Ae ne ce, .slice An nn cn] 28) := ⟨_, rfl⟩
  rw [← hw2] at HE2 ⊢
  clear hw2
  refine wp_region_v [(fun j => j == 0 || j == 1 || j == 3 || j == 4, fun W => W.cell? ⟨w1.heap.size, 0, none⟩ = some (.int .i64 d.stones) ∧ W.cell? ⟨w1.heap.size, 1, none⟩ = some (.slice Ae ne ce) ∧ W.cell? ⟨w1.heap.size, 2, none⟩ = some (.slice An nn cn))] (by kernel_rfl) ?_
  refine wpAnyV_world (fun W => LE w w.heap.size w1.heap.size d (.slice Ae ne ce) (.slice An nn cn) (.slice none 0 0) [] [] W) HE2.out.drew (fun V hV => ?_)
  have HV := Lib.hid hV
  clear hV
  refine wpAnyV_free (i := 2) (v := ?_) (by simp only [List.getElem?_toArray, List.getElem?_cons_zero, List.getElem?_cons_succ]; rfl) (by kernel_rfl) (by kernel_rfl) (by kernel_rfl) (by kernel_rfl) (by exact fun _ _ _ h => h) (Or.inl ⟨by rfl, ?hya2⟩) (behind_cons (fun h => by simp at h) (fun p hp => by cases hp)) ?resta2
  case hya2 => (intro W' _; go_simp; try with_reducible rfl)
  try simp only [Act.put, List.setIfInBounds_toArray, List.set_cons_zero, List.set_cons_succ]
  refine wpAnyV_take (i := 0) (m := 0) (v := ?_) (by simp only [List.getElem?_toArray, List.getElem?_cons_zero]; rfl) (by rfl) (by kernel_rfl) (by kernel_rfl) (by kernel_rfl) (by kernel_rfl) (by exact fun _ _ _ h => h) (Or.inl ⟨by rfl, ?hya3⟩) ((And.intro (HV.out.kd.cell 0) (And.intro (HV.out.kd.cell 1) (HV.out.kd.cell 2)))) (behind_cons (fun _ => (And.intro (HV.out.kd.cell 0) (And.intro (HV.out.kd.cell 1) (HV.out.kd.cell 2)))) (fun p hp => by cases hp)) ?resta3
  case hya3 => (intro W' hSW; obtain ⟨hSW1, hSW2, hSW3⟩ := hSW; go_simp; try with_reducible rfl)
  try simp only [Act.put, List.setIfInBounds_toArray, List.set_cons_zero, List.set_cons_succ]
  refine wpAnyV_ready (rs := [1]) (by kernel_rfl) (by simp) ?_
  refine AllReadyV.cons (by simp only [List.getElem?_toArray, List.getElem?_cons_zero, List.getElem?_cons_succ]; rfl) (fun K hK => ?_) AllReadyV.nil
  go_simp
  go_at_call 8
  (with_reducible refine (to_any 0 7 _).mono ?_)
  rintro e w507 ⟨rfl, hb⟩
  have HC507 := Lib.hid (HV.out.to hb)
  clear hb
  refine hK.out _ _ (behind_cons (fun _ => (And.intro (HC507.out.kd.cell 0) (And.intro (HC507.out.kd.cell 1) (HC507.out.kd.cell 2)))) (fun p hp => by cases hp)) ?_
  clear hK K
  try simp only [Act.put, List.setIfInBounds_toArray, List.set_cons_zero, List.set_cons_succ]
  refine wpAnyV_ready (rs := [3]) (by kernel_rfl) (by simp) ?_
  refine AllReadyV.cons (by simp only [List.getElem?_toArray, List.getElem?_cons_zero, List.getElem?_cons_succ]; rfl) (fun K hK => ?_) AllReadyV.nil
  go_simp
  go_at_call 7
  refine (truths_any d HL.out.ok HES.out d.stones [] (by simp) (by simp) w.heap.size _ HC507.out.below.size (.slice Ae ne ce) (.slice An nn cn) (.slice none 0 0) (.slice none 0 0) (.slice none 0 0) [] HC507.out.dat (World.ownsRow_nil _ _ _ _) (World.ownsRow_nil _ _ _ _) (WhensO.nil _ _) (by have := allP_len HL.out; unfold allP at this; simpa using Nat.le_trans this (by omega))).mono ?_
  rintro e w508 ⟨vt, rfl, htr, hgr, -⟩
  rw [List.nil_append] at htr
  have htr : WhensO w508 w.heap.size vt (allP d) := htr
  have HC508 := Lib.hid ((HC507.out.to (grown_none hgr)).withTr (vt' := vt) (L' := allP d) htr)
  obtain ⟨At, ct, rfl⟩ := htr.slice
  clear htr hgr
  refine hK.out _ _ (behind_cons (fun _ => (And.intro (HC508.out.kd.cell 0) (And.intro (HC508.out.kd.cell 1) (HC508.out.kd.cell 2)))) (fun p hp => by cases hp)) ?_
  clear hK K
  try simp only [Act.put, List.setIfInBounds_toArray, List.set_cons_zero, List.set_cons_succ]
  refine wpAnyV_free (i := 4) (v := ?_) (by simp only [List.getElem?_toArray, List.getElem?_cons_zero, List.getElem?_cons_succ]; rfl) (by kernel_rfl) (by kernel_rfl) (by kernel_rfl) (by kernel_rfl) (by exact fun _ _ _ h => h) (Or.inl ⟨by rfl, ?hya6⟩) (behind_cons (fun _ => (And.intro (HC508.out.kd.cell 0) (And.intro (HC508.out.kd.cell 1) (HC508.out.kd.cell 2)))) (fun p hp => by cases hp)) ?resta6
  case hya6 => (intro W' _; go_simp; try with_reducible rfl)
  try simp only [Act.put, List.setIfInBounds_toArray, List.set_cons_zero, List.set_cons_succ]
  refine wpAnyV_done (by kernel_rfl) ?_ _
  obtain ⟨w3, hw3⟩ : ∃ w3, w3 = w508 := ⟨_, rfl⟩
  have HE3 := HC508
  rw [← hw3] at HE3 ⊢
  clear hw3
  obtain ⟨n, hn⟩ : ∃ n, n = (allP d).length := ⟨_, rfl⟩
  by_cases h0 : allP d = []
  · have hn0 : n = 0 := by rw [hn, h0]; rfl
    have hall : d.all = [] := (allP_nil HL.out).1 h0
    rw [← hn, hn0] at HE3 ⊢
    have HALL := Lib.hid hall
    clear hn hn0 hall h0 n
    have d0 := HE3.out.kd.cell 0
    have d1 := HE3.out.kd.cell 1
    have d2 := HE3.out.kd.cell 2
    simp at d0 d1 d2
    go_wp2_with fail
    refine (years_no d HL.out.ok HALL.out _ _ w3 (Nat.le_refl _) HE3.out.dat.dat).mono ?_
    rintro e w4 ⟨rfl, hb⟩
    have HE4 := Lib.hid (HE3.out.to hb)
    clear hb d0 d1 d2 HE3
    have d0 := HE4.out.kd.cell 0
    have d1 := HE4.out.kd.cell 1
    have d2 := HE4.out.kd.cell 2
    simp at d0 d1 d2
    go_wp2_with fail
    refine (firsts_no d HL.out.ok HALL.out _ _ w4 (Nat.le_refl _) HE4.out.dat.dat).mono ?_
    rintro e w5 ⟨rfl, hb⟩
    have HE5 := Lib.hid (HE4.out.to hb)
    clear hb d0 d1 d2 HE4
    go_wp2_with (go_at_call 11; refine (timely_any _).mono ?_; rintro e w14 ⟨rfl, hb⟩; have HB14 := Lib.hid (HE5.out.below.trans (hb.mono HE5.out.below.size)); clear hb)
    go_ret
    exact ⟨rfl, HB14.out⟩
  · have hn0 : 0 < n := by rw [hn]; exact List.length_pos_iff.2 h0
    have hyes : d.all ≠ [] := fun e => h0 ((allP_nil HL.out).2 e)
    obtain ⟨gt, rfl⟩ : ∃ gt, At = some ⟨gt, 0, none⟩ := by
      obtain ⟨xs, _, h1, _⟩ := HE3.out.tr
      exact own_addr h1 (by omega)
    have hnz : ((n : Int) == 0) = false := by simp; omega
    have HYES := Lib.hid hyes
    rw [hn] at hnz
    clear hn hn0 h0 hyes n
    have d0 := HE3.out.kd.cell 0
    have d1 := HE3.out.kd.cell 1
    have d2 := HE3.out.kd.cell 2
    simp at d0 d1 d2
    go_wp2_with fail
    refine (years_yes d HL.out.ok HYES.out _ _ w3 (Nat.le_refl _) HE3.out.dat.dat).mono ?_
    rintro e w4 ⟨va, rfl, ha, hb⟩
    have HE4 : Hid (LE w w.heap.size w1.heap.size d (.slice Ae ne ce) (.slice An nn cn) (.slice (some ⟨gt, 0, none⟩) (allP d).length ct) (allP d) [(va, spanList d 1 d.stones)] w4) := Lib.hid ((HE3.out.to hb).add (va, spanList d 1 d.stones) (own_base ha HE3.out.below.size))
    rw [HLEN.out] at ha
    obtain ⟨Aa, ca, rfl⟩ := own_slice ha
    obtain ⟨ga, rfl⟩ := own_addr ha (by omega)
    clear ha hb d0 d1 d2 HE3
    have d0 := HE4.out.kd.cell 0
    have d1 := HE4.out.kd.cell 1
    have d2 := HE4.out.kd.cell 2
    simp at d0 d1 d2
    go_wp2_with fail
    refine (firsts_yes d HL.out.ok HYES.out _ _ w4 (Nat.le_refl _) HE4.out.dat.dat).mono ?_
    rintro e w5 ⟨vb, rfl, ha, hb⟩
    have HE5 := Lib.hid ((HE4.out.to hb).add (vb, spanList d 7 d.eras.length) (own_base ha HE4.out.below.size))
    rw [HLEN.out] at ha
    obtain ⟨Ab, cb, rfl⟩ := own_slice ha
    have HE5 : Hid (LE w w.heap.size w1.heap.size d (.slice Ae ne ce) (.slice An nn cn) (.slice (some ⟨gt, 0, none⟩) (allP d).length ct) (allP d) [(.slice (some ⟨ga, 0, none⟩) d.stones ca, spanList d 1 d.stones), (.slice Ab d.eras.length cb, spanList d 7 d.eras.length)] w5) := HE5
    clear ha hb d0 d1 d2 HE4
    rw [← HNE.out]
    have d0 := HE5.out.kd.cell 0
    have d1 := HE5.out.kd.cell 1
    have d2 := HE5.out.kd.cell 2
    simp at d0 d1 d2
    go_wp2_with fail
    rw [HNE.out]
    refine ends_stones w _ w.heap.size w1.heap.size gt ct ga ca cb Ab d _ _ HL.out HYES.out _ _ _ _ _ _ _ _ _ _ _ _ _ _ _ _ _ _ _ _ _ _ _ _ _ _ _ _ _ _ _ _ _ _ _ _ _ _ _ _ _ _ _ _ _ _ _ _ _ _ _ _ _ _ _ _ _ _ _ _ _ _ _ _ _ _ _ _ _ _ _ _ _ _ _ _ _ _ _ _ _ _ _ _ _ _ _ _ _ _ _ _ _ _ _ _ _ _ _ _ _ _ _ _ _ _ _ _ _ _ _ _ _ _ _ _ _ _ _ _ _ _ _ _ _ _ _ _ _ _ _ _ _ _ _ _ _ _ _ _ _ _ _ _ _ _ _ _ _ _ _ _ _ _ _ _ _ _ _ _ _ _ _ _ _ _ _ _ _ _ _ _ _ _ _ _ _ _ _ _ _ _ _ _ _ _ _ _ _ _ _ _ _ _ _ _ _ _ _ _ _ _ _ _ _ _ _ _ _ _ _ _ _ _ _ _ _ _ _ _ HE5.out ?hqp ?_
    case hqp => (intro c a dst v w h; cases dst <;> exact h)
    intro _ _ _ _ _ _ _ _ _ _ _ _ _ _ _ _ _ _ _ _ _ _ _ _ _ _ _ _ _ _ _ _ _ _ _ _ _ _ _ _ _ _ _ _ _ _ _ _ _ _ _ _ _ _ _ _ _ _ _ _ _ _ _ _ _ _ _ _ _ _ _ _ _ _ _ _ _ _ _ _ _ _ _ _ _ _ _ _ _ _ _ _ _ _ _ _ _ _ _ _ _ _ _ _ _ _ _ _ _ _ w6 hs
    have HE6 := Lib.hid hs
    clear hs d0 d1 d2 HE5
    go_wp2_with fail
    refine ends_eras w _ w.heap.size w1.heap.size gt ct ga ca cb Ab d _ _ HL.out HYES.out _ _ _ _ _ _ _ _ _ _ _ _ _ _ _ _ _ _ _ _ _ _ _ _ _ _ _ _ _ _ _ _ _ _ _ _ _ _ _ _ _ _ _ _ _ _ _ _ _ _ _ _ _ _ _ _ _ _ _ _ _ _ _ _ _ _ _ _ _ _ _ _ _ _ _ _ _ _ _ _ _ _ _ _ _ _ _ _ _ _ _ _ _ _ _ _ _ _ _ _ _ _ _ _ _ _ _ _ _ _ _ _ _ _ _ _ _ _ _ _ _ _ _ _ _ _ _ _ _ _ _ _ _ _ _ _ _ _ _ _ _ _ _ _ _ _ _ _ _ _ _ _ _ _ _ _ _ _ _ _ _ _ _ _ _ _ _ _ _ _ _ _ _ _ _ _ _ _ _ _ _ _ _ _ _ _ _ _ _ _ _ _ _ _ _ _ _ _ _ _ _ _ _ _ _ _ _ _ _ _ _ _ _ _ _ _ _ _ _ _ HE6.out ?hqq ?_
    case hqq => (intro c a dst v w h; cases dst <;> exact h)
    intro _ _ _ _ _ _ _ _ _ _ _ _ _ _ _ _ _ _ _ _ _ _ _ _ _ _ _ _ _ _ _ _ _ _ _ _ _ _ _ _ _ _ _ _ _ _ w7 hs
    have HE7 := Lib.hid hs
    clear hs HE6
    go_wp2_with (go_at_call 11; refine (timely_any _).mono ?_; rintro e w14 ⟨rfl, hb⟩; have HB14 := Lib.hid (HE7.out.below.trans (hb.mono HE7.out.below.size)); clear hb)
    go_ret
    exact ⟨rfl, HB14.out⟩
end Go.Proofs.YtmfjfjahemlhkaaGreat
