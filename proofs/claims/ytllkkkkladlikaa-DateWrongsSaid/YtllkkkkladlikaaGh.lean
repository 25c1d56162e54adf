/- Narrow: a span in a span that has a number. -/
import Derived.Test.YtllkkkkladlikaaGg
namespace Go.Proofs.Ytllkkkkladlikaa
open Go.RowKit Dt

/-- The urn, with a span in a variable and one for the result. -/
structure UB (g : Nat) (w : World) (bx : Nat) (lo hi : Int) (W : World) : Prop where
  urn : UrnAt W g
  kg : Kg g w W
  box : Blok W bx 39 [.int .i64 lo, .int .i64 hi]
  res : Blok W (bx + 1) 39 [.int .i64 0, .int .i64 0]
section
variable {g bx : Nat} {w W W' : World} {lo hi : Int}
theorem UB.calls (h : UB g w bx lo hi W) (hu : UrnAt W' g) (hk : Kg g W W') : UB g w bx lo hi W' :=
  ⟨hu, h.kg.trans hk, h.box.kg hk (h.urn.ne h.box (by decide)), h.res.kg hk (h.urn.ne h.res (by decide))⟩
theorem UB.alloc (h : UB g w bx lo hi W) (o : Obj) : UB g w bx lo hi (W.alloc o) := h.calls (h.urn.alloc o) ((Kg.refl g W).alloc o)
theorem UB.drew (h : UB g w bx lo hi W) : UB g w bx lo hi W.drew := h.calls h.urn (Kg.refl g W).drew
end
def NarrowPost (g : Nat) (lo hi n : Int) (w : World) (e : Ending) (w' : World) : Prop :=
  ∃ a b : Int, e = .returned (.agg #[.int .i64 a, .int .i64 b]) ∧ lo ≤ a ∧ a ≤ n ∧ n ≤ b ∧ b ≤ hi ∧ UrnAt w' g ∧ Kg g w w'
set_option maxRecDepth 100000 in
set_option maxHeartbeats 1000000 in
theorem narrow_any (g : Nat) (lo hi n : Int) (w : World) (h1 : -100000 ≤ lo) (h2 : lo ≤ n) (h3 : n ≤ hi) (h4 : hi ≤ 100000) (hu : UrnAt w g) :
    Calls Try.prog 27 #[.pointer (some ⟨g, 0, none⟩), .agg #[.int .i64 lo, .int .i64 hi], .int .i64 n] w (NarrowPost g lo hi n w) := by
  have hst : UB g w w.heap.size lo hi ((w.alloc (.cells #[.int .i64 lo, .int .i64 hi] 39)).alloc (.cells #[.int .i64 0, .int .i64 0] 39)) := by
    have := Blok.new (w.alloc (.cells #[.int .i64 lo, .int .i64 hi] 39)) 39 [.int .i64 0, .int .i64 0]
    rw [World.size_alloc] at this
    exact ⟨(hu.alloc _).alloc _, ((Kg.refl g w).alloc _).alloc _, (Blok.new w _ _).alloc _, this⟩
  have HS := Lib.hid hst
  clear hst hu
  go_enter Try.func27, Try.ntmps27
  go_wp2_with fail
  refine wp_region_v [(fun j => j == 2 || j == 5 || j == 7 || j == 8 || j == 9 || j == 12 || j == 16 || j == 17 || j == 18 || j == 19 || j == 20, fun W => W.cell? ⟨w.heap.size, 0, none⟩ = some (.int .i64 lo)), (fun j => j == 7 || j == 8 || j == 9 || j == 12 || j == 16 || j == 17 || j == 18 || j == 19 || j == 20, fun W => W.cell? ⟨w.heap.size, 1, none⟩ = some (.int .i64 hi))] (by kernel_rfl) ?_
  refine wpAnyV_world (fun W => UB g w w.heap.size lo hi W) HS.out.drew (fun V hV => ?_)
  have HV := Lib.hid hV
  clear hV
  refine wpAnyV_free (i := 0) (v := ?_) (by simp only [List.getElem?_toArray, List.getElem?_cons_zero]; rfl) (by kernel_rfl) (by kernel_rfl) (by kernel_rfl) (by kernel_rfl) (by exact fun _ _ _ h => h) (Or.inl ⟨by rfl, ?hya2⟩) (behind_cons (fun h => by simp at h) (behind_cons (fun h => by simp at h) (fun p hp => by cases hp))) ?resta2
  case hya2 => (intro W' _; go_simp; try with_reducible rfl)
  try simp only [Act.put, List.setIfInBounds_toArray, List.set_cons_zero, List.set_cons_succ]
  refine wpAnyV_free (i := 1) (v := ?_) (by simp only [List.getElem?_toArray, List.getElem?_cons_zero, List.getElem?_cons_succ]; rfl) (by kernel_rfl) (by kernel_rfl) (by kernel_rfl) (by kernel_rfl) (by exact fun _ _ _ h => h) (Or.inl ⟨by rfl, ?hya3⟩) (behind_cons (fun h => by simp at h) (behind_cons (fun h => by simp at h) (fun p hp => by cases hp))) ?resta3
  case hya3 => (intro W' _; go_simp; try with_reducible rfl)
  try simp only [Act.put, List.setIfInBounds_toArray, List.set_cons_zero, List.set_cons_succ]
  refine wpAnyV_free (i := 3) (v := ?_) (by simp only [List.getElem?_toArray, List.getElem?_cons_zero, List.getElem?_cons_succ]; rfl) (by kernel_rfl) (by kernel_rfl) (by kernel_rfl) (by kernel_rfl) (by exact fun _ _ _ h => h) (Or.inl ⟨by rfl, ?hya4⟩) (behind_cons (fun h => by simp at h) (behind_cons (fun h => by simp at h) (fun p hp => by cases hp))) ?resta4
  case hya4 => (intro W' _; go_simp; try with_reducible rfl)
  try simp only [Act.put, List.setIfInBounds_toArray, List.set_cons_zero, List.set_cons_succ]
  refine wpAnyV_free (i := 4) (v := ?_) (by simp only [List.getElem?_toArray, List.getElem?_cons_zero, List.getElem?_cons_succ]; rfl) (by kernel_rfl) (by kernel_rfl) (by kernel_rfl) (by kernel_rfl) (by exact fun _ _ _ h => h) (Or.inl ⟨by rfl, ?hya5⟩) (behind_cons (fun h => by simp at h) (behind_cons (fun h => by simp at h) (fun p hp => by cases hp))) ?resta5
  case hya5 => (intro W' _; go_simp; try with_reducible rfl)
  try simp only [Act.put, List.setIfInBounds_toArray, List.set_cons_zero, List.set_cons_succ]
  refine wpAnyV_free (i := 6) (v := ?_) (by simp only [List.getElem?_toArray, List.getElem?_cons_zero, List.getElem?_cons_succ]; rfl) (by kernel_rfl) (by kernel_rfl) (by kernel_rfl) (by kernel_rfl) (by exact fun _ _ _ h => h) (Or.inl ⟨by rfl, ?hya6⟩) (behind_cons (fun h => by simp at h) (behind_cons (fun h => by simp at h) (fun p hp => by cases hp))) ?resta6
  case hya6 => (intro W' _; go_simp; try with_reducible rfl)
  try simp only [Act.put, List.setIfInBounds_toArray, List.set_cons_zero, List.set_cons_succ]
  refine wpAnyV_free (i := 10) (v := ?_) (by simp only [List.getElem?_toArray, List.getElem?_cons_zero, List.getElem?_cons_succ]; rfl) (by kernel_rfl) (by kernel_rfl) (by kernel_rfl) (by kernel_rfl) (by exact fun _ _ _ h => h) (Or.inl ⟨by rfl, ?hya7⟩) (behind_cons (fun h => by simp at h) (behind_cons (fun h => by simp at h) (fun p hp => by cases hp))) ?resta7
  case hya7 => (intro W' _; go_simp; try with_reducible rfl)
  try simp only [Act.put, List.setIfInBounds_toArray, List.set_cons_zero, List.set_cons_succ]
  refine wpAnyV_free (i := 11) (v := ?_) (by simp only [List.getElem?_toArray, List.getElem?_cons_zero, List.getElem?_cons_succ]; rfl) (by kernel_rfl) (by kernel_rfl) (by kernel_rfl) (by kernel_rfl) (by exact fun _ _ _ h => h) (Or.inl ⟨by rfl, ?hya8⟩) (behind_cons (fun h => by simp at h) (behind_cons (fun h => by simp at h) (fun p hp => by cases hp))) ?resta8
  case hya8 => (intro W' _; go_simp; try with_reducible rfl)
  try simp only [Act.put, List.setIfInBounds_toArray, List.set_cons_zero, List.set_cons_succ]
  refine wpAnyV_free (i := 13) (v := ?_) (by simp only [List.getElem?_toArray, List.getElem?_cons_zero, List.getElem?_cons_succ]; rfl) (by kernel_rfl) (by kernel_rfl) (by kernel_rfl) (by kernel_rfl) (by exact fun _ _ _ h => h) (Or.inl ⟨by rfl, ?hya9⟩) (behind_cons (fun h => by simp at h) (behind_cons (fun h => by simp at h) (fun p hp => by cases hp))) ?resta9
  case hya9 => (intro W' _; go_simp; try with_reducible rfl)
  try simp only [Act.put, List.setIfInBounds_toArray, List.set_cons_zero, List.set_cons_succ]
  refine wpAnyV_free (i := 14) (v := ?_) (by simp only [List.getElem?_toArray, List.getElem?_cons_zero, List.getElem?_cons_succ]; rfl) (by kernel_rfl) (by kernel_rfl) (by kernel_rfl) (by kernel_rfl) (by exact fun _ _ _ h => h) (Or.inl ⟨by rfl, ?hya10⟩) (behind_cons (fun h => by simp at h) (behind_cons (fun h => by simp at h) (fun p hp => by cases hp))) ?resta10
  case hya10 => (intro W' _; go_simp; try with_reducible rfl)
  try simp only [Act.put, List.setIfInBounds_toArray, List.set_cons_zero, List.set_cons_succ]
  refine wpAnyV_free (i := 15) (v := ?_) (by simp only [List.getElem?_toArray, List.getElem?_cons_zero, List.getElem?_cons_succ]; rfl) (by kernel_rfl) (by kernel_rfl) (by kernel_rfl) (by kernel_rfl) (by exact fun _ _ _ h => h) (Or.inl ⟨by rfl, ?hya11⟩) (behind_cons (fun h => by simp at h) (behind_cons (fun h => by simp at h) (fun p hp => by cases hp))) ?resta11
  case hya11 => (intro W' _; go_simp; try with_reducible rfl)
  try simp only [Act.put, List.setIfInBounds_toArray, List.set_cons_zero, List.set_cons_succ]
  refine wpAnyV_take (i := 2) (m := 0) (v := ?_) (by simp only [List.getElem?_toArray, List.getElem?_cons_zero, List.getElem?_cons_succ]; rfl) (by rfl) (by kernel_rfl) (by kernel_rfl) (by kernel_rfl) (by kernel_rfl) (by exact fun _ _ _ h => h) (Or.inl ⟨by rfl, ?hya12⟩) (HV.out.box.cell 0) (behind_cons (fun _ => (HV.out.box.cell 0)) (behind_cons (fun h => by simp at h) (fun p hp => by cases hp))) ?resta12
  case hya12 => (intro W' hSW; go_simp; try with_reducible rfl)
  try simp only [Act.put, List.setIfInBounds_toArray, List.set_cons_zero, List.set_cons_succ]
  refine wpAnyV_take (i := 5) (m := 0) (v := ?_) (by simp only [List.getElem?_toArray, List.getElem?_cons_zero, List.getElem?_cons_succ]; rfl) (by rfl) (by kernel_rfl) (by kernel_rfl) (by kernel_rfl) (by kernel_rfl) (by exact fun _ _ _ h => h) (Or.inl ⟨by rfl, ?hya13⟩) (HV.out.box.cell 0) (behind_cons (fun _ => (HV.out.box.cell 0)) (behind_cons (fun h => by simp at h) (fun p hp => by cases hp))) ?resta13
  case hya13 => (intro W' hSW; go_simp; try with_reducible rfl)
  try simp only [Act.put, List.setIfInBounds_toArray, List.set_cons_zero, List.set_cons_succ]
  refine wpAnyV_take (i := 12) (m := 1) (v := ?_) (by simp only [List.getElem?_toArray, List.getElem?_cons_zero, List.getElem?_cons_succ]; rfl) (by rfl) (by kernel_rfl) (by kernel_rfl) (by kernel_rfl) (by kernel_rfl) (by exact fun _ _ _ h => h) (Or.inl ⟨by rfl, ?hya14⟩) (HV.out.box.cell 1) (behind_cons (fun _ => (HV.out.box.cell 0)) (behind_cons (fun _ => (HV.out.box.cell 1)) (fun p hp => by cases hp))) ?resta14
  case hya14 => (intro W' hSW; go_simp; try with_reducible rfl)
  try simp only [Act.put, List.setIfInBounds_toArray, List.set_cons_zero, List.set_cons_succ]
  refine wpAnyV_take (i := 16) (m := 1) (v := ?_) (by simp only [List.getElem?_toArray, List.getElem?_cons_zero, List.getElem?_cons_succ]; rfl) (by rfl) (by kernel_rfl) (by kernel_rfl) (by kernel_rfl) (by kernel_rfl) (by exact fun _ _ _ h => h) (Or.inl ⟨by rfl, ?hya15⟩) (HV.out.box.cell 1) (behind_cons (fun _ => (HV.out.box.cell 0)) (behind_cons (fun _ => (HV.out.box.cell 1)) (fun p hp => by cases hp))) ?resta15
  case hya15 => (intro W' hSW; go_simp; try with_reducible rfl)
  try simp only [Act.put, List.setIfInBounds_toArray, List.set_cons_zero, List.set_cons_succ]
  refine wpAnyV_ready (rs := [7]) (by kernel_rfl) (by simp) ?_
  refine AllReadyV.cons (by simp only [List.getElem?_toArray, List.getElem?_cons_zero, List.getElem?_cons_succ]; rfl) (fun K hK => ?_) AllReadyV.nil
  go_simp
  go_at_call 16
  refine (from_any _ _ _ _ (by omega) (by omega) (by omega) (by omega) HV.out.urn).mono ?_
  rintro e w501 ⟨r, rfl, hr1, hr2, hu, hk⟩
  have HC501 := Lib.hid (HV.out.calls hu hk)
  clear hu hk
  refine hK.out _ _ (behind_cons (fun _ => (HC501.out.box.cell 0)) (behind_cons (fun _ => (HC501.out.box.cell 1)) (fun p hp => by cases hp))) ?_
  clear hK K
  try simp only [Act.put, List.setIfInBounds_toArray, List.set_cons_zero, List.set_cons_succ]
  refine wpAnyV_ready (rs := [8]) (by kernel_rfl) (by simp) ?_
  refine AllReadyV.cons (by simp only [List.getElem?_toArray, List.getElem?_cons_zero, List.getElem?_cons_succ]; rfl) (fun K hK => ?_) AllReadyV.nil
  go_simp
  have hbn := Blok.new w501 3 [.int .i64 lo, .int .i64 r]
  try rw [World.size_alloc] at hbn
  have HN502 := Lib.hid hbn
  clear hbn
  have HC502 := Lib.hid (HC501.out.alloc (.cells #[.int .i64 lo, .int .i64 r] 3))
  refine hK.out _ _ (behind_cons (fun _ => (HC502.out.box.cell 0)) (behind_cons (fun _ => (HC502.out.box.cell 1)) (fun p hp => by cases hp))) ?_
  clear hK K
  try simp only [Act.put, List.setIfInBounds_toArray, List.set_cons_zero, List.set_cons_succ]
  refine wpAnyV_ready (rs := [9]) (by kernel_rfl) (by simp) ?_
  refine AllReadyV.cons (by simp only [List.getElem?_toArray, List.getElem?_cons_zero, List.getElem?_cons_succ]; rfl) (fun K hK => ?_) AllReadyV.nil
  go_simp
  go_at_call 12
  refine (any_any _ _ 2 2 3 [lo, r] _ rfl (by simp) (by simp) HN502.out (HC502.out.urn.ne HN502.out (by decide)) HC502.out.urn).mono ?_
  rintro e w503 ⟨a, rfl, ha, hu, hk⟩
  have HC503 := Lib.hid (HC502.out.calls hu hk)
  clear hu hk
  have hab : lo ≤ a ∧ a ≤ n := by simp at ha; omega
  obtain ⟨a1, a2⟩ := hab
  clear ha hr1 hr2
  refine hK.out _ _ (behind_cons (fun _ => (HC503.out.box.cell 0)) (behind_cons (fun _ => (HC503.out.box.cell 1)) (fun p hp => by cases hp))) ?_
  clear hK K
  try simp only [Act.put, List.setIfInBounds_toArray, List.set_cons_zero, List.set_cons_succ]
  refine wpAnyV_ready (rs := [17]) (by kernel_rfl) (by simp) ?_
  refine AllReadyV.cons (by simp only [List.getElem?_toArray, List.getElem?_cons_zero, List.getElem?_cons_succ]; rfl) (fun K hK => ?_) AllReadyV.nil
  go_simp
  go_at_call 16
  refine (from_any _ _ _ _ (by omega) (by omega) (by omega) (by omega) HC503.out.urn).mono ?_
  rintro e w504 ⟨r, rfl, hr1, hr2, hu, hk⟩
  have HC504 := Lib.hid (HC503.out.calls hu hk)
  clear hu hk
  refine hK.out _ _ (behind_cons (fun _ => (HC504.out.box.cell 0)) (behind_cons (fun _ => (HC504.out.box.cell 1)) (fun p hp => by cases hp))) ?_
  clear hK K
  try simp only [Act.put, List.setIfInBounds_toArray, List.set_cons_zero, List.set_cons_succ]
  refine wpAnyV_ready (rs := [18]) (by kernel_rfl) (by simp) ?_
  refine AllReadyV.cons (by simp only [List.getElem?_toArray, List.getElem?_cons_zero, List.getElem?_cons_succ]; rfl) (fun K hK => ?_) AllReadyV.nil
  go_simp
  have hbn := Blok.new w504 3 [.int .i64 hi, .int .i64 r]
  try rw [World.size_alloc] at hbn
  have HN505 := Lib.hid hbn
  clear hbn
  have HC505 := Lib.hid (HC504.out.alloc (.cells #[.int .i64 hi, .int .i64 r] 3))
  refine hK.out _ _ (behind_cons (fun _ => (HC505.out.box.cell 0)) (behind_cons (fun _ => (HC505.out.box.cell 1)) (fun p hp => by cases hp))) ?_
  clear hK K
  try simp only [Act.put, List.setIfInBounds_toArray, List.set_cons_zero, List.set_cons_succ]
  refine wpAnyV_ready (rs := [19]) (by kernel_rfl) (by simp) ?_
  refine AllReadyV.cons (by simp only [List.getElem?_toArray, List.getElem?_cons_zero, List.getElem?_cons_succ]; rfl) (fun K hK => ?_) AllReadyV.nil
  go_simp
  go_at_call 12
  refine (any_any _ _ 2 2 3 [hi, r] _ rfl (by simp) (by simp) HN505.out (HC505.out.urn.ne HN505.out (by decide)) HC505.out.urn).mono ?_
  rintro e w506 ⟨b, rfl, hb, hu, hk⟩
  have HC506 := Lib.hid (HC505.out.calls hu hk)
  clear hu hk
  have hbb : n ≤ b ∧ b ≤ hi := by simp at hb; omega
  obtain ⟨b1, b2⟩ := hbb
  clear hb hr1 hr2
  refine hK.out _ _ (behind_cons (fun _ => (HC506.out.box.cell 0)) (behind_cons (fun _ => (HC506.out.box.cell 1)) (fun p hp => by cases hp))) ?_
  clear hK K
  try simp only [Act.put, List.setIfInBounds_toArray, List.set_cons_zero, List.set_cons_succ]
  refine wpAnyV_free (i := 20) (v := ?_) (by simp only [List.getElem?_toArray, List.getElem?_cons_zero, List.getElem?_cons_succ]; rfl) (by kernel_rfl) (by kernel_rfl) (by kernel_rfl) (by kernel_rfl) (by exact fun _ _ _ h => h) (Or.inl ⟨by rfl, ?hya22⟩) (behind_cons (fun _ => (HC506.out.box.cell 0)) (behind_cons (fun _ => (HC506.out.box.cell 1)) (fun p hp => by cases hp))) ?resta22
  case hya22 => (intro W' _; go_simp; try with_reducible rfl)
  try simp only [Act.put, List.setIfInBounds_toArray, List.set_cons_zero, List.set_cons_succ]
  refine wpAnyV_ready (rs := [21]) (by kernel_rfl) (by simp) ?_
  refine AllReadyV.cons (by simp only [List.getElem?_toArray, List.getElem?_cons_zero, List.getElem?_cons_succ]; rfl) (fun K hK => ?_) AllReadyV.nil
  have x0 : w506.cell? ⟨w.heap.size + 1, 0, none⟩ = some (.int .i64 0) := HC506.out.res.cell 0
  have x1 : w506.cell? ⟨w.heap.size + 1, 1, none⟩ = some (.int .i64 0) := HC506.out.res.cell 1
  have y0 := HC506.out.res.free 0
  have y1 := HC506.out.res.free 1
  go_simp
  clear x0 x1 y0 y1
  refine hK.out _ _ (behind_cons (fun h => by simp at h) (behind_cons (fun h => by simp at h) (fun p hp => by cases hp))) ?_
  clear hK K
  try simp only [Act.put, List.setIfInBounds_toArray, List.set_cons_zero, List.set_cons_succ]
  refine wpAnyV_done (by kernel_rfl) ?_ _
  have hne : g ≠ w.heap.size + 1 := HC506.out.urn.ne' HC506.out.res (by decide)
  go_wp2_with fail
  refine bodyPost_ret (v := .agg #[.int .i64 a, .int .i64 b]) ?_ rfl ⟨a, b, rfl, a1, a2, b1, b2, (HC506.out.urn.far (by simp; omega) _).far (by simp; omega) _, (HC506.out.kg.putNew (by simp) _).putNew (by simp) _⟩
  exact results_cell_row Try.results27 _ _ (w.heap.size + 1) 39 _ (0, 0) _ rfl ((HC506.out.res.put 0 (.int .i64 a)).put 1 (.int .i64 b)) Try.underlying39 rfl (by kernel_rfl)
end Go.Proofs.Ytllkkkkladlikaa
