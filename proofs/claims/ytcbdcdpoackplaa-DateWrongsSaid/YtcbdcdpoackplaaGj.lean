/- Narrow: a span in a span that has a number. · What a law holds, in general: an urn, a dating with a truth, blocks, rows, notes and datings of its own. · What more is known: plain, and a span that is stored into a row of spans. -/
import Derived.Test.YtcbdcdpoackplaaGg
namespace Go.Proofs.Ytcbdcdpoackplaa
section
open Go.RowKit Dt

/-- The urn, with a span in a variable and one for the result. -/
structure UB (g : Nat) (w : World) (bx : Nat) (lo hi : Int) (W : World) : Prop where
  urn : UrnAt W g
  kg : Kg g w W
  box : Blok W bx 39 [.int .i64 lo, .int .i64 hi]
  res : Blok W (bx + 1) 39 [.int .i64 0, .int .i64 0]
section
variable {g bx : Nat} {w W W' : World} {lo hi : Int}
theorem UB.calls (h : UB g w bx lo hi W) (hu : UrnAt W' g) (hk : Kg g W W') : UB g w bx lo hi W' :=
  ⟨hu, h.kg.trans hk, h.box.kg hk (h.urn.ne h.box (by decide)), h.res.kg hk (h.urn.ne h.res (by decide))⟩
theorem UB.alloc (h : UB g w bx lo hi W) (o : Obj) : UB g w bx lo hi (W.alloc o) := h.calls (h.urn.alloc o) ((Kg.refl g W).alloc o)
theorem UB.drew (h : UB g w bx lo hi W) : UB g w bx lo hi W.drew := h.calls h.urn (Kg.refl g W).drew
end
def NarrowPost (g : Nat) (lo hi n : Int) (w : World) (e : Ending) (w' : World) : Prop :=
  ∃ a b : Int, e = .returned (.agg #[.int .i64 a, .int .i64 b]) ∧ lo ≤ a ∧ a ≤ n ∧ n ≤ b ∧ b ≤ hi ∧ UrnAt w' g ∧ Kg g w w'
set_option maxRecDepth 100000 in
set_option maxHeartbeats 1000000 in
theorem narrow_any (g : Nat) (lo hi n : Int) (w : World) (h1 : -100000 ≤ lo) (h2 : lo ≤ n) (h3 : n ≤ hi) (h4 : hi ≤ 100000) (hu : UrnAt w g) :
    Calls Try.prog 22 #[.pointer (some ⟨g, 0, none⟩), .agg #[.int .i64 lo, .int .i64 hi], .int .i64 n] w (NarrowPost g lo hi n w) := by
  have hst : UB g w w.heap.size lo hi ((w.alloc (.cells #[.int .i64 lo, .int .i64 hi] 39)).alloc (.cells #[.int .i64 0, .int .i64 0] 39)) := by
    have := Blok.new (w.alloc (.cells #[.int .i64 lo, .int .i64 hi] 39)) 39 [.int .i64 0, .int .i64 0]
    rw [World.size_alloc] at this
    exact ⟨(hu.alloc _).alloc _, ((Kg.refl g w).alloc _).alloc _, (Blok.new w _ _).alloc _, this⟩
  have HS := Lib.hid hst
  clear hst hu
  go_enter Try.func22, Try.ntmps22
  go_wp2_with fail
  refine wp_region_v [(fun j => j == 2 || j == 5 || j == 7 || j == 8 || j == 9 || j == 12 || j == 16 || j == 17 || j == 18 || j == 19 || j == 20, fun W => W.cell? ⟨w.heap.size, 0, none⟩ = some (.int .i64 lo)), (fun j => j == 7 || j == 8 || j == 9 || j == 12 || j == 16 || j == 17 || j == 18 || j == 19 || j == 20, fun W => W.cell? ⟨w.heap.size, 1, none⟩ = some (.int .i64 hi))] (by kernel_rfl) ?_
  refine wpAnyV_world (fun W => UB g w w.heap.size lo hi W) HS.out.drew (fun V hV => ?_)
  have HV := Lib.hid hV
  clear hV
  refine wpAnyV_free (i := 0) (v := ?_) (by simp only [List.getElem?_toArray, List.getElem?_cons_zero]; rfl) (by kernel_rfl) (by kernel_rfl) (by kernel_rfl) (by kernel_rfl) (by exact fun _ _ _ h => h) (Or.inl ⟨by rfl, ?hya2⟩) (behind_cons (fun h => by simp at h) (behind_cons (fun h => by simp at h) (fun p hp => by cases hp))) ?resta2
  case hya2 => (intro W' _; go_simp; try with_reducible rfl)
  try simp only [Act.put, List.setIfInBounds_toArray, List.set_cons_zero, List.set_cons_succ]
  refine wpAnyV_free (i := 1) (v := ?_) (by simp only [List.getElem?_toArray, List.getElem?_cons_zero, List.getElem?_cons_succ]; rfl) (by kernel_rfl) (by kernel_rfl) (by kernel_rfl) (by kernel_rfl) (by exact fun _ _ _ h => h) (Or.inl ⟨by rfl, ?hya3⟩) (behind_cons (fun h => by simp at h) (behind_cons (fun h => by simp at h) (fun p hp => by cases hp))) ?resta3
  case hya3 => (intro W' _; go_simp; try with_reducible rfl)
  try simp only [Act.put, List.setIfInBounds_toArray, List.set_cons_zero, List.set_cons_succ]
  refine wpAnyV_free (i := 3) (v := ?_) (by simp only [List.getElem?_toArray, List.getElem?_cons_zero, List.getElem?_cons_succ]; rfl) (by kernel_rfl) (by kernel_rfl) (by kernel_rfl) (by kernel_rfl) (by exact fun _ _ _ h => h) (Or.inl ⟨by rfl, ?hya4⟩) (behind_cons (fun h => by simp at h) (behind_cons (fun h => by simp at h) (fun p hp => by cases hp))) ?resta4
  case hya4 => (intro W' _; go_simp; try with_reducible rfl)
  try simp only [Act.put, List.setIfInBounds_toArray, List.set_cons_zero, List.set_cons_succ]
  refine wpAnyV_free (i := 4) (v := ?_) (by simp only [List.getElem?_toArray, List.getElem?_cons_zero, List.getElem?_cons_succ]; rfl) (by kernel_rfl) (by kernel_rfl) (by kernel_rfl) (by kernel_rfl) (by exact fun _ _ _ h => h) (Or.inl ⟨by rfl, ?hya5⟩) (behind_cons (fun h => by simp at h) (behind_cons (fun h => by simp at h) (fun p hp => by cases hp))) ?resta5
  case hya5 => (intro W' _; go_simp; try with_reducible rfl)
  try simp only [Act.put, List.setIfInBounds_toArray, List.set_cons_zero, List.set_cons_succ]
  refine wpAnyV_free (i := 6) (v := ?_) (by simp only [List.getElem?_toArray, List.getElem?_cons_zero, List.getElem?_cons_succ]; rfl) (by kernel_rfl) (by kernel_rfl) (by kernel_rfl) (by kernel_rfl) (by exact fun _ _ _ h => h) (Or.inl ⟨by rfl, ?hya6⟩) (behind_cons (fun h => by simp at h) (behind_cons (fun h => by simp at h) (fun p hp => by cases hp))) ?resta6
  case hya6 => (intro W' _; go_simp; try with_reducible rfl)
  try simp only [Act.put, List.setIfInBounds_toArray, List.set_cons_zero, List.set_cons_succ]
  refine wpAnyV_free (i := 10) (v := ?_) (by simp only [List.getElem?_toArray, List.getElem?_cons_zero, List.getElem?_cons_succ]; rfl) (by kernel_rfl) (by kernel_rfl) (by kernel_rfl) (by kernel_rfl) (by exact fun _ _ _ h => h) (Or.inl ⟨by rfl, ?hya7⟩) (behind_cons (fun h => by simp at h) (behind_cons (fun h => by simp at h) (fun p hp => by cases hp))) ?resta7
  case hya7 => (intro W' _; go_simp; try with_reducible rfl)
  try simp only [Act.put, List.setIfInBounds_toArray, List.set_cons_zero, List.set_cons_succ]
  refine wpAnyV_free (i := 11) (v := ?_) (by simp only [List.getElem?_toArray, List.getElem?_cons_zero, List.getElem?_cons_succ]; rfl) (by kernel_rfl) (by kernel_rfl) (by kernel_rfl) (by kernel_rfl) (by exact fun _ _ _ h => h) (Or.inl ⟨by rfl, ?hya8⟩) (behind_cons (fun h => by simp at h) (behind_cons (fun h => by simp at h) (fun p hp => by cases hp))) ?resta8
  case hya8 => (intro W' _; go_simp; try with_reducible rfl)
  try simp only [Act.put, List.setIfInBounds_toArray, List.set_cons_zero, List.set_cons_succ]
  refine wpAnyV_free (i := 13) (v := ?_) (by simp only [List.getElem?_toArray, List.getElem?_cons_zero, List.getElem?_cons_succ]; rfl) (by kernel_rfl) (by kernel_rfl) (by kernel_rfl) (by kernel_rfl) (by exact fun _ _ _ h => h) (Or.inl ⟨by rfl, ?hya9⟩) (behind_cons (fun h => by simp at h) (behind_cons (fun h => by simp at h) (fun p hp => by cases hp))) ?resta9
  case hya9 => (intro W' _; go_simp; try with_reducible rfl)
  try simp only [Act.put, List.setIfInBounds_toArray, List.set_cons_zero, List.set_cons_succ]
  refine wpAnyV_free (i := 14) (v := ?_) (by simp only [List.getElem?_toArray, List.getElem?_cons_zero, List.getElem?_cons_succ]; rfl) (by kernel_rfl) (by kernel_rfl) (by kernel_rfl) (by kernel_rfl) (by exact fun _ _ _ h => h) (Or.inl ⟨by rfl, ?hya10⟩) (behind_cons (fun h => by simp at h) (behind_cons (fun h => by simp at h) (fun p hp => by cases hp))) ?resta10
  case hya10 => (intro W' _; go_simp; try with_reducible rfl)
  try simp only [Act.put, List.setIfInBounds_toArray, List.set_cons_zero, List.set_cons_succ]
  refine wpAnyV_free (i := 15) (v := ?_) (by simp only [List.getElem?_toArray, List.getElem?_cons_zero, List.getElem?_cons_succ]; rfl) (by kernel_rfl) (by kernel_rfl) (by kernel_rfl) (by kernel_rfl) (by exact fun _ _ _ h => h) (Or.inl ⟨by rfl, ?hya11⟩) (behind_cons (fun h => by simp at h) (behind_cons (fun h => by simp at h) (fun p hp => by cases hp))) ?resta11
  case hya11 => (intro W' _; go_simp; try with_reducible rfl)
  try simp only [Act.put, List.setIfInBounds_toArray, List.set_cons_zero, List.set_cons_succ]
  refine wpAnyV_take (i := 2) (m := 0) (v := ?_) (by simp only [List.getElem?_toArray, List.getElem?_cons_zero, List.getElem?_cons_succ]; rfl) (by rfl) (by kernel_rfl) (by kernel_rfl) (by kernel_rfl) (by kernel_rfl) (by exact fun _ _ _ h => h) (Or.inl ⟨by rfl, ?hya12⟩) (HV.out.box.cell 0) (behind_cons (fun _ => (HV.out.box.cell 0)) (behind_cons (fun h => by simp at h) (fun p hp => by cases hp))) ?resta12
  case hya12 => (intro W' hSW; go_simp; try with_reducible rfl)
  try simp only [Act.put, List.setIfInBounds_toArray, List.set_cons_zero, List.set_cons_succ]
  refine wpAnyV_take (i := 5) (m := 0) (v := ?_) (by simp only [List.getElem?_toArray, List.getElem?_cons_zero, List.getElem?_cons_succ]; rfl) (by rfl) (by kernel_rfl) (by kernel_rfl) (by kernel_rfl) (by kernel_rfl) (by exact fun _ _ _ h => h) (Or.inl ⟨by rfl, ?hya13⟩) (HV.out.box.cell 0) (behind_cons (fun _ => (HV.out.box.cell 0)) (behind_cons (fun h => by simp at h) (fun p hp => by cases hp))) ?resta13
  case hya13 => (intro W' hSW; go_simp; try with_reducible rfl)
  try simp only [Act.put, List.setIfInBounds_toArray, List.set_cons_zero, List.set_cons_succ]
  refine wpAnyV_take (i := 12) (m := 1) (v := ?_) (by simp only [List.getElem?_toArray, List.getElem?_cons_zero, List.getElem?_cons_succ]; rfl) (by rfl) (by kernel_rfl) (by kernel_rfl) (by kernel_rfl) (by kernel_rfl) (by exact fun _ _ _ h => h) (Or.inl ⟨by rfl, ?hya14⟩) (HV.out.box.cell 1) (behind_cons (fun _ => (HV.out.box.cell 0)) (behind_cons (fun _ => (HV.out.box.cell 1)) (fun p hp => by cases hp))) ?resta14
  case hya14 => (intro W' hSW; go_simp; try with_reducible rfl)
  try simp only [Act.put, List.setIfInBounds_toArray, List.set_cons_zero, List.set_cons_succ]
  refine wpAnyV_take (i := 16) (m := 1) (v := ?_) (by simp only [List.getElem?_toArray, List.getElem?_cons_zero, List.getElem?_cons_succ]; rfl) (by rfl) (by kernel_rfl) (by kernel_rfl) (by kernel_rfl) (by kernel_rfl) (by exact fun _ _ _ h => h) (Or.inl ⟨by rfl, ?hya15⟩) (HV.out.box.cell 1) (behind_cons (fun _ => (HV.out.box.cell 0)) (behind_cons (fun _ => (HV.out.box.cell 1)) (fun p hp => by cases hp))) ?resta15
  case hya15 => (intro W' hSW; go_simp; try with_reducible rfl)
  try simp only [Act.put, List.setIfInBounds_toArray, List.set_cons_zero, List.set_cons_succ]
  refine wpAnyV_ready (rs := [7]) (by kernel_rfl) (by simp) ?_
  refine AllReadyV.cons (by simp only [List.getElem?_toArray, List.getElem?_cons_zero, List.getElem?_cons_succ]; rfl) (fun K hK => ?_) AllReadyV.nil
  go_simp
  go_at_call 15
  refine (from_any _ _ _ _ (by omega) (by omega) (by omega) (by omega) HV.out.urn).mono ?_
  rintro e w501 ⟨r, rfl, hr1, hr2, hu, hk⟩
  have HC501 := Lib.hid (HV.out.calls hu hk)
  clear hu hk
  refine hK.out _ _ (behind_cons (fun _ => (HC501.out.box.cell 0)) (behind_cons (fun _ => (HC501.out.box.cell 1)) (fun p hp => by cases hp))) ?_
  clear hK K
  try simp only [Act.put, List.setIfInBounds_toArray, List.set_cons_zero, List.set_cons_succ]
  refine wpAnyV_ready (rs := [8]) (by kernel_rfl) (by simp) ?_
  refine AllReadyV.cons (by simp only [List.getElem?_toArray, List.getElem?_cons_zero, List.getElem?_cons_succ]; rfl) (fun K hK => ?_) AllReadyV.nil
  go_simp
  have hbn := Blok.new w501 3 [.int .i64 lo, .int .i64 r]
  try rw [World.size_alloc] at hbn
  have HN502 := Lib.hid hbn
  clear hbn
  have HC502 := Lib.hid (HC501.out.alloc (.cells #[.int .i64 lo, .int .i64 r] 3))
  refine hK.out _ _ (behind_cons (fun _ => (HC502.out.box.cell 0)) (behind_cons (fun _ => (HC502.out.box.cell 1)) (fun p hp => by cases hp))) ?_
  clear hK K
  try simp only [Act.put, List.setIfInBounds_toArray, List.set_cons_zero, List.set_cons_succ]
  refine wpAnyV_ready (rs := [9]) (by kernel_rfl) (by simp) ?_
  refine AllReadyV.cons (by simp only [List.getElem?_toArray, List.getElem?_cons_zero, List.getElem?_cons_succ]; rfl) (fun K hK => ?_) AllReadyV.nil
  go_simp
  go_at_call 11
  refine (any_any _ _ 2 2 3 [lo, r] _ rfl (by simp) (by simp) HN502.out (HC502.out.urn.ne HN502.out (by decide)) HC502.out.urn).mono ?_
  rintro e w503 ⟨a, rfl, ha, hu, hk⟩
  have HC503 := Lib.hid (HC502.out.calls hu hk)
  clear hu hk
  have hab : lo ≤ a ∧ a ≤ n := by simp at ha; omega
  obtain ⟨a1, a2⟩ := hab
  clear ha hr1 hr2
  refine hK.out _ _ (behind_cons (fun _ => (HC503.out.box.cell 0)) (behind_cons (fun _ => (HC503.out.box.cell 1)) (fun p hp => by cases hp))) ?_
  clear hK K
  try simp only [Act.put, List.setIfInBounds_toArray, List.set_cons_zero, List.set_cons_succ]
  refine wpAnyV_ready (rs := [17]) (by kernel_rfl) (by simp) ?_
  refine AllReadyV.cons (by simp only [List.getElem?_toArray, List.getElem?_cons_zero, List.getElem?_cons_succ]; rfl) (fun K hK => ?_) AllReadyV.nil
  go_simp
  go_at_call 15
  refine (from_any _ _ _ _ (by omega) (by omega) (by omega) (by omega) HC503.out.urn).mono ?_
  rintro e w504 ⟨r, rfl, hr1, hr2, hu, hk⟩
  have HC504 := Lib.hid (HC503.out.calls hu hk)
  clear hu hk
  refine hK.out _ _ (behind_cons (fun _ => (HC504.out.box.cell 0)) (behind_cons (fun _ => (HC504.out.box.cell 1)) (fun p hp => by cases hp))) ?_
  clear hK K
  try simp only [Act.put, List.setIfInBounds_toArray, List.set_cons_zero, List.set_cons_succ]
  refine wpAnyV_ready (rs := [18]) (by kernel_rfl) (by simp) ?_
  refine AllReadyV.cons (by simp only [List.getElem?_toArray, List.getElem?_cons_zero, List.getElem?_cons_succ]; rfl) (fun K hK => ?_) AllReadyV.nil
  go_simp
  have hbn := Blok.new w504 3 [.int .i64 hi, .int .i64 r]
  try rw [World.size_alloc] at hbn
  have HN505 := Lib.hid hbn
  clear hbn
  have HC505 := Lib.hid (HC504.out.alloc (.cells #[.int .i64 hi, .int .i64 r] 3))
  refine hK.out _ _ (behind_cons (fun _ => (HC505.out.box.cell 0)) (behind_cons (fun _ => (HC505.out.box.cell 1)) (fun p hp => by cases hp))) ?_
  clear hK K
  try simp only [Act.put, List.setIfInBounds_toArray, List.set_cons_zero, List.set_cons_succ]
  refine wpAnyV_ready (rs := [19]) (by kernel_rfl) (by simp) ?_
  refine AllReadyV.cons (by simp only [List.getElem?_toArray, List.getElem?_cons_zero, List.getElem?_cons_succ]; rfl) (fun K hK => ?_) AllReadyV.nil
  go_simp
  go_at_call 11
  refine (any_any _ _ 2 2 3 [hi, r] _ rfl (by simp) (by simp) HN505.out (HC505.out.urn.ne HN505.out (by decide)) HC505.out.urn).mono ?_
  rintro e w506 ⟨b, rfl, hb, hu, hk⟩
  have HC506 := Lib.hid (HC505.out.calls hu hk)
  clear hu hk
  have hbb : n ≤ b ∧ b ≤ hi := by simp at hb; omega
  obtain ⟨b1, b2⟩ := hbb
  clear hb hr1 hr2
  refine hK.out _ _ (behind_cons (fun _ => (HC506.out.box.cell 0)) (behind_cons (fun _ => (HC506.out.box.cell 1)) (fun p hp => by cases hp))) ?_
  clear hK K
  try simp only [Act.put, List.setIfInBounds_toArray, List.set_cons_zero, List.set_cons_succ]
  refine wpAnyV_free (i := 20) (v := ?_) (by simp only [List.getElem?_toArray, List.getElem?_cons_zero, List.getElem?_cons_succ]; rfl) (by kernel_rfl) (by kernel_rfl) (by kernel_rfl) (by kernel_rfl) (by exact fun _ _ _ h => h) (Or.inl ⟨by rfl, ?hya22⟩) (behind_cons (fun _ => (HC506.out.box.cell 0)) (behind_cons (fun _ => (HC506.out.box.cell 1)) (fun p hp => by cases hp))) ?resta22
  case hya22 => (intro W' _; go_simp; try with_reducible rfl)
  try simp only [Act.put, List.setIfInBounds_toArray, List.set_cons_zero, List.set_cons_succ]
  refine wpAnyV_ready (rs := [21]) (by kernel_rfl) (by simp) ?_
  refine AllReadyV.cons (by simp only [List.getElem?_toArray, List.getElem?_cons_zero, List.getElem?_cons_succ]; rfl) (fun K hK => ?_) AllReadyV.nil
  have x0 : w506.cell? ⟨w.heap.size + 1, 0, none⟩ = some (.int .i64 0) := HC506.out.res.cell 0
  have x1 : w506.cell? ⟨w.heap.size + 1, 1, none⟩ = some (.int .i64 0) := HC506.out.res.cell 1
  have y0 := HC506.out.res.free 0
  have y1 := HC506.out.res.free 1
  go_simp
  clear x0 x1 y0 y1
  refine hK.out _ _ (behind_cons (fun h => by simp at h) (behind_cons (fun h => by simp at h) (fun p hp => by cases hp))) ?_
  clear hK K
  try simp only [Act.put, List.setIfInBounds_toArray, List.set_cons_zero, List.set_cons_succ]
  refine wpAnyV_done (by kernel_rfl) ?_ _
  have hne : g ≠ w.heap.size + 1 := HC506.out.urn.ne' HC506.out.res (by decide)
  go_wp2_with fail
  refine bodyPost_ret (v := .agg #[.int .i64 a, .int .i64 b]) ?_ rfl ⟨a, b, rfl, a1, a2, b1, b2, (HC506.out.urn.far (by simp; omega) _).far (by simp; omega) _, (HC506.out.kg.putNew (by simp) _).putNew (by simp) _⟩
  exact results_cell_row Try.results22 _ _ (w.heap.size + 1) 39 _ (0, 0) _ rfl ((HC506.out.res.put 0 (.int .i64 a)).put 1 (.int .i64 b)) Try.underlying39 rfl (by kernel_rfl)
end
section
section
open Go.RowKit Dt

structure ORow where
  e : TypeId
  size : Nat
  v : Value
  n : Nat
  xs : List Value
structure OBlok where
  b : Nat
  t : TypeId
  cs : List Value
structure LG (w : World) (g bd : Nat) (d : Dat) (ys fs : List Int) (ve vn vy vf : Value) (K : List OBlok) (L : List ORow) (N : List (Value × List Nt)) (D : List (Value × Dat)) (W : World) : Prop where
  lc : LC w g bd d ys fs ve vn vy vf W
  bl : ∀ p ∈ K, p.t ≠ 66 ∧ w.heap.size ≤ p.b ∧ Blok W p.b p.t p.cs
  ow : ∀ r ∈ L, r.e ≠ 66 ∧ W.ownsRow w.heap.size r.e r.size r.v r.n r.xs
  no : ∀ p ∈ N, NotesO W w.heap.size p.1 p.2
  da : ∀ p ∈ D, DatO W w.heap.size p.1 p.2
section
variable {w W W' : World} {g bd : Nat} {d : Dat} {ys fs : List Int} {ve vn vy vf : Value} {K : List OBlok} {L : List ORow} {N : List (Value × List Nt)} {D : List (Value × Dat)}
theorem LG.calls (h : LG w g bd d ys fs ve vn vy vf K L N D W) (hu : UrnAt W' g) (hk : Kg g W W') : LG w g bd d ys fs ve vn vy vf K L N D W' :=
  ⟨h.lc.calls hu hk, fun p hp => ⟨(h.bl p hp).1, (h.bl p hp).2.1, (h.bl p hp).2.2.kg hk (h.lc.urn.ne (h.bl p hp).2.2 (h.bl p hp).1)⟩, fun r hr => ⟨(h.ow r hr).1, own_kg (h.ow r hr).2 h.lc.urn (h.ow r hr).1 hk⟩,
   fun p hp => (h.no p hp).fx (Fx.of_kg hk h.lc.urn) (fun _ _ _ => by decide), fun p hp => (h.da p hp).kg h.lc.urn hk⟩
theorem LG.to (h : LG w g bd d ys fs ve vn vy vf K L N D W) (hk : Below W.heap.size W W') : LG w g bd d ys fs ve vn vy vf K L N D W' :=
  ⟨h.lc.to hk, fun p hp => ⟨(h.bl p hp).1, (h.bl p hp).2.1, (h.bl p hp).2.2.below hk (h.bl p hp).2.2.size⟩, fun r hr => ⟨(h.ow r hr).1, own_fx (h.ow r hr).2 (Fx.of_all hk) (fun _ _ _ _ => trivial)⟩,
   fun p hp => (h.no p hp).fx (Fx.of_all hk) (fun _ _ _ => ⟨trivial, trivial⟩), fun p hp => (h.da p hp).below hk⟩
theorem LG.alloc (h : LG w g bd d ys fs ve vn vy vf K L N D W) (o : Obj) : LG w g bd d ys fs ve vn vy vf K L N D (W.alloc o) := h.to ((Below.refl _ W).alloc (Nat.le_refl _) o)
theorem LG.drew (h : LG w g bd d ys fs ve vn vy vf K L N D W) : LG w g bd d ys fs ve vn vy vf K L N D W.drew := h.to (Below.refl _ W).drew
theorem LG.urn (h : LG w g bd d ys fs ve vn vy vf K L N D W) : UrnAt W g := h.lc.urn
theorem LG.below (h : LG w g bd d ys fs ve vn vy vf K L N D W) : Below w.heap.size w W := h.lc.below
theorem LG.of (h : LC w g bd d ys fs ve vn vy vf W) : LG w g bd d ys fs ve vn vy vf [] [] [] [] W := ⟨h, by simp, by simp, by simp, by simp⟩
theorem LG.blok (h : LG w g bd d ys fs ve vn vy vf K L N D W) (k : Nat) {p : OBlok} (hp : K[k]? = some p) : Blok W p.b p.t p.cs := (h.bl p (List.mem_of_getElem? hp)).2.2
theorem LG.row (h : LG w g bd d ys fs ve vn vy vf K L N D W) (k : Nat) {r : ORow} (hr : L[k]? = some r) : W.ownsRow w.heap.size r.e r.size r.v r.n r.xs := (h.ow r (List.mem_of_getElem? hr)).2
theorem LG.notes (h : LG w g bd d ys fs ve vn vy vf K L N D W) (k : Nat) {p : Value × List Nt} (hp : N[k]? = some p) : NotesO W w.heap.size p.1 p.2 := h.no p (List.mem_of_getElem? hp)
theorem LG.dat (h : LG w g bd d ys fs ve vn vy vf K L N D W) (k : Nat) {p : Value × Dat} (hp : D[k]? = some p) : DatO W w.heap.size p.1 p.2 := h.da p (List.mem_of_getElem? hp)
theorem LG.addB (h : LG w g bd d ys fs ve vn vy vf K L N D W) (p : OBlok) (h1 : p.t ≠ 66) (h2 : w.heap.size ≤ p.b) (h3 : Blok W p.b p.t p.cs) : LG w g bd d ys fs ve vn vy vf (K ++ [p]) L N D W :=
  ⟨h.lc, fun q hq => by
    rcases List.mem_append.1 hq with hq | hq
    · exact h.bl q hq
    · rw [List.mem_singleton.1 hq]; exact ⟨h1, h2, h3⟩, h.ow, h.no, h.da⟩
theorem LG.addR (h : LG w g bd d ys fs ve vn vy vf K L N D W) (r : ORow) (h1 : r.e ≠ 66) (h3 : W.ownsRow w.heap.size r.e r.size r.v r.n r.xs) : LG w g bd d ys fs ve vn vy vf K (L ++ [r]) N D W :=
  ⟨h.lc, h.bl, fun q hq => by
    rcases List.mem_append.1 hq with hq | hq
    · exact h.ow q hq
    · rw [List.mem_singleton.1 hq]; exact ⟨h1, h3⟩, h.no, h.da⟩
theorem LG.addN (h : LG w g bd d ys fs ve vn vy vf K L N D W) (p : Value × List Nt) (h3 : NotesO W w.heap.size p.1 p.2) : LG w g bd d ys fs ve vn vy vf K L (N ++ [p]) D W :=
  ⟨h.lc, h.bl, h.ow, fun q hq => by
    rcases List.mem_append.1 hq with hq | hq
    · exact h.no q hq
    · rw [List.mem_singleton.1 hq]; exact h3, h.da⟩
theorem LG.addD (h : LG w g bd d ys fs ve vn vy vf K L N D W) (p : Value × Dat) (h3 : DatO W w.heap.size p.1 p.2) : LG w g bd d ys fs ve vn vy vf K L N (D ++ [p]) W :=
  ⟨h.lc, h.bl, h.ow, h.no, fun q hq => by
    rcases List.mem_append.1 hq with hq | hq
    · exact h.da q hq
    · rw [List.mem_singleton.1 hq]; exact h3⟩
/-- A law's start is laid in a world that goes on from w. -/
theorem DatO.mono {B B' : Nat} {v : Value} {d : Dat} (h : DatO W B v d) (hB : B' ≤ B) : DatO W B' v d := by
  obtain ⟨ve, vn, e, h1, xs, h2, h3, h4⟩ := h
  exact ⟨ve, vn, e, h1.mono hB, xs, h2, h3.mono hB, fun p hp => (h4 p hp).mono hB⟩
end
end
section
open Go.RowKit Dt
namespace Dt
/-- The note that a stone is within some years. -/
def spanN (k : Nat) (lo hi : Int) : Nt := ⟨2, k, 0, [], lo, hi⟩
def Dat.withEras (d : Dat) (es : List (Int × Int)) : Dat := ⟨d.stones, es, d.notes⟩
/-- Eras, the first k of which were made narrower. -/
structure Narrowed (es : List (Int × Int)) (k : Nat) (es' : List (Int × Int)) : Prop where
  len : es'.length = es.length
  sub : ∀ (i : Nat) (s t : Int × Int), es[i]? = some s → es'[i]? = some t → s.1 ≤ t.1 ∧ t.1 ≤ t.2 ∧ t.2 ≤ s.2
  rest : ∀ i, k ≤ i → es'[i]? = es[i]?
theorem Narrowed.start {es : List (Int × Int)} (h : ∀ s ∈ es, SpanOk s.1 s.2) : Narrowed es 0 es :=
  ⟨rfl, fun i s t hs ht => by rw [hs] at ht; injection ht with ht; subst ht; exact ⟨Int.le_refl _, (h s (List.mem_of_getElem? hs)).2.1, Int.le_refl _⟩, fun _ _ => rfl⟩
theorem Narrowed.step {es es' : List (Int × Int)} {k : Nat} {s : Int × Int} {a b : Int} (h : Narrowed es k es') (hs : es[k]? = some s) (h1 : s.1 ≤ a) (h2 : a ≤ b) (h3 : b ≤ s.2) : Narrowed es (k + 1) (es'.set k (a, b)) := by
  refine ⟨by rw [List.length_set, h.len], fun i s' t hs' ht => ?_, fun i hi => ?_⟩
  · by_cases e : k = i
    · subst e
      rw [hs] at hs'
      injection hs' with hs'
      subst hs'
      have hk := (List.getElem?_eq_some_iff.1 ht).1
      rw [List.getElem?_set_self (by simpa using hk)] at ht
      injection ht with ht
      subst ht
      exact ⟨h1, h2, h3⟩
    · rw [List.getElem?_set_ne e] at ht
      exact h.sub i s' t hs' ht
  · rw [List.getElem?_set_ne (by omega)]
    exact h.rest i (by omega)
theorem flatS_set : ∀ (l : List (Int × Int)) (k : Nat) (s : Int × Int), ((flatS l).set (k * 2) (.int .i64 s.1)).set (k * 2 + 1) (.int .i64 s.2) = flatS (l.set k s)
  | [], _, _ => rfl
  | x :: l, 0, s => by simp [flatS]
  | x :: l, k + 1, s => by
    have := flatS_set l k s
    have e : flatS (x :: l) = .int .i64 x.1 :: .int .i64 x.2 :: flatS l := by simp [flatS]
    rw [e, show (k + 1) * 2 = k * 2 + 1 + 1 by omega, show k * 2 + 1 + 1 + 1 = (k * 2 + 1) + 1 + 1 by omega]
    simp only [List.set_cons_succ, List.set_cons_zero]
    rw [this]
    simp [flatS]
theorem narrow_ok {d : Dat} {es' : List (Int × Int)} (h : d.Ok) (hn : Narrowed d.eras d.eras.length es') : (d.withEras es').Ok := by
  refine ⟨h.stones, ⟨by show es'.length ≤ 3; rw [hn.len]; exact h.eras.1, fun t ht => ?_⟩, ⟨h.notes.1, fun n hn' => nt_ok (h.notes.2 n hn') rfl hn.len⟩⟩
  obtain ⟨i, hi⟩ := List.getElem?_of_mem ht
  have hil : i < es'.length := (List.getElem?_eq_some_iff.1 hi).1
  obtain ⟨s, hs⟩ : ∃ s, d.eras[i]? = some s := ⟨_, List.getElem?_eq_getElem (by have := hn.len; omega)⟩
  have h1 := hn.sub i s t hs hi
  have h2 := h.eras.2 s (List.mem_of_getElem? hs)
  unfold SpanOk at h2 ⊢
  omega
theorem narrow_is {d : Dat} {es' : List (Int × Int)} (hn : Narrowed d.eras d.eras.length es') (x : Nat → Int) (h : (d.withEras es').Is x) : d.Is x := by
  refine ⟨h.zero, fun p hp => ?_, h.notes⟩
  have hb := h.base p hp
  unfold Dat.base at hb ⊢
  by_cases p0 : p = 0
  · rw [if_pos p0] at hb ⊢
    exact hb
  · by_cases p7 : p < 7
    · rw [if_neg p0, if_pos p7] at hb ⊢
      exact hb
    · rw [if_neg p0, if_neg p7] at hb ⊢
      show (d.eras.getD (p - 7) (-3000, 3000)).1 ≤ x p ∧ x p ≤ (d.eras.getD (p - 7) (-3000, 3000)).2
      rw [List.getD_eq_getElem?_getD] at hb ⊢
      have hb' : ((es'[p - 7]?).getD (-3000, 3000)).1 ≤ x p ∧ x p ≤ ((es'[p - 7]?).getD (-3000, 3000)).2 := hb
      cases hg : d.eras[p - 7]? with
      | none =>
        have : es'[p - 7]? = none := by
          rw [List.getElem?_eq_none_iff] at hg ⊢
          rw [hn.len]; exact hg
        rw [this] at hb'
        exact hb'
      | some s =>
        obtain ⟨t, ht⟩ : ∃ t, es'[p - 7]? = some t := ⟨_, List.getElem?_eq_getElem (by rw [hn.len]; exact (List.getElem?_eq_some_iff.1 hg).1)⟩
        rw [ht] at hb'
        have := hn.sub _ s t hg ht
        simp only [Option.getD_some] at hb' ⊢
        omega
theorem spanN_ok {d : Dat} {k : Nat} {lo hi : Int} (hk : k < d.stones) (h : SpanOk lo hi) : (spanN k lo hi).Ok d :=
  ⟨hk, ⟨by simp [spanN], by simp [spanN]⟩, fun h => by simp [spanN] at h, fun _ => ⟨rfl, h⟩, fun _ => rfl, fun h => by simp [spanN] at h, fun h => by simp [spanN] at h⟩
/-- Less truths: no span is wider, and a verdict that is sure stays. -/
theorem less_span {d x : Dat} (hd : d.Ok) (hx : x.Ok) (hm : x.may) (hsub : ∀ y, x.Is y → d.Is y) (p : Nat) (hp : p < 10) : (d.span p).1 ≤ (x.span p).1 ∧ (x.span p).2 ≤ (d.span p).2 := by
  obtain ⟨⟨a, ha, h1⟩, ⟨b, hb, h2⟩, _⟩ := span_spec hx hm p hp
  have h3 := (span_spec hd (by obtain ⟨y, hy⟩ := hm; exact ⟨y, hsub y hy⟩) p hp).2.2
  have ha' := h3 a (hsub a ha)
  have hb' := h3 b (hsub b hb)
  omega
theorem less_verdict {T T' so : (Nat → Int) → Prop} {v u : Nat} (h : Verdict T so v) (h' : Verdict T' so u) (hsub : ∀ y, T' y → T y) : v = 3 ∨ u = v := by
  rcases h.rest with e | e | e
  · exact .inr ((h'.yes.2 fun y hy => h.yes.1 e y (hsub y hy)).trans e.symm)
  · exact .inr ((h'.no.2 fun y hy => h.no.1 e y (hsub y hy)).trans e.symm)
  · exact .inl e
/-- What more is known of a dating. -/
structure More (d x : Dat) : Prop where
  ok : x.Ok
  sub : ∀ y, x.Is y → d.Is y
  stones : x.stones = d.stones
  eras : x.eras.length = d.eras.length
theorem more_mk {d : Dat} {es' : List (Int × Int)} {k : Nat} {lo hi : Int} (h : d.Ok) (hn : Narrowed d.eras d.eras.length es') (hk : k < d.stones) (hs : SpanOk lo hi) (h8 : d.notes.length < 8) : More d ((d.withEras es').plus (spanN k lo hi)) :=
  ⟨plus_ok (narrow_ok h hn) (spanN_ok hk hs) h8, fun y hy => narrow_is hn y ((plus_is y).1 hy).1, rfl, hn.len⟩
end Dt
section
variable {w W : World} {g bd : Nat} {d : Dat} {ys fs : List Int} {ve vn vy vf : Value} {K : List OBlok} {N : List (Value × List Nt)} {es : List (Int × Int)}
/-- A span stored into a row of spans that is none of the dating's. -/
theorem LG.span {gx n c k : Nat} {a b : Int} (h : LG w g bd d ys fs ve vn vy vf K [⟨39, 2, .slice (some ⟨gx, 0, none⟩) n c, n, flatS es⟩] N [] W) (hne : ve.ownBlock ≠ some gx) (hK : ∀ p ∈ K, p.t ≠ 39) :
    LG w g bd d ys fs ve vn vy vf K [⟨39, 2, .slice (some ⟨gx, 0, none⟩) n c, n, flatS (es.set k (a, b))⟩] N [] ((W.setCell ⟨gx, k * 2, none⟩ (.int .i64 a)).setCell ⟨gx, k * 2 + 1, none⟩ (.int .i64 b)) := by
  have ho := (h.ow _ (List.mem_singleton.2 rfl)).2
  have hgx : w.heap.size ≤ gx := (ho.lt gx rfl).1
  obtain ⟨cs, hb⟩ : ∃ cs, Blok W gx 39 cs := by
    rcases ho.2 with ⟨e, _⟩ | ⟨r, cap, cur, e, _, e3, _⟩
    · cases e
    · injection e with e
      injection e with e
      injection e with e
      subst e
      exact ⟨cur.toList, by unfold Blok; rw [e3]⟩
  have hug : g ≠ gx := h.lc.urn.ne' hb (by decide)
  have hfx : Fx (fun i _ => i ≠ gx) W ((W.setCell ⟨gx, k * 2, none⟩ (.int .i64 a)).setCell ⟨gx, k * 2 + 1, none⟩ (.int .i64 b)) := (Fx.of_put W ⟨gx, k * 2, none⟩ _).trans (Fx.of_put _ ⟨gx, k * 2 + 1, none⟩ _)
  have hT : ∀ {t : TypeId} {b : Nat} {cs' : List Value}, Blok W b t cs' → t ≠ 39 → b ≠ gx := fun h1 h2 => blok_ne h1 hb h2
  have hO : ∀ {base size n : Nat} {e : TypeId} {v : Value} {xs : List Value}, W.ownsRow base e size v n xs → v.ownBlock ≠ some gx → ((W.setCell ⟨gx, k * 2, none⟩ (.int .i64 a)).setCell ⟨gx, k * 2 + 1, none⟩ (.int .i64 b)).ownsRow base e size v n xs := fun h1 h2 => own_fx h1 hfx fun b' _ _ hb' e => h2 (by rw [hb', e])
  have hO' : ∀ {base size n : Nat} {e : TypeId} {v : Value} {xs : List Value}, W.ownsRow base e size v n xs → e ≠ 39 → ((W.setCell ⟨gx, k * 2, none⟩ (.int .i64 a)).setCell ⟨gx, k * 2 + 1, none⟩ (.int .i64 b)).ownsRow base e size v n xs := fun h1 h2 => hO h1 (own_ne h1 hb h2)
  have hN : ∀ {v : Value} {l : List Nt}, NotesO W w.heap.size v l → NotesO ((W.setCell ⟨gx, k * 2, none⟩ (.int .i64 a)).setCell ⟨gx, k * 2 + 1, none⟩ (.int .i64 b)) w.heap.size v l := fun ⟨xs, e, h1, h2⟩ => ⟨xs, e, hO' h1 (by decide), fun p hp => hO' (h2 p hp) (by decide)⟩
  refine ⟨⟨(h.lc.urn.far hug _).far hug _, h.lc.hg, (h.lc.below.setCell (p := ⟨gx, k * 2, none⟩) hgx _).setCell (p := ⟨gx, k * 2 + 1, none⟩) hgx _, hfx _ _ _ (hT h.lc.kd (by decide)) h.lc.kd, hfx _ _ _ (hT h.lc.kw (by decide)) h.lc.kw, ?_, hO' h.lc.oy (by decide), hO' h.lc.of (by decide), h.lc.zd⟩,
    fun p hp => ⟨(h.bl p hp).1, (h.bl p hp).2.1, hfx _ _ _ (hT (h.bl p hp).2.2 (hK p hp)) (h.bl p hp).2.2⟩, fun r hr => ?_, fun p hp => hN (h.no p hp), by simp⟩
  · obtain ⟨ve', vn', e, h1, h2⟩ := h.lc.dat
    injection e with e
    simp at e
    obtain ⟨rfl, rfl⟩ := e
    exact ⟨_, _, rfl, hO h1 hne, hN h2⟩
  · rw [List.mem_singleton.1 hr]
    refine ⟨by show (39 : TypeId) ≠ 66; decide, ?_⟩
    have := ((ho.stored (k * 2) (.int .i64 a)).1.stored (k * 2 + 1) (.int .i64 b)).1
    rw [flatS_set es k (a, b)] at this
    exact this
end
end
end
end Go.Proofs.Ytcbdcdpoackplaa
