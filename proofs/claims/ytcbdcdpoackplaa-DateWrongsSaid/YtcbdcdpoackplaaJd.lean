/- bound: each stone within some years. -/
import Derived.Test.YtcbdcdpoackplaaJa
import Derived.Test.YtcbdcdpoackplaaGl
namespace Go.Proofs.Ytcbdcdpoackplaa
open Go.RowKit Dt

/-- What bound holds ahead of its dating. -/
structure BS (w : World) (d : Dat) (ve vd : Value) (W : World) : Prop where
  k1 : Blok W (w.heap.size + 1) 28 zeroD
  kd : Blok W w.heap.size 28 [.int .i64 d.stones, ve, vd]
  below : Below w.heap.size w W
theorem BS.to {w W W' : World} {d : Dat} {ve vd : Value} (h : BS w d ve vd W) (hb : Below W.heap.size W W') : BS w d ve vd W' := ⟨h.k1.below hb h.k1.size, h.kd.below hb h.kd.size, h.below.trans (hb.mono h.below.size)⟩
theorem BS.alloc {w W : World} {d : Dat} {ve vd : Value} (h : BS w d ve vd W) (o : Obj) : BS w d ve vd (W.alloc o) := h.to ((Below.refl _ W).alloc (Nat.le_refl _) o)
theorem BS.drew {w W : World} {d : Dat} {ve vd : Value} (h : BS w d ve vd W) : BS w d ve vd W.drew := h.to (Below.refl _ W).drew
theorem DatO.down {w W : World} {B : Nat} {v : Value} {d : Dat} (h : DatO w B v d) (hb : Below w.heap.size w W) : DatO W B v d := h.fx (Fx.of_below hb) fun _ _ _ hb _ => hb
/-- What bound holds on its way. -/
structure BV (w : World) (B : Nat) (d : Dat) (ve vd : Value) (bx : Nat) (va vc vn : Value) (l : List Nt) (W : World) : Prop where
  bs : BS w d ve vd W
  kx : Blok W bx 28 [.int .i64 d.stones, va, vc]
  hb : w.heap.size + 1 < bx
  oe : W.ownsRow w.heap.size 39 2 va d.eras.length (flatS d.eras)
  no : ∃ xs : List (Nt × Value), xs.map Prod.fst = l ∧ W.ownsRow w.heap.size 51 6 vn l.length (cellsN xs) ∧ ∀ p ∈ xs, IntsO W B p.2 p.1.years
section
variable {w W W' : World} {B : Nat} {d : Dat} {ve vd : Value} {bx : Nat} {va vc vn : Value} {l : List Nt}
theorem BV.to (h : BV w B d ve vd bx va vc vn l W) (hb : Below W.heap.size W W') : BV w B d ve vd bx va vc vn l W' := by
  refine ⟨h.bs.to hb, h.kx.below hb h.kx.size, h.hb, own_fx h.oe (Fx.of_all hb) (fun _ _ _ _ => trivial), ?_⟩
  obtain ⟨xs, e, h1, h2⟩ := h.no
  exact ⟨xs, e, own_fx h1 (Fx.of_all hb) (fun _ _ _ _ => trivial), fun p hp => own_fx (h2 p hp) (Fx.of_all hb) (fun _ _ _ _ => trivial)⟩
theorem BV.alloc (h : BV w B d ve vd bx va vc vn l W) (o : Obj) : BV w B d ve vd bx va vc vn l (W.alloc o) := h.to ((Below.refl _ W).alloc (Nat.le_refl _) o)
theorem BV.drew (h : BV w B d ve vd bx va vc vn l W) : BV w B d ve vd bx va vc vn l W.drew := h.to (Below.refl _ W).drew
/-- A note is appended. -/
theorem BV.note {vn' vy : Value} {x : Nt} {xs : List (Nt × Value)} (h : BV w B d ve vd bx va vc vn l W) (hxs : xs.map Prod.fst = l) (hon : W.ownsRow w.heap.size 51 6 vn l.length (cellsN xs)) (hyr : ∀ p ∈ xs, IntsO W B p.2 p.1.years)
    (hg : W.grownBy W' vn.ownBlock) (hn : W'.ownsRow w.heap.size 51 6 vn' (l.length + 1) (cellsN xs ++ ntL x vy)) (hvy : IntsO W B vy x.years) : BV w B d ve vd bx va vc vn' (l ++ [x]) W' := by
  have hb : ∀ {t : TypeId} {b : Nat} {cs : List Value}, t ≠ 51 → Blok W b t cs → Blok W' b t cs := fun ht h' => h'.grown hg (own_ne hon h' (fun e => ht e.symm))
  have hO : ∀ {base size n : Nat} {e : TypeId} {u : Value} {cs : List Value}, e ≠ 51 → W.ownsRow base e size u n cs → W'.ownsRow base e size u n cs := fun he h' => own_fx h' (Fx.of_grown hg) (fun b _ _ hb' => own_disj h' hon he b hb')
  refine ⟨⟨hb (by decide) h.bs.k1, hb (by decide) h.bs.kd, h.bs.below.grown hg h.bs.below.size (fun k hk => (hon.lt k hk).1)⟩, hb (by decide) h.kx, h.hb, hO (by decide) h.oe, xs ++ [(x, vy)], by rw [List.map_append, hxs]; rfl, ?_, fun p hp => ?_⟩
  · rw [cellsN_snoc, List.length_append]
    exact hn
  · rcases List.mem_append.1 hp with hp | hp
    · exact hO (by decide) (hyr p hp)
    · rw [List.mem_singleton.1 hp]
      exact hO (by decide) hvy
/-- The slice of notes is stored. -/
theorem BV.put (h : BV w B d ve vd bx va vc vn l W) (u : Value) : BV w B d ve vd bx va u vn l (W.setCell ⟨bx, 2, none⟩ u) := by
  have hx := h.hb
  have hO : ∀ {base size n : Nat} {e : TypeId} {v : Value} {xs : List Value}, e ≠ 28 → W.ownsRow base e size v n xs → (W.setCell ⟨bx, 2, none⟩ u).ownsRow base e size v n xs := fun he h' => own_far h' (own_ne h' h.kx he) u
  refine ⟨⟨h.bs.k1.far (by show w.heap.size + 1 ≠ bx; omega) u, h.bs.kd.far (by show w.heap.size ≠ bx; omega) u, h.bs.below.setCell (p := ⟨bx, 2, none⟩) (by show w.heap.size ≤ bx; omega) u⟩, h.kx.put 2 u, h.hb, hO (by decide) h.oe, ?_⟩
  obtain ⟨xs, e, h1, h2⟩ := h.no
  exact ⟨xs, e, hO (by decide) h1, fun p hp => hO (by decide) (h2 p hp)⟩
/-- The first store of the dating. -/
theorem BV.first {gv : Nat} {wq : World} (h : BS w d ve vd wq) (hx : Blok wq gv 28 zeroD) (hg : w.heap.size + 1 < gv) (ho : wq.ownsRow w.heap.size 39 2 va d.eras.length (flatS d.eras)) :
    BV w B d ve vd gv va (.slice none 0 0) (.slice none 0 0) [] (((wq.setCell ⟨gv, 0, none⟩ (.int .i64 d.stones)).setCell ⟨gv, 1, none⟩ va).setCell ⟨gv, 2, none⟩ (.slice none 0 0)) := by
  have hn := own_ne ho hx (by decide)
  refine ⟨⟨((h.k1.far (by show w.heap.size + 1 ≠ gv; omega) _).far (by show w.heap.size + 1 ≠ gv; omega) _).far (by show w.heap.size + 1 ≠ gv; omega) _, ((h.kd.far (by show w.heap.size ≠ gv; omega) _).far (by show w.heap.size ≠ gv; omega) _).far (by show w.heap.size ≠ gv; omega) _,
    ((h.below.setCell (p := ⟨gv, 0, none⟩) (by show w.heap.size ≤ gv; omega) _).setCell (p := ⟨gv, 1, none⟩) (by show w.heap.size ≤ gv; omega) _).setCell (p := ⟨gv, 2, none⟩) (by show w.heap.size ≤ gv; omega) _⟩, ((hx.put 0 _).put 1 _).put 2 _, hg, own_far (own_far (own_far ho hn _) hn _) hn _, [], rfl, World.ownsRow_nil _ _ _ _, by simp⟩
end
theorem bounds_succ (n : Nat) : bounds (n + 1) = bounds n ++ [spanN n (-900) 900] := by simp [bounds, List.range_succ]
set_option maxRecDepth 100000 in
set_option maxHeartbeats 8000000 in
theorem bound_any (d : Dat) (hd : d.Ok) (B : Nat) (v : Value) (w : World) (hB : B ≤ w.heap.size) (hv : DatO w B v d) :
    Calls Try.prog 25 #[v] w fun e w' => ∃ v', e = .returned v' ∧ DatO w' B v' d.bound ∧ Below w.heap.size w w' := by
  obtain ⟨Ae, ce, An, cn, rfl⟩ := hv.slices
  have HDV := Lib.hid hv
  have HD := Lib.hid hd
  have h8 := hd.notes.1
  have he3 := hd.eras.1
  have hs6 := hd.stones
  obtain ⟨kI, hi, hz0, hz1, hz2⟩ := info_parts info_napi
  have HQ := Lib.hid hi
  have HQ0 := Lib.hid hz0
  have HQ1 := Lib.hid hz1
  have HQ2 := Lib.hid hz2
  clear hi hz0 hz1 hz2 hv hd
  go_enter Try.func25, Try.ntmps25
  go_wp2_with fail
  obtain ⟨w0, hw0⟩ : ∃ w0, w0 = (w.alloc (.cells #[.int .i64 d.stones, .slice Ae d.eras.length ce, .slice An d.notes.length cn] 28)).alloc (.cells #[.int .i64 0, .slice none 0 0, .slice none 0 0] 28) := ⟨_, rfl⟩
  have hbs : BS w d (.slice Ae d.eras.length ce) (.slice An d.notes.length cn) w0 := by
    rw [hw0]
    refine ⟨?_, (Blok.new w _ _).alloc _, ((Below.refl _ w).alloc (Nat.le_refl _) _).alloc (by simp) _⟩
    have := Blok.new (w.alloc (.cells #[.int .i64 d.stones, .slice Ae d.eras.length ce, .slice An d.notes.length cn] 28)) 28 [.int .i64 0, .slice none 0 0, .slice none 0 0]
    simpa only [World.size_alloc, zeroD] using this
  have hz0 : w0.heap.size = w.heap.size + 2 := by rw [hw0]; simp
  rw [← hw0]
  have HBS := Lib.hid hbs
  clear hbs hw0
  refine wp_region_v [(fun j => j == 1 || j == 3 || j == 4 || j == 5 || j == 6, fun W => W.cell? ⟨w.heap.size, 0, none⟩ = some (.int .i64 d.stones)), (fun j => j == 3 || j == 4 || j == 5 || j == 6, fun W => W.cell? ⟨w.heap.size, 1, none⟩ = some (.slice Ae d.eras.length ce))] (by kernel_rfl) ?_
  refine wpAnyV_world (fun W => BS w d (.slice Ae d.eras.length ce) (.slice An d.notes.length cn) W) HBS.out.drew (fun V hV => ?_)
  have HV := Lib.hid hV
  clear hV
  refine wpAnyV_free (i := 0) (v := ?_) (by simp only [List.getElem?_toArray, List.getElem?_cons_zero]; rfl) (by kernel_rfl) (by kernel_rfl) (by kernel_rfl) (by kernel_rfl) (by exact fun _ _ _ h => h) (Or.inl ⟨by rfl, ?hya2⟩) (behind_cons (fun h => by simp at h) (behind_cons (fun h => by simp at h) (fun p hp => by cases hp))) ?resta2
  case hya2 => (intro W' _; go_simp; try with_reducible rfl)
  try simp only [Act.put, List.setIfInBounds_toArray, List.set_cons_zero, List.set_cons_succ]
  refine wpAnyV_free (i := 2) (v := ?_) (by simp only [List.getElem?_toArray, List.getElem?_cons_zero, List.getElem?_cons_succ]; rfl) (by kernel_rfl) (by kernel_rfl) (by kernel_rfl) (by kernel_rfl) (by exact fun _ _ _ h => h) (Or.inl ⟨by rfl, ?hya3⟩) (behind_cons (fun h => by simp at h) (behind_cons (fun h => by simp at h) (fun p hp => by cases hp))) ?resta3
  case hya3 => (intro W' _; go_simp; try with_reducible rfl)
  try simp only [Act.put, List.setIfInBounds_toArray, List.set_cons_zero, List.set_cons_succ]
  refine wpAnyV_take (i := 1) (m := 0) (v := ?_) (by simp only [List.getElem?_toArray, List.getElem?_cons_zero, List.getElem?_cons_succ]; rfl) (by rfl) (by kernel_rfl) (by kernel_rfl) (by kernel_rfl) (by kernel_rfl) (by exact fun _ _ _ h => h) (Or.inl ⟨by rfl, ?hya4⟩) ((HV.out.kd.cell 0)) (behind_cons (fun _ => (HV.out.kd.cell 0)) (behind_cons (fun h => by simp at h) (fun p hp => by cases hp))) ?resta4
  case hya4 => (intro W' hSW; go_simp; try with_reducible rfl)
  try simp only [Act.put, List.setIfInBounds_toArray, List.set_cons_zero, List.set_cons_succ]
  refine wpAnyV_take (i := 3) (m := 1) (v := ?_) (by simp only [List.getElem?_toArray, List.getElem?_cons_zero, List.getElem?_cons_succ]; rfl) (by rfl) (by kernel_rfl) (by kernel_rfl) (by kernel_rfl) (by kernel_rfl) (by exact fun _ _ _ h => h) (Or.inl ⟨by rfl, ?hya5⟩) ((HV.out.kd.cell 1)) (behind_cons (fun _ => (HV.out.kd.cell 0)) (behind_cons (fun _ => (HV.out.kd.cell 1)) (fun p hp => by cases hp))) ?resta5
  case hya5 => (intro W' hSW; go_simp; try with_reducible rfl)
  try simp only [Act.put, List.setIfInBounds_toArray, List.set_cons_zero, List.set_cons_succ]
  refine wpAnyV_ready (rs := [4, 6]) (by kernel_rfl) (by simp) ?_
  refine AllReadyV.cons (by simp only [List.getElem?_toArray, List.getElem?_cons_zero, List.getElem?_cons_succ]; rfl) (fun K hK => ?_) (AllReadyV.cons (by simp only [List.getElem?_toArray, List.getElem?_cons_zero, List.getElem?_cons_succ]; rfl) (fun K hK => ?_) AllReadyV.nil)
  · go_simp
    go_at_call 52
    refine (spansC_any d.eras (by omega) B (.slice Ae d.eras.length ce) _ (by obtain ⟨ve2, vn2, e2, h1, _⟩ := HDV.out.down HV.out.below; injection e2 with e2; simp at e2; obtain ⟨rfl, rfl⟩ := e2; exact h1)).mono ?_
    rintro e w501 ⟨vs, rfl, hs, hb⟩
    obtain ⟨Ax, cx, rfl⟩ := own_slice hs
    have HE501 := Lib.hid (hs.mono (base' := w.heap.size) HV.out.below.size)
    have HC501 := Lib.hid (HV.out.to hb)
    clear hb hs
    refine hK.out _ _ (behind_cons (fun _ => (HC501.out.kd.cell 0)) (behind_cons (fun _ => (HC501.out.kd.cell 1)) (fun p hp => by cases hp))) ?_
    clear hK K
    try simp only [Act.put, List.setIfInBounds_toArray, List.set_cons_zero, List.set_cons_succ]
    refine wpAnyV_free (i := 5) (v := ?_) (by simp only [List.getElem?_toArray, List.getElem?_cons_zero, List.getElem?_cons_succ]; rfl) (by kernel_rfl) (by kernel_rfl) (by kernel_rfl) (by kernel_rfl) (by exact fun _ _ _ h => h) (Or.inl ⟨by rfl, ?hya7⟩) (behind_cons (fun _ => (HC501.out.kd.cell 0)) (behind_cons (fun _ => (HC501.out.kd.cell 1)) (fun p hp => by cases hp))) ?resta7
    case hya7 => (intro W' _; go_simp; try with_reducible rfl)
    try simp only [Act.put, List.setIfInBounds_toArray, List.set_cons_zero, List.set_cons_succ]
    refine wpAnyV_ready (rs := [6]) (by kernel_rfl) (by simp) ?_
    refine AllReadyV.cons (by simp only [List.getElem?_toArray, List.getElem?_cons_zero, List.getElem?_cons_succ]; rfl) (fun K hK => ?_) AllReadyV.nil
    go_simp
    have HC502 := Lib.hid (HC501.out.alloc (.cells #[.int .i64 0, .slice none 0 0, .slice none 0 0] 28))
    have HX502 : Hid (Blok (w501.alloc (.cells #[.int .i64 0, .slice none 0 0, .slice none 0 0] 28)) w501.heap.size 28 zeroD) := Lib.hid (Blok.new w501 _ _)
    have hzx : w.heap.size + 1 < w501.heap.size := by have := HC501.out.k1.size; omega
    have HE502 := Lib.hid (HE501.out.alloc (.cells #[.int .i64 0, .slice none 0 0, .slice none 0 0] 28))
    refine hK.out _ _ (behind_cons (fun _ => (HC502.out.kd.cell 0)) (behind_cons (fun _ => (HC502.out.kd.cell 1)) (fun p hp => by cases hp))) ?_
    clear hK K
    try simp only [Act.put, List.setIfInBounds_toArray, List.set_cons_zero, List.set_cons_succ]
    refine wpAnyV_ready (rs := [7]) (by kernel_rfl) (by simp) ?_
    refine AllReadyV.cons (by simp only [List.getElem?_toArray, List.getElem?_cons_zero, List.getElem?_cons_succ]; rfl) (fun K hK => ?_) AllReadyV.nil
    obtain ⟨bx, hbx⟩ : ∃ bx, bx = w501.heap.size := ⟨_, rfl⟩
    have HC503 := HC502
    have HX503 := HX502
    have HE503 := HE502
    obtain ⟨wq, hwq⟩ : ∃ wq, wq = (w501.alloc (.cells #[.int .i64 0, .slice none 0 0, .slice none 0 0] 28)) := ⟨_, rfl⟩
    rw [← hwq] at HC503 HX503 HE503 ⊢
    rw [← hbx] at HX503 hzx ⊢
    clear hwq hbx
    have y0 := HX503.out.free 0
    have y1 := HX503.out.free 1
    have y2 := HX503.out.free 2
    have z0 : wq.cell? ⟨bx, 0, none⟩ = some (.int .i64 0) := HX503.out.cell 0
    have z1 : wq.cell? ⟨bx, 1, none⟩ = some (.slice none 0 0) := HX503.out.cell 1
    have z2 : wq.cell? ⟨bx, 2, none⟩ = some (.slice none 0 0) := HX503.out.cell 2
    go_simp
    clear y0 y1 y2 z0 z1 z2
    refine hK.out _ _ (behind_cons (fun h => by simp at h) (behind_cons (fun h => by simp at h) (fun p hp => by cases hp))) ?_
    clear hK K
    try simp only [Act.put, List.setIfInBounds_toArray, List.set_cons_zero, List.set_cons_succ]
    refine wpAnyV_done (by kernel_rfl) ?_ _
    have hs0 := BV.first (B := B) HC503.out HX503.out hzx HE503.out
    obtain ⟨w5, hw5⟩ : ∃ w5, w5 = (((wq.setCell ⟨bx, 0, none⟩ (.int .i64 d.stones)).setCell ⟨bx, 1, none⟩ (.slice Ax d.eras.length cx)).setCell ⟨bx, 2, none⟩ (.slice none 0 0)) := ⟨_, rfl⟩
    rw [← hw5] at hs0 ⊢
    have HS := Lib.hid hs0
    clear hs0 hw5 HBS hz0 hzx
    go_wp2_with fail
    go_loopg [4] d.notes.length (fun r i wr => ∃ (k : Nat) (vn : Value), i = .int .i64 (k : Nat) ∧ k + r = d.notes.length ∧ k + d.stones ≤ 8 ∧ BV w B d (.slice Ae d.eras.length ce) (.slice An d.notes.length cn) bx (.slice Ax d.eras.length cx) vn vn (d.notes.take k) wr)
    case atStart => exact ⟨0, _, rfl, by omega, by omega, HS.out⟩
    case round =>
      clear HS
      obtain ⟨k, vn, rfl, hkr, hk8, hs⟩ := hrel
      obtain ⟨xs, hxs, hon, hyr⟩ := hs.no
      obtain ⟨Bn, bn, rfl⟩ := own_slice hon
      have hlt : (d.notes.take k).length = k := by rw [List.length_take]; omega
      rw [hlt] at hs hon
      have HS := Lib.hid hs
      have d0 := HS.out.bs.kd.cell 0
      have d2 := HS.out.bs.kd.cell 2
      have x2 := HS.out.kx.cell 2
      simp at d0 d2 x2
      have HXS := Lib.hid hxs
      have HON := Lib.hid hon
      have HYR := Lib.hid hyr
      have HLT := Lib.hid hlt
      clear hs hxs hon hyr hlt
      by_cases hgo : k < d.notes.length ∧ k + d.stones < 8
      · obtain ⟨hk1, hk2⟩ := hgo
        obtain ⟨ve', vn', e', _, ys0, hys0, hyo, hyy⟩ := HDV.out
        injection e' with e'
        simp at e'
        obtain ⟨rfl, rfl⟩ := e'
        obtain ⟨gn, rfl⟩ := own_addr hyo (by omega)
        have hyl : ys0.length = d.notes.length := by
          have : (ys0.map Prod.fst).length = d.notes.length := congrArg List.length hys0
          rw [List.length_map] at this
          exact this
        obtain ⟨p, hp⟩ : ∃ p, ys0[k]? = some p := ⟨_, List.getElem?_eq_getElem (by omega)⟩
        have hx : d.notes[k]? = some p.1 := by rw [← hys0, List.getElem?_map, hp]; rfl
        obtain ⟨Ay, cy, hpv⟩ := own_slice (hyy p (List.mem_of_getElem? hp))
        obtain ⟨q, hq⟩ : ∃ q : Nt, q = p.1 := ⟨_, rfl⟩
        obtain ⟨nq, hnq⟩ : ∃ nq, nq = p.1.years.length := ⟨_, rfl⟩
        have HCN := Lib.hid (fun (W : World) (hb : Below w.heap.size w W) (j : Nat) (hj : j < 6) => (show W.cell? ⟨gn, k * 6 + j, none⟩ = (ntL q (.slice Ay nq cy))[j]? by
          have e3 : w.cell? ⟨gn, k * 6 + j, none⟩ = (ntL q (.slice Ay nq cy))[j]? := by
            rw [hyo.cellAt (k * 6 + j) (by omega), hq, hnq, ← hpv]
            exact cellsN_at ys0 k p j hp hj
          rw [← e3]
          exact hb.cell (p := ⟨gn, k * 6 + j, none⟩) (hyo.lt gn rfl).2))
        have HYQ := Lib.hid (fun (W : World) (hb : Below w.heap.size w W) => (show IntsO W B (.slice Ay nq cy) q.years by
          rw [hq, hnq, ← hpv]
          exact own_fx (hyy p (List.mem_of_getElem? hp)) (Fx.of_below hb) (fun b _ hb _ => hb)))
        have HX := Lib.hid (show d.notes[k]? = some q by rw [hq]; exact hx)
        clear hys0 hyo hyy hyl hp hx hpv hq hnq
        go_wp2_with fail
        clear d0 d2 x2
        refine wp_region_v [(fun j => j == 1 || j == 3 || j == 5 || j == 6 || j == 7 || j == 8 || j == 9, fun W => W.cell? ⟨bx, 2, none⟩ = some (.slice Bn k bn)), (fun j => j == 3 || j == 5 || j == 6 || j == 7 || j == 8 || j == 9, fun W => W.cell? ⟨w.heap.size, 2, none⟩ = some (.slice (some ⟨gn, 0, none⟩) d.notes.length cn)), (fun j => j == 6 || j == 7 || j == 8 || j == 9, fun W => W.cell? ⟨gn, k * 6, none⟩ = some (.int .i64 q.kind) ∧ W.cell? ⟨gn, k * 6 + 1, none⟩ = some (.int .i64 q.stone) ∧ W.cell? ⟨gn, k * 6 + 2, none⟩ = some (.int .i64 q.other) ∧ W.cell? ⟨gn, k * 6 + 3, none⟩ = some (.slice Ay nq cy) ∧ W.cell? ⟨gn, k * 6 + 4, none⟩ = some (.int .i64 q.lo) ∧ W.cell? ⟨gn, k * 6 + 5, none⟩ = some (.int .i64 q.hi))] (by kernel_rfl) ?_
        refine wpAnyV_world (fun W => BV w B d (.slice Ae d.eras.length ce) (.slice (some ⟨gn, 0, none⟩) d.notes.length cn) bx (.slice Ax d.eras.length cx) (.slice Bn k bn) (.slice Bn k bn) (d.notes.take k) W) HS.out.drew (fun V hV => ?_)
        have HV := Lib.hid hV
        clear hV
        refine wpAnyV_free (i := 0) (v := ?_) (by simp only [List.getElem?_toArray, List.getElem?_cons_zero]; rfl) (by kernel_rfl) (by kernel_rfl) (by kernel_rfl) (by kernel_rfl) (by exact fun _ _ _ h => h) (Or.inl ⟨by rfl, ?hyb5072⟩) (behind_cons (fun h => by simp at h) (behind_cons (fun h => by simp at h) (behind_cons (fun h => by simp at h) (fun p hp => by cases hp)))) ?restb5072
        case hyb5072 => (intro W' _; go_simp; try with_reducible rfl)
        try simp only [Act.put, List.setIfInBounds_toArray, List.set_cons_zero, List.set_cons_succ]
        refine wpAnyV_free (i := 2) (v := ?_) (by simp only [List.getElem?_toArray, List.getElem?_cons_zero, List.getElem?_cons_succ]; rfl) (by kernel_rfl) (by kernel_rfl) (by kernel_rfl) (by kernel_rfl) (by exact fun _ _ _ h => h) (Or.inl ⟨by rfl, ?hyb5073⟩) (behind_cons (fun h => by simp at h) (behind_cons (fun h => by simp at h) (behind_cons (fun h => by simp at h) (fun p hp => by cases hp)))) ?restb5073
        case hyb5073 => (intro W' _; go_simp; try with_reducible rfl)
        try simp only [Act.put, List.setIfInBounds_toArray, List.set_cons_zero, List.set_cons_succ]
        refine wpAnyV_free (i := 4) (v := ?_) (by simp only [List.getElem?_toArray, List.getElem?_cons_zero, List.getElem?_cons_succ]; rfl) (by kernel_rfl) (by kernel_rfl) (by kernel_rfl) (by kernel_rfl) (by exact fun _ _ _ h => h) (Or.inl ⟨by rfl, ?hyb5074⟩) (behind_cons (fun h => by simp at h) (behind_cons (fun h => by simp at h) (behind_cons (fun h => by simp at h) (fun p hp => by cases hp)))) ?restb5074
        case hyb5074 => (intro W' _; go_simp; try with_reducible rfl)
        try simp only [Act.put, List.setIfInBounds_toArray, List.set_cons_zero, List.set_cons_succ]
        refine wpAnyV_take (i := 1) (m := 0) (v := ?_) (by simp only [List.getElem?_toArray, List.getElem?_cons_zero, List.getElem?_cons_succ]; rfl) (by rfl) (by kernel_rfl) (by kernel_rfl) (by kernel_rfl) (by kernel_rfl) (by exact fun _ _ _ h => h) (Or.inl ⟨by rfl, ?hyb5075⟩) ((HV.out.kx.cell 2)) (behind_cons (fun _ => (HV.out.kx.cell 2)) (behind_cons (fun h => by simp at h) (behind_cons (fun h => by simp at h) (fun p hp => by cases hp)))) ?restb5075
        case hyb5075 => (intro W' hSW; go_simp; try with_reducible rfl)
        try simp only [Act.put, List.setIfInBounds_toArray, List.set_cons_zero, List.set_cons_succ]
        refine wpAnyV_take (i := 3) (m := 1) (v := ?_) (by simp only [List.getElem?_toArray, List.getElem?_cons_zero, List.getElem?_cons_succ]; rfl) (by rfl) (by kernel_rfl) (by kernel_rfl) (by kernel_rfl) (by kernel_rfl) (by exact fun _ _ _ h => h) (Or.inl ⟨by rfl, ?hyb5076⟩) ((HV.out.bs.kd.cell 2)) (behind_cons (fun _ => (HV.out.kx.cell 2)) (behind_cons (fun _ => (HV.out.bs.kd.cell 2)) (behind_cons (fun h => by simp at h) (fun p hp => by cases hp)))) ?restb5076
        case hyb5076 => (intro W' hSW; go_simp; try with_reducible rfl)
        try simp only [Act.put, List.setIfInBounds_toArray, List.set_cons_zero, List.set_cons_succ]
        refine wpAnyV_free (i := 5) (v := ?_) (by simp only [List.getElem?_toArray, List.getElem?_cons_zero, List.getElem?_cons_succ]; rfl) (by kernel_rfl) (by kernel_rfl) (by kernel_rfl) (by kernel_rfl) (by exact fun _ _ _ h => h) (Or.inl ⟨by rfl, ?hyb5077⟩) (behind_cons (fun _ => (HV.out.kx.cell 2)) (behind_cons (fun _ => (HV.out.bs.kd.cell 2)) (behind_cons (fun h => by simp at h) (fun p hp => by cases hp)))) ?restb5077
        case hyb5077 => (intro W' _; go_simp; try with_reducible rfl)
        try simp only [Act.put, List.setIfInBounds_toArray, List.set_cons_zero, List.set_cons_succ]
        refine wpAnyV_take (i := 6) (m := 2) (v := ?_) (by simp only [List.getElem?_toArray, List.getElem?_cons_zero, List.getElem?_cons_succ]; rfl) (by rfl) (by kernel_rfl) (by kernel_rfl) (by kernel_rfl) (by kernel_rfl) (by exact fun _ _ _ h => h) (Or.inl ⟨by rfl, ?hyb5078⟩) ((And.intro (HCN.out _ HV.out.bs.below 0 (by omega)) (And.intro (HCN.out _ HV.out.bs.below 1 (by omega)) (And.intro (HCN.out _ HV.out.bs.below 2 (by omega)) (And.intro (HCN.out _ HV.out.bs.below 3 (by omega)) (And.intro (HCN.out _ HV.out.bs.below 4 (by omega)) (HCN.out _ HV.out.bs.below 5 (by omega)))))))) (behind_cons (fun _ => (HV.out.kx.cell 2)) (behind_cons (fun _ => (HV.out.bs.kd.cell 2)) (behind_cons (fun _ => (And.intro (HCN.out _ HV.out.bs.below 0 (by omega)) (And.intro (HCN.out _ HV.out.bs.below 1 (by omega)) (And.intro (HCN.out _ HV.out.bs.below 2 (by omega)) (And.intro (HCN.out _ HV.out.bs.below 3 (by omega)) (And.intro (HCN.out _ HV.out.bs.below 4 (by omega)) (HCN.out _ HV.out.bs.below 5 (by omega)))))))) (fun p hp => by cases hp)))) ?restb5078
        case hyb5078 => (intro W' hSW; go_simp; try with_reducible rfl)
        try simp only [Act.put, List.setIfInBounds_toArray, List.set_cons_zero, List.set_cons_succ]
        refine wpAnyV_ready (rs := [7]) (by kernel_rfl) (by simp) ?_
        refine AllReadyV.cons (by simp only [List.getElem?_toArray, List.getElem?_cons_zero, List.getElem?_cons_succ]; rfl) (fun K hK => ?_) AllReadyV.nil
        go_simp
        have HC508 := Lib.hid (HV.out.alloc (.cells #[.int .i64 q.kind, .int .i64 q.stone, .int .i64 q.other, .slice Ay nq cy, .int .i64 q.lo, .int .i64 q.hi] 51))
        have HNB := Lib.hid (Blok.new V 51 [.int .i64 q.kind, .int .i64 q.stone, .int .i64 q.other, .slice Ay nq cy, .int .i64 q.lo, .int .i64 q.hi])
        refine hK.out _ _ (behind_cons (fun _ => (HC508.out.kx.cell 2)) (behind_cons (fun _ => (HC508.out.bs.kd.cell 2)) (behind_cons (fun _ => (And.intro (HCN.out _ HC508.out.bs.below 0 (by omega)) (And.intro (HCN.out _ HC508.out.bs.below 1 (by omega)) (And.intro (HCN.out _ HC508.out.bs.below 2 (by omega)) (And.intro (HCN.out _ HC508.out.bs.below 3 (by omega)) (And.intro (HCN.out _ HC508.out.bs.below 4 (by omega)) (HCN.out _ HC508.out.bs.below 5 (by omega)))))))) (fun p hp => by cases hp)))) ?_
        clear hK K
        try simp only [Act.put, List.setIfInBounds_toArray, List.set_cons_zero, List.set_cons_succ]
        refine wpAnyV_ready (rs := [8]) (by kernel_rfl) (by simp) ?_
        refine AllReadyV.cons (by simp only [List.getElem?_toArray, List.getElem?_cons_zero, List.getElem?_cons_succ]; rfl) (fun K hK => ?_) AllReadyV.nil
        obtain ⟨xs9, hxs, hon, hyr⟩ := HC508.out.no
        rw [HLT.out] at hon
        refine step_append_lies (V.alloc (.cells #[.int .i64 q.kind, .int .i64 q.stone, .int .i64 q.other, .slice Ay nq cy, .int .i64 q.lo, .int .i64 q.hi] 51)) (by rfl) _ _ 26 (by rfl) w.heap.size 51 kI _ 6 64 Try.underlying26 HQ.out HQ0.out HQ1.out HQ2.out rfl (by omega) (.slice Bn k bn) (k) (cellsN xs9) (by rfl) hon ⟨V.heap.size, 0, none⟩ 1 1 [.int .i64 q.kind, .int .i64 q.stone, .int .i64 q.other, .slice Ay nq cy, .int .i64 q.lo, .int .i64 q.hi] (by rfl) (by rfl) (World.news_of_block HNB.out) (by simp [Value.oneCell']) (by omega) (by unfold maxLen; omega) (by omega) HC508.out.bs.below.size _ rfl ?_
        intro g8 c8 w509 hown hgrow hat hlt8
        have HC509 := Lib.hid (HC508.out.note (x := q) (vy := .slice Ay nq cy) hxs (by rw [HLT.out]; exact hon) hyr hgrow (by rw [HLT.out]; exact hown) (HYQ.out _ HC508.out.bs.below))
        clear hown hgrow hat hlt8 hon hyr hxs
        try go_simp
        refine hK.out _ _ (behind_cons (fun _ => (HC509.out.kx.cell 2)) (behind_cons (fun _ => (HC509.out.bs.kd.cell 2)) (behind_cons (fun _ => (And.intro (HCN.out _ HC509.out.bs.below 0 (by omega)) (And.intro (HCN.out _ HC509.out.bs.below 1 (by omega)) (And.intro (HCN.out _ HC509.out.bs.below 2 (by omega)) (And.intro (HCN.out _ HC509.out.bs.below 3 (by omega)) (And.intro (HCN.out _ HC509.out.bs.below 4 (by omega)) (HCN.out _ HC509.out.bs.below 5 (by omega)))))))) (fun p hp => by cases hp)))) ?_
        clear hK K
        try simp only [Act.put, List.setIfInBounds_toArray, List.set_cons_zero, List.set_cons_succ]
        refine wpAnyV_free (i := 9) (v := ?_) (by simp only [List.getElem?_toArray, List.getElem?_cons_zero, List.getElem?_cons_succ]; rfl) (by kernel_rfl) (by kernel_rfl) (by kernel_rfl) (by kernel_rfl) (by exact fun _ _ _ h => h) (Or.inl ⟨by rfl, ?hyb50711⟩) (behind_cons (fun _ => (HC509.out.kx.cell 2)) (behind_cons (fun _ => (HC509.out.bs.kd.cell 2)) (behind_cons (fun _ => (And.intro (HCN.out _ HC509.out.bs.below 0 (by omega)) (And.intro (HCN.out _ HC509.out.bs.below 1 (by omega)) (And.intro (HCN.out _ HC509.out.bs.below 2 (by omega)) (And.intro (HCN.out _ HC509.out.bs.below 3 (by omega)) (And.intro (HCN.out _ HC509.out.bs.below 4 (by omega)) (HCN.out _ HC509.out.bs.below 5 (by omega)))))))) (fun p hp => by cases hp)))) ?restb50711
        case hyb50711 => (intro W' _; go_simp; try with_reducible rfl)
        try simp only [Act.put, List.setIfInBounds_toArray, List.set_cons_zero, List.set_cons_succ]
        refine wpAnyV_ready (rs := [10]) (by kernel_rfl) (by simp) ?_
        refine AllReadyV.cons (by simp only [List.getElem?_toArray, List.getElem?_cons_zero, List.getElem?_cons_succ]; rfl) (fun K hK => ?_) AllReadyV.nil
        have x0 : w509.cell? ⟨bx, 2, none⟩ = some (.slice Bn k bn) := HC509.out.kx.cell 2
        have y0 := HC509.out.kx.free 2
        go_simp
        clear x0 y0
        have HC510 := Lib.hid (HC509.out.put (.slice (some ⟨g8, 0, none⟩) (k + 1) c8))
        refine hK.out _ _ (behind_cons (fun h => by simp at h) (behind_cons (fun h => by simp at h) (behind_cons (fun h => by simp at h) (fun p hp => by cases hp)))) ?_
        clear hK K
        try simp only [Act.put, List.setIfInBounds_toArray, List.set_cons_zero, List.set_cons_succ]
        refine wpAnyV_done (by kernel_rfl) ?_ _
        go_wp2_with fail
        go_roundg (gk - 1)
        case measure => omega
        case rel => exact ⟨k + 1, _, by go_num, by omega, by omega, by rw [List.take_add_one, HX.out]; exact HC510.out⟩
      · have htk : d.notes.take k = d.notes.take (8 - d.stones) := by
          by_cases h1 : k < d.notes.length
          · rw [show 8 - d.stones = k by omega]
          · rw [List.take_of_length_le (by omega), List.take_of_length_le (by omega)]
        have HTK := Lib.hid htk
        have HSB := Lib.hid HS.out.bs
        clear htk
        have hgo' : ((decide ((k : Int) < (d.notes.length : Int))) && (decide ((k : Int) + (d.stones : Int) < 8))) = false := by
          rw [Bool.and_eq_false_iff]
          by_cases h1 : k < d.notes.length
          · exact .inr (by rw [decide_eq_false_iff_not]; omega)
          · exact .inl (by rw [decide_eq_false_iff_not]; omega)
        clear hgo'
        have hall : ∃ w9 : World, True := ⟨wr, trivial⟩
        clear hall
        by_cases h1 : k < d.notes.length
        · have h2 : ¬ (k + d.stones < 8) := fun h => hgo ⟨h1, h⟩
          clear hgo
          go_wp2_with fail
          go_loopg [5] d.stones (fun r i wr => ∃ (k2 : Nat) (vn : Value), i = .int .i64 (k2 : Nat) ∧ k2 + r = d.stones ∧ BV w B d (.slice Ae d.eras.length ce) (.slice An d.notes.length cn) bx (.slice Ax d.eras.length cx) vn vn (d.notes.take k ++ bounds k2) wr)
          case atStart => exact ⟨0, _, rfl, by omega, by simpa [bounds] using HS.out⟩
          case round =>
            clear HS HON HYR d0 d2 x2 HSB
            obtain ⟨k2, vn, rfl, hkr2, hs⟩ := hrel
            obtain ⟨xs2, hxs, hon, hyr⟩ := hs.no
            obtain ⟨Cn, dn, rfl⟩ := own_slice hon
            have hlt : (d.notes.take k ++ bounds k2).length = k + k2 := by rw [List.length_append, bounds_len, HLT.out]
            rw [hlt] at hs hon
            have HS := Lib.hid hs
            have d0 := HS.out.bs.kd.cell 0
            simp at d0
            have HXS2 := Lib.hid hxs
            have HON := Lib.hid hon
            have HYR := Lib.hid hyr
            have HLT2 := Lib.hid hlt
            clear hs hxs hon hyr hlt
            by_cases hk2 : k2 < d.stones
            · go_wp2_with fail
              clear d0
              refine wp_region_v [(fun j => j == 1 || j == 3 || j == 4 || j == 5 || j == 6 || j == 7, fun W => W.cell? ⟨bx, 2, none⟩ = some (.slice Cn (k + k2) dn))] (by kernel_rfl) ?_
              refine wpAnyV_world (fun W => BV w B d (.slice Ae d.eras.length ce) (.slice An d.notes.length cn) bx (.slice Ax d.eras.length cx) (.slice Cn (k + k2) dn) (.slice Cn (k + k2) dn) (d.notes.take k ++ bounds k2) W) HS.out.drew (fun V hV => ?_)
              have HV := Lib.hid hV
              clear hV
              refine wpAnyV_free (i := 0) (v := ?_) (by simp only [List.getElem?_toArray, List.getElem?_cons_zero]; rfl) (by kernel_rfl) (by kernel_rfl) (by kernel_rfl) (by kernel_rfl) (by exact fun _ _ _ h => h) (Or.inl ⟨by rfl, ?hyc5152⟩) (behind_cons (fun h => by simp at h) (fun p hp => by cases hp)) ?restc5152
              case hyc5152 => (intro W' _; go_simp; try with_reducible rfl)
              try simp only [Act.put, List.setIfInBounds_toArray, List.set_cons_zero, List.set_cons_succ]
              refine wpAnyV_free (i := 2) (v := ?_) (by simp only [List.getElem?_toArray, List.getElem?_cons_zero, List.getElem?_cons_succ]; rfl) (by kernel_rfl) (by kernel_rfl) (by kernel_rfl) (by kernel_rfl) (by exact fun _ _ _ h => h) (Or.inl ⟨by rfl, ?hyc5153⟩) (behind_cons (fun h => by simp at h) (fun p hp => by cases hp)) ?restc5153
              case hyc5153 => (intro W' _; go_simp; try with_reducible rfl)
              try simp only [Act.put, List.setIfInBounds_toArray, List.set_cons_zero, List.set_cons_succ]
              refine wpAnyV_take (i := 1) (m := 0) (v := ?_) (by simp only [List.getElem?_toArray, List.getElem?_cons_zero, List.getElem?_cons_succ]; rfl) (by rfl) (by kernel_rfl) (by kernel_rfl) (by kernel_rfl) (by kernel_rfl) (by exact fun _ _ _ h => h) (Or.inl ⟨by rfl, ?hyc5154⟩) ((HV.out.kx.cell 2)) (behind_cons (fun _ => (HV.out.kx.cell 2)) (fun p hp => by cases hp)) ?restc5154
              case hyc5154 => (intro W' hSW; go_simp; try with_reducible rfl)
              try simp only [Act.put, List.setIfInBounds_toArray, List.set_cons_zero, List.set_cons_succ]
              refine wpAnyV_ready (rs := [3]) (by kernel_rfl) (by simp) ?_
              refine AllReadyV.cons (by simp only [List.getElem?_toArray, List.getElem?_cons_zero, List.getElem?_cons_succ]; rfl) (fun K hK => ?_) AllReadyV.nil
              go_simp
              go_at_call 23
              (with_reducible refine (to_any (-900) 900 _).mono ?_)
              rintro e w516 ⟨rfl, hb⟩
              have HC516 := Lib.hid (HV.out.to hb)
              clear hb
              refine hK.out _ _ (behind_cons (fun _ => (HC516.out.kx.cell 2)) (fun p hp => by cases hp)) ?_
              clear hK K
              try simp only [Act.put, List.setIfInBounds_toArray, List.set_cons_zero, List.set_cons_succ]
              refine wpAnyV_free (i := 4) (v := ?_) (by simp only [List.getElem?_toArray, List.getElem?_cons_zero, List.getElem?_cons_succ]; rfl) (by kernel_rfl) (by kernel_rfl) (by kernel_rfl) (by kernel_rfl) (by exact fun _ _ _ h => h) (Or.inl ⟨by rfl, ?hyc5156⟩) (behind_cons (fun _ => (HC516.out.kx.cell 2)) (fun p hp => by cases hp)) ?restc5156
              case hyc5156 => (intro W' _; go_simp; try with_reducible rfl)
              try simp only [Act.put, List.setIfInBounds_toArray, List.set_cons_zero, List.set_cons_succ]
              refine wpAnyV_ready (rs := [5]) (by kernel_rfl) (by simp) ?_
              refine AllReadyV.cons (by simp only [List.getElem?_toArray, List.getElem?_cons_zero, List.getElem?_cons_succ]; rfl) (fun K hK => ?_) AllReadyV.nil
              go_simp
              have HC517 := Lib.hid (HC516.out.alloc (.cells #[.int .i64 2, .int .i64 k2, .int .i64 0, .slice none 0 0, .int .i64 (-900), .int .i64 900] 51))
              have HNB := Lib.hid (Blok.new w516 51 [.int .i64 2, .int .i64 k2, .int .i64 0, .slice none 0 0, .int .i64 (-900), .int .i64 900])
              refine hK.out _ _ (behind_cons (fun _ => (HC517.out.kx.cell 2)) (fun p hp => by cases hp)) ?_
              clear hK K
              try simp only [Act.put, List.setIfInBounds_toArray, List.set_cons_zero, List.set_cons_succ]
              refine wpAnyV_ready (rs := [6]) (by kernel_rfl) (by simp) ?_
              refine AllReadyV.cons (by simp only [List.getElem?_toArray, List.getElem?_cons_zero, List.getElem?_cons_succ]; rfl) (fun K hK => ?_) AllReadyV.nil
              obtain ⟨xs9, hxs, hon, hyr⟩ := HC517.out.no
              rw [HLT2.out] at hon
              refine step_append_lies (w516.alloc (.cells #[.int .i64 2, .int .i64 k2, .int .i64 0, .slice none 0 0, .int .i64 (-900), .int .i64 900] 51)) (by rfl) _ _ 26 (by rfl) w.heap.size 51 kI _ 6 64 Try.underlying26 HQ.out HQ0.out HQ1.out HQ2.out rfl (by omega) (.slice Cn (k + k2) dn) ((k + k2)) (cellsN xs9) (by rfl) hon ⟨w516.heap.size, 0, none⟩ 1 1 [.int .i64 2, .int .i64 k2, .int .i64 0, .slice none 0 0, .int .i64 (-900), .int .i64 900] (by rfl) (by rfl) (World.news_of_block HNB.out) (by simp [Value.oneCell']) (by omega) (by unfold maxLen; omega) (by omega) HC517.out.bs.below.size _ rfl ?_
              intro g8 c8 w518 hown hgrow hat hlt8
              have HC518 := Lib.hid (HC517.out.note (x := spanN k2 (-900) 900) (vy := .slice none 0 0) hxs (by rw [HLT2.out]; exact hon) hyr hgrow (by rw [HLT2.out]; exact hown) (World.ownsRow_nil _ _ _ _))
              clear hown hgrow hat hlt8 hon hyr hxs
              try go_simp
              refine hK.out _ _ (behind_cons (fun _ => (HC518.out.kx.cell 2)) (fun p hp => by cases hp)) ?_
              clear hK K
              try simp only [Act.put, List.setIfInBounds_toArray, List.set_cons_zero, List.set_cons_succ]
              refine wpAnyV_free (i := 7) (v := ?_) (by simp only [List.getElem?_toArray, List.getElem?_cons_zero, List.getElem?_cons_succ]; rfl) (by kernel_rfl) (by kernel_rfl) (by kernel_rfl) (by kernel_rfl) (by exact fun _ _ _ h => h) (Or.inl ⟨by rfl, ?hyc5159⟩) (behind_cons (fun _ => (HC518.out.kx.cell 2)) (fun p hp => by cases hp)) ?restc5159
              case hyc5159 => (intro W' _; go_simp; try with_reducible rfl)
              try simp only [Act.put, List.setIfInBounds_toArray, List.set_cons_zero, List.set_cons_succ]
              refine wpAnyV_ready (rs := [8]) (by kernel_rfl) (by simp) ?_
              refine AllReadyV.cons (by simp only [List.getElem?_toArray, List.getElem?_cons_zero, List.getElem?_cons_succ]; rfl) (fun K hK => ?_) AllReadyV.nil
              have x0 : w518.cell? ⟨bx, 2, none⟩ = some (.slice Cn (k + k2) dn) := HC518.out.kx.cell 2
              have y0 := HC518.out.kx.free 2
              go_simp
              clear x0 y0
              have HC519 := Lib.hid (HC518.out.put (.slice (some ⟨g8, 0, none⟩) (k + k2 + 1) c8))
              refine hK.out _ _ (behind_cons (fun h => by simp at h) (fun p hp => by cases hp)) ?_
              clear hK K
              try simp only [Act.put, List.setIfInBounds_toArray, List.set_cons_zero, List.set_cons_succ]
              refine wpAnyV_done (by kernel_rfl) ?_ _
              go_wp2_with fail
              go_roundg (gk - 1)
              case measure => omega
              case rel => exact ⟨k2 + 1, _, by go_num, by omega, by rw [bounds_succ, ← List.append_assoc]; exact HC519.out⟩
            · obtain rfl : k2 = d.stones := by omega
              have e0 := HS.out.kx.cell 0
              have e1 := HS.out.kx.cell 1
              have e2 := HS.out.kx.cell 2
              simp at e0 e1 e2
              have r0 : wr.cell? ⟨w.heap.size + 1, 0, none⟩ = some (.int .i64 0) := HS.out.bs.k1.cell 0
              have r1 : wr.cell? ⟨w.heap.size + 1, 1, none⟩ = some (.slice none 0 0) := HS.out.bs.k1.cell 1
              have r2 : wr.cell? ⟨w.heap.size + 1, 2, none⟩ = some (.slice none 0 0) := HS.out.bs.k1.cell 2
              have g0 := HS.out.bs.k1.free 0
              have g1 := HS.out.bs.k1.free 1
              have g2 := HS.out.bs.k1.free 2
              go_wp2_with fail
              have hC := HS.out
              have hoe := hC.oe
              have hxs := HXS2.out
              have hon := HON.out
              have hyr := HYR.out
              refine bodyPost_ret (v := .agg #[.int .i64 d.stones, .slice Ax d.eras.length cx, .slice Cn (k + d.stones) dn]) ?_ rfl ⟨_, rfl, ⟨_, _, rfl, ?_, xs2, ?_, ?_, fun p hp => ?_⟩, ((hC.bs.below.setCell (p := ⟨w.heap.size + 1, 0, none⟩) (Nat.le_succ _) _).setCell (p := ⟨w.heap.size + 1, 1, none⟩) (Nat.le_succ _) _).setCell (p := ⟨w.heap.size + 1, 2, none⟩) (Nat.le_succ _) _⟩
              · exact results_cell_row Try.results25 _ _ (w.heap.size + 1) 28 _ (0, 0) _ rfl (((hC.bs.k1.put 0 (.int .i64 d.stones)).put 1 (.slice Ax d.eras.length cx)).put 2 (.slice Cn (k + d.stones) dn)) Try.underlying28 rfl (by kernel_rfl)
              · exact (own_far (own_far (own_far hoe (own_ne hoe hC.bs.k1 (by decide)) _) (own_ne hoe hC.bs.k1 (by decide)) _) (own_ne hoe hC.bs.k1 (by decide)) _).mono hB
              · rw [hxs, HTK.out]
                rfl
              · have h := own_far (own_far (own_far hon (p := ⟨w.heap.size + 1, 0, none⟩) (own_ne hon hC.bs.k1 (by decide)) (.int .i64 d.stones)) (p := ⟨w.heap.size + 1, 1, none⟩) (own_ne hon hC.bs.k1 (by decide)) (.slice Ax d.eras.length cx)) (p := ⟨w.heap.size + 1, 2, none⟩) (own_ne hon hC.bs.k1 (by decide)) (.slice Cn (k + d.stones) dn)
                have hl : d.bound.notes.length = k + d.stones := by
                  show (d.notes.take (8 - d.stones) ++ bounds d.stones).length = _
                  rw [← HTK.out]
                  exact HLT2.out
                rw [hl]
                exact h.mono hB
              · have hy := hyr p hp
                exact own_far (own_far (own_far hy (own_ne hy hC.bs.k1 (by decide)) _) (own_ne hy hC.bs.k1 (by decide)) _) (own_ne hy hC.bs.k1 (by decide)) _
        · clear hgo
          go_wp2_with fail
          go_loopg [5] d.stones (fun r i wr => ∃ (k2 : Nat) (vn : Value), i = .int .i64 (k2 : Nat) ∧ k2 + r = d.stones ∧ BV w B d (.slice Ae d.eras.length ce) (.slice An d.notes.length cn) bx (.slice Ax d.eras.length cx) vn vn (d.notes.take k ++ bounds k2) wr)
          case atStart => exact ⟨0, _, rfl, by omega, by simpa [bounds] using HS.out⟩
          case round =>
            clear HS HON HYR d0 d2 x2 HSB
            obtain ⟨k2, vn, rfl, hkr2, hs⟩ := hrel
            obtain ⟨xs2, hxs, hon, hyr⟩ := hs.no
            obtain ⟨Cn, dn, rfl⟩ := own_slice hon
            have hlt : (d.notes.take k ++ bounds k2).length = k + k2 := by rw [List.length_append, bounds_len, HLT.out]
            rw [hlt] at hs hon
            have HS := Lib.hid hs
            have d0 := HS.out.bs.kd.cell 0
            simp at d0
            have HXS2 := Lib.hid hxs
            have HON := Lib.hid hon
            have HYR := Lib.hid hyr
            have HLT2 := Lib.hid hlt
            clear hs hxs hon hyr hlt
            by_cases hk2 : k2 < d.stones
            · go_wp2_with fail
              clear d0
              refine wp_region_v [(fun j => j == 1 || j == 3 || j == 4 || j == 5 || j == 6 || j == 7, fun W => W.cell? ⟨bx, 2, none⟩ = some (.slice Cn (k + k2) dn))] (by kernel_rfl) ?_
              refine wpAnyV_world (fun W => BV w B d (.slice Ae d.eras.length ce) (.slice An d.notes.length cn) bx (.slice Ax d.eras.length cx) (.slice Cn (k + k2) dn) (.slice Cn (k + k2) dn) (d.notes.take k ++ bounds k2) W) HS.out.drew (fun V hV => ?_)
              have HV := Lib.hid hV
              clear hV
              refine wpAnyV_free (i := 0) (v := ?_) (by simp only [List.getElem?_toArray, List.getElem?_cons_zero]; rfl) (by kernel_rfl) (by kernel_rfl) (by kernel_rfl) (by kernel_rfl) (by exact fun _ _ _ h => h) (Or.inl ⟨by rfl, ?hyc5202⟩) (behind_cons (fun h => by simp at h) (fun p hp => by cases hp)) ?restc5202
              case hyc5202 => (intro W' _; go_simp; try with_reducible rfl)
              try simp only [Act.put, List.setIfInBounds_toArray, List.set_cons_zero, List.set_cons_succ]
              refine wpAnyV_free (i := 2) (v := ?_) (by simp only [List.getElem?_toArray, List.getElem?_cons_zero, List.getElem?_cons_succ]; rfl) (by kernel_rfl) (by kernel_rfl) (by kernel_rfl) (by kernel_rfl) (by exact fun _ _ _ h => h) (Or.inl ⟨by rfl, ?hyc5203⟩) (behind_cons (fun h => by simp at h) (fun p hp => by cases hp)) ?restc5203
              case hyc5203 => (intro W' _; go_simp; try with_reducible rfl)
              try simp only [Act.put, List.setIfInBounds_toArray, List.set_cons_zero, List.set_cons_succ]
              refine wpAnyV_take (i := 1) (m := 0) (v := ?_) (by simp only [List.getElem?_toArray, List.getElem?_cons_zero, List.getElem?_cons_succ]; rfl) (by rfl) (by kernel_rfl) (by kernel_rfl) (by kernel_rfl) (by kernel_rfl) (by exact fun _ _ _ h => h) (Or.inl ⟨by rfl, ?hyc5204⟩) ((HV.out.kx.cell 2)) (behind_cons (fun _ => (HV.out.kx.cell 2)) (fun p hp => by cases hp)) ?restc5204
              case hyc5204 => (intro W' hSW; go_simp; try with_reducible rfl)
              try simp only [Act.put, List.setIfInBounds_toArray, List.set_cons_zero, List.set_cons_succ]
              refine wpAnyV_ready (rs := [3]) (by kernel_rfl) (by simp) ?_
              refine AllReadyV.cons (by simp only [List.getElem?_toArray, List.getElem?_cons_zero, List.getElem?_cons_succ]; rfl) (fun K hK => ?_) AllReadyV.nil
              go_simp
              go_at_call 23
              (with_reducible refine (to_any (-900) 900 _).mono ?_)
              rintro e w521 ⟨rfl, hb⟩
              have HC521 := Lib.hid (HV.out.to hb)
              clear hb
              refine hK.out _ _ (behind_cons (fun _ => (HC521.out.kx.cell 2)) (fun p hp => by cases hp)) ?_
              clear hK K
              try simp only [Act.put, List.setIfInBounds_toArray, List.set_cons_zero, List.set_cons_succ]
              refine wpAnyV_free (i := 4) (v := ?_) (by simp only [List.getElem?_toArray, List.getElem?_cons_zero, List.getElem?_cons_succ]; rfl) (by kernel_rfl) (by kernel_rfl) (by kernel_rfl) (by kernel_rfl) (by exact fun _ _ _ h => h) (Or.inl ⟨by rfl, ?hyc5206⟩) (behind_cons (fun _ => (HC521.out.kx.cell 2)) (fun p hp => by cases hp)) ?restc5206
              case hyc5206 => (intro W' _; go_simp; try with_reducible rfl)
              try simp only [Act.put, List.setIfInBounds_toArray, List.set_cons_zero, List.set_cons_succ]
              refine wpAnyV_ready (rs := [5]) (by kernel_rfl) (by simp) ?_
              refine AllReadyV.cons (by simp only [List.getElem?_toArray, List.getElem?_cons_zero, List.getElem?_cons_succ]; rfl) (fun K hK => ?_) AllReadyV.nil
              go_simp
              have HC522 := Lib.hid (HC521.out.alloc (.cells #[.int .i64 2, .int .i64 k2, .int .i64 0, .slice none 0 0, .int .i64 (-900), .int .i64 900] 51))
              have HNB := Lib.hid (Blok.new w521 51 [.int .i64 2, .int .i64 k2, .int .i64 0, .slice none 0 0, .int .i64 (-900), .int .i64 900])
              refine hK.out _ _ (behind_cons (fun _ => (HC522.out.kx.cell 2)) (fun p hp => by cases hp)) ?_
              clear hK K
              try simp only [Act.put, List.setIfInBounds_toArray, List.set_cons_zero, List.set_cons_succ]
              refine wpAnyV_ready (rs := [6]) (by kernel_rfl) (by simp) ?_
              refine AllReadyV.cons (by simp only [List.getElem?_toArray, List.getElem?_cons_zero, List.getElem?_cons_succ]; rfl) (fun K hK => ?_) AllReadyV.nil
              obtain ⟨xs9, hxs, hon, hyr⟩ := HC522.out.no
              rw [HLT2.out] at hon
              refine step_append_lies (w521.alloc (.cells #[.int .i64 2, .int .i64 k2, .int .i64 0, .slice none 0 0, .int .i64 (-900), .int .i64 900] 51)) (by rfl) _ _ 26 (by rfl) w.heap.size 51 kI _ 6 64 Try.underlying26 HQ.out HQ0.out HQ1.out HQ2.out rfl (by omega) (.slice Cn (k + k2) dn) ((k + k2)) (cellsN xs9) (by rfl) hon ⟨w521.heap.size, 0, none⟩ 1 1 [.int .i64 2, .int .i64 k2, .int .i64 0, .slice none 0 0, .int .i64 (-900), .int .i64 900] (by rfl) (by rfl) (World.news_of_block HNB.out) (by simp [Value.oneCell']) (by omega) (by unfold maxLen; omega) (by omega) HC522.out.bs.below.size _ rfl ?_
              intro g8 c8 w523 hown hgrow hat hlt8
              have HC523 := Lib.hid (HC522.out.note (x := spanN k2 (-900) 900) (vy := .slice none 0 0) hxs (by rw [HLT2.out]; exact hon) hyr hgrow (by rw [HLT2.out]; exact hown) (World.ownsRow_nil _ _ _ _))
              clear hown hgrow hat hlt8 hon hyr hxs
              try go_simp
              refine hK.out _ _ (behind_cons (fun _ => (HC523.out.kx.cell 2)) (fun p hp => by cases hp)) ?_
              clear hK K
              try simp only [Act.put, List.setIfInBounds_toArray, List.set_cons_zero, List.set_cons_succ]
              refine wpAnyV_free (i := 7) (v := ?_) (by simp only [List.getElem?_toArray, List.getElem?_cons_zero, List.getElem?_cons_succ]; rfl) (by kernel_rfl) (by kernel_rfl) (by kernel_rfl) (by kernel_rfl) (by exact fun _ _ _ h => h) (Or.inl ⟨by rfl, ?hyc5209⟩) (behind_cons (fun _ => (HC523.out.kx.cell 2)) (fun p hp => by cases hp)) ?restc5209
              case hyc5209 => (intro W' _; go_simp; try with_reducible rfl)
              try simp only [Act.put, List.setIfInBounds_toArray, List.set_cons_zero, List.set_cons_succ]
              refine wpAnyV_ready (rs := [8]) (by kernel_rfl) (by simp) ?_
              refine AllReadyV.cons (by simp only [List.getElem?_toArray, List.getElem?_cons_zero, List.getElem?_cons_succ]; rfl) (fun K hK => ?_) AllReadyV.nil
              have x0 : w523.cell? ⟨bx, 2, none⟩ = some (.slice Cn (k + k2) dn) := HC523.out.kx.cell 2
              have y0 := HC523.out.kx.free 2
              go_simp
              clear x0 y0
              have HC524 := Lib.hid (HC523.out.put (.slice (some ⟨g8, 0, none⟩) (k + k2 + 1) c8))
              refine hK.out _ _ (behind_cons (fun h => by simp at h) (fun p hp => by cases hp)) ?_
              clear hK K
              try simp only [Act.put, List.setIfInBounds_toArray, List.set_cons_zero, List.set_cons_succ]
              refine wpAnyV_done (by kernel_rfl) ?_ _
              go_wp2_with fail
              go_roundg (gk - 1)
              case measure => omega
              case rel => exact ⟨k2 + 1, _, by go_num, by omega, by rw [bounds_succ, ← List.append_assoc]; exact HC524.out⟩
            · obtain rfl : k2 = d.stones := by omega
              have e0 := HS.out.kx.cell 0
              have e1 := HS.out.kx.cell 1
              have e2 := HS.out.kx.cell 2
              simp at e0 e1 e2
              have r0 : wr.cell? ⟨w.heap.size + 1, 0, none⟩ = some (.int .i64 0) := HS.out.bs.k1.cell 0
              have r1 : wr.cell? ⟨w.heap.size + 1, 1, none⟩ = some (.slice none 0 0) := HS.out.bs.k1.cell 1
              have r2 : wr.cell? ⟨w.heap.size + 1, 2, none⟩ = some (.slice none 0 0) := HS.out.bs.k1.cell 2
              have g0 := HS.out.bs.k1.free 0
              have g1 := HS.out.bs.k1.free 1
              have g2 := HS.out.bs.k1.free 2
              go_wp2_with fail
              have hC := HS.out
              have hoe := hC.oe
              have hxs := HXS2.out
              have hon := HON.out
              have hyr := HYR.out
              refine bodyPost_ret (v := .agg #[.int .i64 d.stones, .slice Ax d.eras.length cx, .slice Cn (k + d.stones) dn]) ?_ rfl ⟨_, rfl, ⟨_, _, rfl, ?_, xs2, ?_, ?_, fun p hp => ?_⟩, ((hC.bs.below.setCell (p := ⟨w.heap.size + 1, 0, none⟩) (Nat.le_succ _) _).setCell (p := ⟨w.heap.size + 1, 1, none⟩) (Nat.le_succ _) _).setCell (p := ⟨w.heap.size + 1, 2, none⟩) (Nat.le_succ _) _⟩
              · exact results_cell_row Try.results25 _ _ (w.heap.size + 1) 28 _ (0, 0) _ rfl (((hC.bs.k1.put 0 (.int .i64 d.stones)).put 1 (.slice Ax d.eras.length cx)).put 2 (.slice Cn (k + d.stones) dn)) Try.underlying28 rfl (by kernel_rfl)
              · exact (own_far (own_far (own_far hoe (own_ne hoe hC.bs.k1 (by decide)) _) (own_ne hoe hC.bs.k1 (by decide)) _) (own_ne hoe hC.bs.k1 (by decide)) _).mono hB
              · rw [hxs, HTK.out]
                rfl
              · have h := own_far (own_far (own_far hon (p := ⟨w.heap.size + 1, 0, none⟩) (own_ne hon hC.bs.k1 (by decide)) (.int .i64 d.stones)) (p := ⟨w.heap.size + 1, 1, none⟩) (own_ne hon hC.bs.k1 (by decide)) (.slice Ax d.eras.length cx)) (p := ⟨w.heap.size + 1, 2, none⟩) (own_ne hon hC.bs.k1 (by decide)) (.slice Cn (k + d.stones) dn)
                have hl : d.bound.notes.length = k + d.stones := by
                  show (d.notes.take (8 - d.stones) ++ bounds d.stones).length = _
                  rw [← HTK.out]
                  exact HLT2.out
                rw [hl]
                exact h.mono hB
              · have hy := hyr p hp
                exact own_far (own_far (own_far hy (own_ne hy hC.bs.k1 (by decide)) _) (own_ne hy hC.bs.k1 (by decide)) _) (own_ne hy hC.bs.k1 (by decide)) _
  · go_simp
    have HC504 := Lib.hid (HV.out.alloc (.cells #[.int .i64 0, .slice none 0 0, .slice none 0 0] 28))
    have HX504 : Hid (Blok (V.alloc (.cells #[.int .i64 0, .slice none 0 0, .slice none 0 0] 28)) V.heap.size 28 zeroD) := Lib.hid (Blok.new V _ _)
    have hzx : w.heap.size + 1 < V.heap.size := by have := HV.out.k1.size; omega
    refine hK.out _ _ (behind_cons (fun _ => (HC504.out.kd.cell 0)) (behind_cons (fun _ => (HC504.out.kd.cell 1)) (fun p hp => by cases hp))) ?_
    clear hK K
    try simp only [Act.put, List.setIfInBounds_toArray, List.set_cons_zero, List.set_cons_succ]
    refine wpAnyV_ready (rs := [4]) (by kernel_rfl) (by simp) ?_
    refine AllReadyV.cons (by simp only [List.getElem?_toArray, List.getElem?_cons_zero, List.getElem?_cons_succ]; rfl) (fun K hK => ?_) AllReadyV.nil
    go_simp
    go_at_call 52
    refine (spansC_any d.eras (by omega) B (.slice Ae d.eras.length ce) _ (by obtain ⟨ve2, vn2, e2, h1, _⟩ := HDV.out.down HC504.out.below; injection e2 with e2; simp at e2; obtain ⟨rfl, rfl⟩ := e2; exact h1)).mono ?_
    rintro e w505 ⟨vs, rfl, hs, hb⟩
    obtain ⟨Ax, cx, rfl⟩ := own_slice hs
    have HE505 := Lib.hid (hs.mono (base' := w.heap.size) HC504.out.below.size)
    have HC505 := Lib.hid (HC504.out.to hb)
    have HX505 := Lib.hid (HX504.out.below hb HX504.out.size)
    clear hb hs
    refine hK.out _ _ (behind_cons (fun _ => (HC505.out.kd.cell 0)) (behind_cons (fun _ => (HC505.out.kd.cell 1)) (fun p hp => by cases hp))) ?_
    clear hK K
    try simp only [Act.put, List.setIfInBounds_toArray, List.set_cons_zero, List.set_cons_succ]
    refine wpAnyV_free (i := 5) (v := ?_) (by simp only [List.getElem?_toArray, List.getElem?_cons_zero, List.getElem?_cons_succ]; rfl) (by kernel_rfl) (by kernel_rfl) (by kernel_rfl) (by kernel_rfl) (by exact fun _ _ _ h => h) (Or.inl ⟨by rfl, ?hya12⟩) (behind_cons (fun _ => (HC505.out.kd.cell 0)) (behind_cons (fun _ => (HC505.out.kd.cell 1)) (fun p hp => by cases hp))) ?resta12
    case hya12 => (intro W' _; go_simp; try with_reducible rfl)
    try simp only [Act.put, List.setIfInBounds_toArray, List.set_cons_zero, List.set_cons_succ]
    refine wpAnyV_ready (rs := [7]) (by kernel_rfl) (by simp) ?_
    refine AllReadyV.cons (by simp only [List.getElem?_toArray, List.getElem?_cons_zero, List.getElem?_cons_succ]; rfl) (fun K hK => ?_) AllReadyV.nil
    obtain ⟨bx, hbx⟩ : ∃ bx, bx = V.heap.size := ⟨_, rfl⟩
    have HC506 := HC505
    have HX506 := HX505
    have HE506 := HE505
    obtain ⟨wq, hwq⟩ : ∃ wq, wq = w505 := ⟨_, rfl⟩
    rw [← hwq] at HC506 HX506 HE506 ⊢
    rw [← hbx] at HX506 hzx ⊢
    clear hwq hbx
    have y0 := HX506.out.free 0
    have y1 := HX506.out.free 1
    have y2 := HX506.out.free 2
    have z0 : wq.cell? ⟨bx, 0, none⟩ = some (.int .i64 0) := HX506.out.cell 0
    have z1 : wq.cell? ⟨bx, 1, none⟩ = some (.slice none 0 0) := HX506.out.cell 1
    have z2 : wq.cell? ⟨bx, 2, none⟩ = some (.slice none 0 0) := HX506.out.cell 2
    go_simp
    clear y0 y1 y2 z0 z1 z2
    refine hK.out _ _ (behind_cons (fun h => by simp at h) (behind_cons (fun h => by simp at h) (fun p hp => by cases hp))) ?_
    clear hK K
    try simp only [Act.put, List.setIfInBounds_toArray, List.set_cons_zero, List.set_cons_succ]
    refine wpAnyV_done (by kernel_rfl) ?_ _
    have hs0 := BV.first (B := B) HC506.out HX506.out hzx HE506.out
    obtain ⟨w5, hw5⟩ : ∃ w5, w5 = (((wq.setCell ⟨bx, 0, none⟩ (.int .i64 d.stones)).setCell ⟨bx, 1, none⟩ (.slice Ax d.eras.length cx)).setCell ⟨bx, 2, none⟩ (.slice none 0 0)) := ⟨_, rfl⟩
    rw [← hw5] at hs0 ⊢
    have HS := Lib.hid hs0
    clear hs0 hw5 HBS hz0 hzx
    go_wp2_with fail
    go_loopg [4] d.notes.length (fun r i wr => ∃ (k : Nat) (vn : Value), i = .int .i64 (k : Nat) ∧ k + r = d.notes.length ∧ k + d.stones ≤ 8 ∧ BV w B d (.slice Ae d.eras.length ce) (.slice An d.notes.length cn) bx (.slice Ax d.eras.length cx) vn vn (d.notes.take k) wr)
    case atStart => exact ⟨0, _, rfl, by omega, by omega, HS.out⟩
    case round =>
      clear HS
      obtain ⟨k, vn, rfl, hkr, hk8, hs⟩ := hrel
      obtain ⟨xs, hxs, hon, hyr⟩ := hs.no
      obtain ⟨Bn, bn, rfl⟩ := own_slice hon
      have hlt : (d.notes.take k).length = k := by rw [List.length_take]; omega
      rw [hlt] at hs hon
      have HS := Lib.hid hs
      have d0 := HS.out.bs.kd.cell 0
      have d2 := HS.out.bs.kd.cell 2
      have x2 := HS.out.kx.cell 2
      simp at d0 d2 x2
      have HXS := Lib.hid hxs
      have HON := Lib.hid hon
      have HYR := Lib.hid hyr
      have HLT := Lib.hid hlt
      clear hs hxs hon hyr hlt
      by_cases hgo : k < d.notes.length ∧ k + d.stones < 8
      · obtain ⟨hk1, hk2⟩ := hgo
        obtain ⟨ve', vn', e', _, ys0, hys0, hyo, hyy⟩ := HDV.out
        injection e' with e'
        simp at e'
        obtain ⟨rfl, rfl⟩ := e'
        obtain ⟨gn, rfl⟩ := own_addr hyo (by omega)
        have hyl : ys0.length = d.notes.length := by
          have : (ys0.map Prod.fst).length = d.notes.length := congrArg List.length hys0
          rw [List.length_map] at this
          exact this
        obtain ⟨p, hp⟩ : ∃ p, ys0[k]? = some p := ⟨_, List.getElem?_eq_getElem (by omega)⟩
        have hx : d.notes[k]? = some p.1 := by rw [← hys0, List.getElem?_map, hp]; rfl
        obtain ⟨Ay, cy, hpv⟩ := own_slice (hyy p (List.mem_of_getElem? hp))
        obtain ⟨q, hq⟩ : ∃ q : Nt, q = p.1 := ⟨_, rfl⟩
        obtain ⟨nq, hnq⟩ : ∃ nq, nq = p.1.years.length := ⟨_, rfl⟩
        have HCN := Lib.hid (fun (W : World) (hb : Below w.heap.size w W) (j : Nat) (hj : j < 6) => (show W.cell? ⟨gn, k * 6 + j, none⟩ = (ntL q (.slice Ay nq cy))[j]? by
          have e3 : w.cell? ⟨gn, k * 6 + j, none⟩ = (ntL q (.slice Ay nq cy))[j]? := by
            rw [hyo.cellAt (k * 6 + j) (by omega), hq, hnq, ← hpv]
            exact cellsN_at ys0 k p j hp hj
          rw [← e3]
          exact hb.cell (p := ⟨gn, k * 6 + j, none⟩) (hyo.lt gn rfl).2))
        have HYQ := Lib.hid (fun (W : World) (hb : Below w.heap.size w W) => (show IntsO W B (.slice Ay nq cy) q.years by
          rw [hq, hnq, ← hpv]
          exact own_fx (hyy p (List.mem_of_getElem? hp)) (Fx.of_below hb) (fun b _ hb _ => hb)))
        have HX := Lib.hid (show d.notes[k]? = some q by rw [hq]; exact hx)
        clear hys0 hyo hyy hyl hp hx hpv hq hnq
        go_wp2_with fail
        clear d0 d2 x2
        refine wp_region_v [(fun j => j == 1 || j == 3 || j == 5 || j == 6 || j == 7 || j == 8 || j == 9, fun W => W.cell? ⟨bx, 2, none⟩ = some (.slice Bn k bn)), (fun j => j == 3 || j == 5 || j == 6 || j == 7 || j == 8 || j == 9, fun W => W.cell? ⟨w.heap.size, 2, none⟩ = some (.slice (some ⟨gn, 0, none⟩) d.notes.length cn)), (fun j => j == 6 || j == 7 || j == 8 || j == 9, fun W => W.cell? ⟨gn, k * 6, none⟩ = some (.int .i64 q.kind) ∧ W.cell? ⟨gn, k * 6 + 1, none⟩ = some (.int .i64 q.stone) ∧ W.cell? ⟨gn, k * 6 + 2, none⟩ = some (.int .i64 q.other) ∧ W.cell? ⟨gn, k * 6 + 3, none⟩ = some (.slice Ay nq cy) ∧ W.cell? ⟨gn, k * 6 + 4, none⟩ = some (.int .i64 q.lo) ∧ W.cell? ⟨gn, k * 6 + 5, none⟩ = some (.int .i64 q.hi))] (by kernel_rfl) ?_
        refine wpAnyV_world (fun W => BV w B d (.slice Ae d.eras.length ce) (.slice (some ⟨gn, 0, none⟩) d.notes.length cn) bx (.slice Ax d.eras.length cx) (.slice Bn k bn) (.slice Bn k bn) (d.notes.take k) W) HS.out.drew (fun V hV => ?_)
        have HV := Lib.hid hV
        clear hV
        refine wpAnyV_free (i := 0) (v := ?_) (by simp only [List.getElem?_toArray, List.getElem?_cons_zero]; rfl) (by kernel_rfl) (by kernel_rfl) (by kernel_rfl) (by kernel_rfl) (by exact fun _ _ _ h => h) (Or.inl ⟨by rfl, ?hyb5112⟩) (behind_cons (fun h => by simp at h) (behind_cons (fun h => by simp at h) (behind_cons (fun h => by simp at h) (fun p hp => by cases hp)))) ?restb5112
        case hyb5112 => (intro W' _; go_simp; try with_reducible rfl)
        try simp only [Act.put, List.setIfInBounds_toArray, List.set_cons_zero, List.set_cons_succ]
        refine wpAnyV_free (i := 2) (v := ?_) (by simp only [List.getElem?_toArray, List.getElem?_cons_zero, List.getElem?_cons_succ]; rfl) (by kernel_rfl) (by kernel_rfl) (by kernel_rfl) (by kernel_rfl) (by exact fun _ _ _ h => h) (Or.inl ⟨by rfl, ?hyb5113⟩) (behind_cons (fun h => by simp at h) (behind_cons (fun h => by simp at h) (behind_cons (fun h => by simp at h) (fun p hp => by cases hp)))) ?restb5113
        case hyb5113 => (intro W' _; go_simp; try with_reducible rfl)
        try simp only [Act.put, List.setIfInBounds_toArray, List.set_cons_zero, List.set_cons_succ]
        refine wpAnyV_free (i := 4) (v := ?_) (by simp only [List.getElem?_toArray, List.getElem?_cons_zero, List.getElem?_cons_succ]; rfl) (by kernel_rfl) (by kernel_rfl) (by kernel_rfl) (by kernel_rfl) (by exact fun _ _ _ h => h) (Or.inl ⟨by rfl, ?hyb5114⟩) (behind_cons (fun h => by simp at h) (behind_cons (fun h => by simp at h) (behind_cons (fun h => by simp at h) (fun p hp => by cases hp)))) ?restb5114
        case hyb5114 => (intro W' _; go_simp; try with_reducible rfl)
        try simp only [Act.put, List.setIfInBounds_toArray, List.set_cons_zero, List.set_cons_succ]
        refine wpAnyV_take (i := 1) (m := 0) (v := ?_) (by simp only [List.getElem?_toArray, List.getElem?_cons_zero, List.getElem?_cons_succ]; rfl) (by rfl) (by kernel_rfl) (by kernel_rfl) (by kernel_rfl) (by kernel_rfl) (by exact fun _ _ _ h => h) (Or.inl ⟨by rfl, ?hyb5115⟩) ((HV.out.kx.cell 2)) (behind_cons (fun _ => (HV.out.kx.cell 2)) (behind_cons (fun h => by simp at h) (behind_cons (fun h => by simp at h) (fun p hp => by cases hp)))) ?restb5115
        case hyb5115 => (intro W' hSW; go_simp; try with_reducible rfl)
        try simp only [Act.put, List.setIfInBounds_toArray, List.set_cons_zero, List.set_cons_succ]
        refine wpAnyV_take (i := 3) (m := 1) (v := ?_) (by simp only [List.getElem?_toArray, List.getElem?_cons_zero, List.getElem?_cons_succ]; rfl) (by rfl) (by kernel_rfl) (by kernel_rfl) (by kernel_rfl) (by kernel_rfl) (by exact fun _ _ _ h => h) (Or.inl ⟨by rfl, ?hyb5116⟩) ((HV.out.bs.kd.cell 2)) (behind_cons (fun _ => (HV.out.kx.cell 2)) (behind_cons (fun _ => (HV.out.bs.kd.cell 2)) (behind_cons (fun h => by simp at h) (fun p hp => by cases hp)))) ?restb5116
        case hyb5116 => (intro W' hSW; go_simp; try with_reducible rfl)
        try simp only [Act.put, List.setIfInBounds_toArray, List.set_cons_zero, List.set_cons_succ]
        refine wpAnyV_free (i := 5) (v := ?_) (by simp only [List.getElem?_toArray, List.getElem?_cons_zero, List.getElem?_cons_succ]; rfl) (by kernel_rfl) (by kernel_rfl) (by kernel_rfl) (by kernel_rfl) (by exact fun _ _ _ h => h) (Or.inl ⟨by rfl, ?hyb5117⟩) (behind_cons (fun _ => (HV.out.kx.cell 2)) (behind_cons (fun _ => (HV.out.bs.kd.cell 2)) (behind_cons (fun h => by simp at h) (fun p hp => by cases hp)))) ?restb5117
        case hyb5117 => (intro W' _; go_simp; try with_reducible rfl)
        try simp only [Act.put, List.setIfInBounds_toArray, List.set_cons_zero, List.set_cons_succ]
        refine wpAnyV_take (i := 6) (m := 2) (v := ?_) (by simp only [List.getElem?_toArray, List.getElem?_cons_zero, List.getElem?_cons_succ]; rfl) (by rfl) (by kernel_rfl) (by kernel_rfl) (by kernel_rfl) (by kernel_rfl) (by exact fun _ _ _ h => h) (Or.inl ⟨by rfl, ?hyb5118⟩) ((And.intro (HCN.out _ HV.out.bs.below 0 (by omega)) (And.intro (HCN.out _ HV.out.bs.below 1 (by omega)) (And.intro (HCN.out _ HV.out.bs.below 2 (by omega)) (And.intro (HCN.out _ HV.out.bs.below 3 (by omega)) (And.intro (HCN.out _ HV.out.bs.below 4 (by omega)) (HCN.out _ HV.out.bs.below 5 (by omega)))))))) (behind_cons (fun _ => (HV.out.kx.cell 2)) (behind_cons (fun _ => (HV.out.bs.kd.cell 2)) (behind_cons (fun _ => (And.intro (HCN.out _ HV.out.bs.below 0 (by omega)) (And.intro (HCN.out _ HV.out.bs.below 1 (by omega)) (And.intro (HCN.out _ HV.out.bs.below 2 (by omega)) (And.intro (HCN.out _ HV.out.bs.below 3 (by omega)) (And.intro (HCN.out _ HV.out.bs.below 4 (by omega)) (HCN.out _ HV.out.bs.below 5 (by omega)))))))) (fun p hp => by cases hp)))) ?restb5118
        case hyb5118 => (intro W' hSW; go_simp; try with_reducible rfl)
        try simp only [Act.put, List.setIfInBounds_toArray, List.set_cons_zero, List.set_cons_succ]
        refine wpAnyV_ready (rs := [7]) (by kernel_rfl) (by simp) ?_
        refine AllReadyV.cons (by simp only [List.getElem?_toArray, List.getElem?_cons_zero, List.getElem?_cons_succ]; rfl) (fun K hK => ?_) AllReadyV.nil
        go_simp
        have HC512 := Lib.hid (HV.out.alloc (.cells #[.int .i64 q.kind, .int .i64 q.stone, .int .i64 q.other, .slice Ay nq cy, .int .i64 q.lo, .int .i64 q.hi] 51))
        have HNB := Lib.hid (Blok.new V 51 [.int .i64 q.kind, .int .i64 q.stone, .int .i64 q.other, .slice Ay nq cy, .int .i64 q.lo, .int .i64 q.hi])
        refine hK.out _ _ (behind_cons (fun _ => (HC512.out.kx.cell 2)) (behind_cons (fun _ => (HC512.out.bs.kd.cell 2)) (behind_cons (fun _ => (And.intro (HCN.out _ HC512.out.bs.below 0 (by omega)) (And.intro (HCN.out _ HC512.out.bs.below 1 (by omega)) (And.intro (HCN.out _ HC512.out.bs.below 2 (by omega)) (And.intro (HCN.out _ HC512.out.bs.below 3 (by omega)) (And.intro (HCN.out _ HC512.out.bs.below 4 (by omega)) (HCN.out _ HC512.out.bs.below 5 (by omega)))))))) (fun p hp => by cases hp)))) ?_
        clear hK K
        try simp only [Act.put, List.setIfInBounds_toArray, List.set_cons_zero, List.set_cons_succ]
        refine wpAnyV_ready (rs := [8]) (by kernel_rfl) (by simp) ?_
        refine AllReadyV.cons (by simp only [List.getElem?_toArray, List.getElem?_cons_zero, List.getElem?_cons_succ]; rfl) (fun K hK => ?_) AllReadyV.nil
        obtain ⟨xs9, hxs, hon, hyr⟩ := HC512.out.no
        rw [HLT.out] at hon
        refine step_append_lies (V.alloc (.cells #[.int .i64 q.kind, .int .i64 q.stone, .int .i64 q.other, .slice Ay nq cy, .int .i64 q.lo, .int .i64 q.hi] 51)) (by rfl) _ _ 26 (by rfl) w.heap.size 51 kI _ 6 64 Try.underlying26 HQ.out HQ0.out HQ1.out HQ2.out rfl (by omega) (.slice Bn k bn) (k) (cellsN xs9) (by rfl) hon ⟨V.heap.size, 0, none⟩ 1 1 [.int .i64 q.kind, .int .i64 q.stone, .int .i64 q.other, .slice Ay nq cy, .int .i64 q.lo, .int .i64 q.hi] (by rfl) (by rfl) (World.news_of_block HNB.out) (by simp [Value.oneCell']) (by omega) (by unfold maxLen; omega) (by omega) HC512.out.bs.below.size _ rfl ?_
        intro g8 c8 w513 hown hgrow hat hlt8
        have HC513 := Lib.hid (HC512.out.note (x := q) (vy := .slice Ay nq cy) hxs (by rw [HLT.out]; exact hon) hyr hgrow (by rw [HLT.out]; exact hown) (HYQ.out _ HC512.out.bs.below))
        clear hown hgrow hat hlt8 hon hyr hxs
        try go_simp
        refine hK.out _ _ (behind_cons (fun _ => (HC513.out.kx.cell 2)) (behind_cons (fun _ => (HC513.out.bs.kd.cell 2)) (behind_cons (fun _ => (And.intro (HCN.out _ HC513.out.bs.below 0 (by omega)) (And.intro (HCN.out _ HC513.out.bs.below 1 (by omega)) (And.intro (HCN.out _ HC513.out.bs.below 2 (by omega)) (And.intro (HCN.out _ HC513.out.bs.below 3 (by omega)) (And.intro (HCN.out _ HC513.out.bs.below 4 (by omega)) (HCN.out _ HC513.out.bs.below 5 (by omega)))))))) (fun p hp => by cases hp)))) ?_
        clear hK K
        try simp only [Act.put, List.setIfInBounds_toArray, List.set_cons_zero, List.set_cons_succ]
        refine wpAnyV_free (i := 9) (v := ?_) (by simp only [List.getElem?_toArray, List.getElem?_cons_zero, List.getElem?_cons_succ]; rfl) (by kernel_rfl) (by kernel_rfl) (by kernel_rfl) (by kernel_rfl) (by exact fun _ _ _ h => h) (Or.inl ⟨by rfl, ?hyb51111⟩) (behind_cons (fun _ => (HC513.out.kx.cell 2)) (behind_cons (fun _ => (HC513.out.bs.kd.cell 2)) (behind_cons (fun _ => (And.intro (HCN.out _ HC513.out.bs.below 0 (by omega)) (And.intro (HCN.out _ HC513.out.bs.below 1 (by omega)) (And.intro (HCN.out _ HC513.out.bs.below 2 (by omega)) (And.intro (HCN.out _ HC513.out.bs.below 3 (by omega)) (And.intro (HCN.out _ HC513.out.bs.below 4 (by omega)) (HCN.out _ HC513.out.bs.below 5 (by omega)))))))) (fun p hp => by cases hp)))) ?restb51111
        case hyb51111 => (intro W' _; go_simp; try with_reducible rfl)
        try simp only [Act.put, List.setIfInBounds_toArray, List.set_cons_zero, List.set_cons_succ]
        refine wpAnyV_ready (rs := [10]) (by kernel_rfl) (by simp) ?_
        refine AllReadyV.cons (by simp only [List.getElem?_toArray, List.getElem?_cons_zero, List.getElem?_cons_succ]; rfl) (fun K hK => ?_) AllReadyV.nil
        have x0 : w513.cell? ⟨bx, 2, none⟩ = some (.slice Bn k bn) := HC513.out.kx.cell 2
        have y0 := HC513.out.kx.free 2
        go_simp
        clear x0 y0
        have HC514 := Lib.hid (HC513.out.put (.slice (some ⟨g8, 0, none⟩) (k + 1) c8))
        refine hK.out _ _ (behind_cons (fun h => by simp at h) (behind_cons (fun h => by simp at h) (behind_cons (fun h => by simp at h) (fun p hp => by cases hp)))) ?_
        clear hK K
        try simp only [Act.put, List.setIfInBounds_toArray, List.set_cons_zero, List.set_cons_succ]
        refine wpAnyV_done (by kernel_rfl) ?_ _
        go_wp2_with fail
        go_roundg (gk - 1)
        case measure => omega
        case rel => exact ⟨k + 1, _, by go_num, by omega, by omega, by rw [List.take_add_one, HX.out]; exact HC514.out⟩
      · have htk : d.notes.take k = d.notes.take (8 - d.stones) := by
          by_cases h1 : k < d.notes.length
          · rw [show 8 - d.stones = k by omega]
          · rw [List.take_of_length_le (by omega), List.take_of_length_le (by omega)]
        have HTK := Lib.hid htk
        have HSB := Lib.hid HS.out.bs
        clear htk
        have hgo' : ((decide ((k : Int) < (d.notes.length : Int))) && (decide ((k : Int) + (d.stones : Int) < 8))) = false := by
          rw [Bool.and_eq_false_iff]
          by_cases h1 : k < d.notes.length
          · exact .inr (by rw [decide_eq_false_iff_not]; omega)
          · exact .inl (by rw [decide_eq_false_iff_not]; omega)
        clear hgo'
        have hall : ∃ w9 : World, True := ⟨wr, trivial⟩
        clear hall
        by_cases h1 : k < d.notes.length
        · have h2 : ¬ (k + d.stones < 8) := fun h => hgo ⟨h1, h⟩
          clear hgo
          go_wp2_with fail
          go_loopg [5] d.stones (fun r i wr => ∃ (k2 : Nat) (vn : Value), i = .int .i64 (k2 : Nat) ∧ k2 + r = d.stones ∧ BV w B d (.slice Ae d.eras.length ce) (.slice An d.notes.length cn) bx (.slice Ax d.eras.length cx) vn vn (d.notes.take k ++ bounds k2) wr)
          case atStart => exact ⟨0, _, rfl, by omega, by simpa [bounds] using HS.out⟩
          case round =>
            clear HS HON HYR d0 d2 x2 HSB
            obtain ⟨k2, vn, rfl, hkr2, hs⟩ := hrel
            obtain ⟨xs2, hxs, hon, hyr⟩ := hs.no
            obtain ⟨Cn, dn, rfl⟩ := own_slice hon
            have hlt : (d.notes.take k ++ bounds k2).length = k + k2 := by rw [List.length_append, bounds_len, HLT.out]
            rw [hlt] at hs hon
            have HS := Lib.hid hs
            have d0 := HS.out.bs.kd.cell 0
            simp at d0
            have HXS2 := Lib.hid hxs
            have HON := Lib.hid hon
            have HYR := Lib.hid hyr
            have HLT2 := Lib.hid hlt
            clear hs hxs hon hyr hlt
            by_cases hk2 : k2 < d.stones
            · go_wp2_with fail
              clear d0
              refine wp_region_v [(fun j => j == 1 || j == 3 || j == 4 || j == 5 || j == 6 || j == 7, fun W => W.cell? ⟨bx, 2, none⟩ = some (.slice Cn (k + k2) dn))] (by kernel_rfl) ?_
              refine wpAnyV_world (fun W => BV w B d (.slice Ae d.eras.length ce) (.slice An d.notes.length cn) bx (.slice Ax d.eras.length cx) (.slice Cn (k + k2) dn) (.slice Cn (k + k2) dn) (d.notes.take k ++ bounds k2) W) HS.out.drew (fun V hV => ?_)
              have HV := Lib.hid hV
              clear hV
              refine wpAnyV_free (i := 0) (v := ?_) (by simp only [List.getElem?_toArray, List.getElem?_cons_zero]; rfl) (by kernel_rfl) (by kernel_rfl) (by kernel_rfl) (by kernel_rfl) (by exact fun _ _ _ h => h) (Or.inl ⟨by rfl, ?hyc5252⟩) (behind_cons (fun h => by simp at h) (fun p hp => by cases hp)) ?restc5252
              case hyc5252 => (intro W' _; go_simp; try with_reducible rfl)
              try simp only [Act.put, List.setIfInBounds_toArray, List.set_cons_zero, List.set_cons_succ]
              refine wpAnyV_free (i := 2) (v := ?_) (by simp only [List.getElem?_toArray, List.getElem?_cons_zero, List.getElem?_cons_succ]; rfl) (by kernel_rfl) (by kernel_rfl) (by kernel_rfl) (by kernel_rfl) (by exact fun _ _ _ h => h) (Or.inl ⟨by rfl, ?hyc5253⟩) (behind_cons (fun h => by simp at h) (fun p hp => by cases hp)) ?restc5253
              case hyc5253 => (intro W' _; go_simp; try with_reducible rfl)
              try simp only [Act.put, List.setIfInBounds_toArray, List.set_cons_zero, List.set_cons_succ]
              refine wpAnyV_take (i := 1) (m := 0) (v := ?_) (by simp only [List.getElem?_toArray, List.getElem?_cons_zero, List.getElem?_cons_succ]; rfl) (by rfl) (by kernel_rfl) (by kernel_rfl) (by kernel_rfl) (by kernel_rfl) (by exact fun _ _ _ h => h) (Or.inl ⟨by rfl, ?hyc5254⟩) ((HV.out.kx.cell 2)) (behind_cons (fun _ => (HV.out.kx.cell 2)) (fun p hp => by cases hp)) ?restc5254
              case hyc5254 => (intro W' hSW; go_simp; try with_reducible rfl)
              try simp only [Act.put, List.setIfInBounds_toArray, List.set_cons_zero, List.set_cons_succ]
              refine wpAnyV_ready (rs := [3]) (by kernel_rfl) (by simp) ?_
              refine AllReadyV.cons (by simp only [List.getElem?_toArray, List.getElem?_cons_zero, List.getElem?_cons_succ]; rfl) (fun K hK => ?_) AllReadyV.nil
              go_simp
              go_at_call 23
              (with_reducible refine (to_any (-900) 900 _).mono ?_)
              rintro e w526 ⟨rfl, hb⟩
              have HC526 := Lib.hid (HV.out.to hb)
              clear hb
              refine hK.out _ _ (behind_cons (fun _ => (HC526.out.kx.cell 2)) (fun p hp => by cases hp)) ?_
              clear hK K
              try simp only [Act.put, List.setIfInBounds_toArray, List.set_cons_zero, List.set_cons_succ]
              refine wpAnyV_free (i := 4) (v := ?_) (by simp only [List.getElem?_toArray, List.getElem?_cons_zero, List.getElem?_cons_succ]; rfl) (by kernel_rfl) (by kernel_rfl) (by kernel_rfl) (by kernel_rfl) (by exact fun _ _ _ h => h) (Or.inl ⟨by rfl, ?hyc5256⟩) (behind_cons (fun _ => (HC526.out.kx.cell 2)) (fun p hp => by cases hp)) ?restc5256
              case hyc5256 => (intro W' _; go_simp; try with_reducible rfl)
              try simp only [Act.put, List.setIfInBounds_toArray, List.set_cons_zero, List.set_cons_succ]
              refine wpAnyV_ready (rs := [5]) (by kernel_rfl) (by simp) ?_
              refine AllReadyV.cons (by simp only [List.getElem?_toArray, List.getElem?_cons_zero, List.getElem?_cons_succ]; rfl) (fun K hK => ?_) AllReadyV.nil
              go_simp
              have HC527 := Lib.hid (HC526.out.alloc (.cells #[.int .i64 2, .int .i64 k2, .int .i64 0, .slice none 0 0, .int .i64 (-900), .int .i64 900] 51))
              have HNB := Lib.hid (Blok.new w526 51 [.int .i64 2, .int .i64 k2, .int .i64 0, .slice none 0 0, .int .i64 (-900), .int .i64 900])
              refine hK.out _ _ (behind_cons (fun _ => (HC527.out.kx.cell 2)) (fun p hp => by cases hp)) ?_
              clear hK K
              try simp only [Act.put, List.setIfInBounds_toArray, List.set_cons_zero, List.set_cons_succ]
              refine wpAnyV_ready (rs := [6]) (by kernel_rfl) (by simp) ?_
              refine AllReadyV.cons (by simp only [List.getElem?_toArray, List.getElem?_cons_zero, List.getElem?_cons_succ]; rfl) (fun K hK => ?_) AllReadyV.nil
              obtain ⟨xs9, hxs, hon, hyr⟩ := HC527.out.no
              rw [HLT2.out] at hon
              refine step_append_lies (w526.alloc (.cells #[.int .i64 2, .int .i64 k2, .int .i64 0, .slice none 0 0, .int .i64 (-900), .int .i64 900] 51)) (by rfl) _ _ 26 (by rfl) w.heap.size 51 kI _ 6 64 Try.underlying26 HQ.out HQ0.out HQ1.out HQ2.out rfl (by omega) (.slice Cn (k + k2) dn) ((k + k2)) (cellsN xs9) (by rfl) hon ⟨w526.heap.size, 0, none⟩ 1 1 [.int .i64 2, .int .i64 k2, .int .i64 0, .slice none 0 0, .int .i64 (-900), .int .i64 900] (by rfl) (by rfl) (World.news_of_block HNB.out) (by simp [Value.oneCell']) (by omega) (by unfold maxLen; omega) (by omega) HC527.out.bs.below.size _ rfl ?_
              intro g8 c8 w528 hown hgrow hat hlt8
              have HC528 := Lib.hid (HC527.out.note (x := spanN k2 (-900) 900) (vy := .slice none 0 0) hxs (by rw [HLT2.out]; exact hon) hyr hgrow (by rw [HLT2.out]; exact hown) (World.ownsRow_nil _ _ _ _))
              clear hown hgrow hat hlt8 hon hyr hxs
              try go_simp
              refine hK.out _ _ (behind_cons (fun _ => (HC528.out.kx.cell 2)) (fun p hp => by cases hp)) ?_
              clear hK K
              try simp only [Act.put, List.setIfInBounds_toArray, List.set_cons_zero, List.set_cons_succ]
              refine wpAnyV_free (i := 7) (v := ?_) (by simp only [List.getElem?_toArray, List.getElem?_cons_zero, List.getElem?_cons_succ]; rfl) (by kernel_rfl) (by kernel_rfl) (by kernel_rfl) (by kernel_rfl) (by exact fun _ _ _ h => h) (Or.inl ⟨by rfl, ?hyc5259⟩) (behind_cons (fun _ => (HC528.out.kx.cell 2)) (fun p hp => by cases hp)) ?restc5259
              case hyc5259 => (intro W' _; go_simp; try with_reducible rfl)
              try simp only [Act.put, List.setIfInBounds_toArray, List.set_cons_zero, List.set_cons_succ]
              refine wpAnyV_ready (rs := [8]) (by kernel_rfl) (by simp) ?_
              refine AllReadyV.cons (by simp only [List.getElem?_toArray, List.getElem?_cons_zero, List.getElem?_cons_succ]; rfl) (fun K hK => ?_) AllReadyV.nil
              have x0 : w528.cell? ⟨bx, 2, none⟩ = some (.slice Cn (k + k2) dn) := HC528.out.kx.cell 2
              have y0 := HC528.out.kx.free 2
              go_simp
              clear x0 y0
              have HC529 := Lib.hid (HC528.out.put (.slice (some ⟨g8, 0, none⟩) (k + k2 + 1) c8))
              refine hK.out _ _ (behind_cons (fun h => by simp at h) (fun p hp => by cases hp)) ?_
              clear hK K
              try simp only [Act.put, List.setIfInBounds_toArray, List.set_cons_zero, List.set_cons_succ]
              refine wpAnyV_done (by kernel_rfl) ?_ _
              go_wp2_with fail
              go_roundg (gk - 1)
              case measure => omega
              case rel => exact ⟨k2 + 1, _, by go_num, by omega, by rw [bounds_succ, ← List.append_assoc]; exact HC529.out⟩
            · obtain rfl : k2 = d.stones := by omega
              have e0 := HS.out.kx.cell 0
              have e1 := HS.out.kx.cell 1
              have e2 := HS.out.kx.cell 2
              simp at e0 e1 e2
              have r0 : wr.cell? ⟨w.heap.size + 1, 0, none⟩ = some (.int .i64 0) := HS.out.bs.k1.cell 0
              have r1 : wr.cell? ⟨w.heap.size + 1, 1, none⟩ = some (.slice none 0 0) := HS.out.bs.k1.cell 1
              have r2 : wr.cell? ⟨w.heap.size + 1, 2, none⟩ = some (.slice none 0 0) := HS.out.bs.k1.cell 2
              have g0 := HS.out.bs.k1.free 0
              have g1 := HS.out.bs.k1.free 1
              have g2 := HS.out.bs.k1.free 2
              go_wp2_with fail
              have hC := HS.out
              have hoe := hC.oe
              have hxs := HXS2.out
              have hon := HON.out
              have hyr := HYR.out
              refine bodyPost_ret (v := .agg #[.int .i64 d.stones, .slice Ax d.eras.length cx, .slice Cn (k + d.stones) dn]) ?_ rfl ⟨_, rfl, ⟨_, _, rfl, ?_, xs2, ?_, ?_, fun p hp => ?_⟩, ((hC.bs.below.setCell (p := ⟨w.heap.size + 1, 0, none⟩) (Nat.le_succ _) _).setCell (p := ⟨w.heap.size + 1, 1, none⟩) (Nat.le_succ _) _).setCell (p := ⟨w.heap.size + 1, 2, none⟩) (Nat.le_succ _) _⟩
              · exact results_cell_row Try.results25 _ _ (w.heap.size + 1) 28 _ (0, 0) _ rfl (((hC.bs.k1.put 0 (.int .i64 d.stones)).put 1 (.slice Ax d.eras.length cx)).put 2 (.slice Cn (k + d.stones) dn)) Try.underlying28 rfl (by kernel_rfl)
              · exact (own_far (own_far (own_far hoe (own_ne hoe hC.bs.k1 (by decide)) _) (own_ne hoe hC.bs.k1 (by decide)) _) (own_ne hoe hC.bs.k1 (by decide)) _).mono hB
              · rw [hxs, HTK.out]
                rfl
              · have h := own_far (own_far (own_far hon (p := ⟨w.heap.size + 1, 0, none⟩) (own_ne hon hC.bs.k1 (by decide)) (.int .i64 d.stones)) (p := ⟨w.heap.size + 1, 1, none⟩) (own_ne hon hC.bs.k1 (by decide)) (.slice Ax d.eras.length cx)) (p := ⟨w.heap.size + 1, 2, none⟩) (own_ne hon hC.bs.k1 (by decide)) (.slice Cn (k + d.stones) dn)
                have hl : d.bound.notes.length = k + d.stones := by
                  show (d.notes.take (8 - d.stones) ++ bounds d.stones).length = _
                  rw [← HTK.out]
                  exact HLT2.out
                rw [hl]
                exact h.mono hB
              · have hy := hyr p hp
                exact own_far (own_far (own_far hy (own_ne hy hC.bs.k1 (by decide)) _) (own_ne hy hC.bs.k1 (by decide)) _) (own_ne hy hC.bs.k1 (by decide)) _
        · clear hgo
          go_wp2_with fail
          go_loopg [5] d.stones (fun r i wr => ∃ (k2 : Nat) (vn : Value), i = .int .i64 (k2 : Nat) ∧ k2 + r = d.stones ∧ BV w B d (.slice Ae d.eras.length ce) (.slice An d.notes.length cn) bx (.slice Ax d.eras.length cx) vn vn (d.notes.take k ++ bounds k2) wr)
          case atStart => exact ⟨0, _, rfl, by omega, by simpa [bounds] using HS.out⟩
          case round =>
            clear HS HON HYR d0 d2 x2 HSB
            obtain ⟨k2, vn, rfl, hkr2, hs⟩ := hrel
            obtain ⟨xs2, hxs, hon, hyr⟩ := hs.no
            obtain ⟨Cn, dn, rfl⟩ := own_slice hon
            have hlt : (d.notes.take k ++ bounds k2).length = k + k2 := by rw [List.length_append, bounds_len, HLT.out]
            rw [hlt] at hs hon
            have HS := Lib.hid hs
            have d0 := HS.out.bs.kd.cell 0
            simp at d0
            have HXS2 := Lib.hid hxs
            have HON := Lib.hid hon
            have HYR := Lib.hid hyr
            have HLT2 := Lib.hid hlt
            clear hs hxs hon hyr hlt
            by_cases hk2 : k2 < d.stones
            · go_wp2_with fail
              clear d0
              refine wp_region_v [(fun j => j == 1 || j == 3 || j == 4 || j == 5 || j == 6 || j == 7, fun W => W.cell? ⟨bx, 2, none⟩ = some (.slice Cn (k + k2) dn))] (by kernel_rfl) ?_
              refine wpAnyV_world (fun W => BV w B d (.slice Ae d.eras.length ce) (.slice An d.notes.length cn) bx (.slice Ax d.eras.length cx) (.slice Cn (k + k2) dn) (.slice Cn (k + k2) dn) (d.notes.take k ++ bounds k2) W) HS.out.drew (fun V hV => ?_)
              have HV := Lib.hid hV
              clear hV
              refine wpAnyV_free (i := 0) (v := ?_) (by simp only [List.getElem?_toArray, List.getElem?_cons_zero]; rfl) (by kernel_rfl) (by kernel_rfl) (by kernel_rfl) (by kernel_rfl) (by exact fun _ _ _ h => h) (Or.inl ⟨by rfl, ?hyc5302⟩) (behind_cons (fun h => by simp at h) (fun p hp => by cases hp)) ?restc5302
              case hyc5302 => (intro W' _; go_simp; try with_reducible rfl)
              try simp only [Act.put, List.setIfInBounds_toArray, List.set_cons_zero, List.set_cons_succ]
              refine wpAnyV_free (i := 2) (v := ?_) (by simp only [List.getElem?_toArray, List.getElem?_cons_zero, List.getElem?_cons_succ]; rfl) (by kernel_rfl) (by kernel_rfl) (by kernel_rfl) (by kernel_rfl) (by exact fun _ _ _ h => h) (Or.inl ⟨by rfl, ?hyc5303⟩) (behind_cons (fun h => by simp at h) (fun p hp => by cases hp)) ?restc5303
              case hyc5303 => (intro W' _; go_simp; try with_reducible rfl)
              try simp only [Act.put, List.setIfInBounds_toArray, List.set_cons_zero, List.set_cons_succ]
              refine wpAnyV_take (i := 1) (m := 0) (v := ?_) (by simp only [List.getElem?_toArray, List.getElem?_cons_zero, List.getElem?_cons_succ]; rfl) (by rfl) (by kernel_rfl) (by kernel_rfl) (by kernel_rfl) (by kernel_rfl) (by exact fun _ _ _ h => h) (Or.inl ⟨by rfl, ?hyc5304⟩) ((HV.out.kx.cell 2)) (behind_cons (fun _ => (HV.out.kx.cell 2)) (fun p hp => by cases hp)) ?restc5304
              case hyc5304 => (intro W' hSW; go_simp; try with_reducible rfl)
              try simp only [Act.put, List.setIfInBounds_toArray, List.set_cons_zero, List.set_cons_succ]
              refine wpAnyV_ready (rs := [3]) (by kernel_rfl) (by simp) ?_
              refine AllReadyV.cons (by simp only [List.getElem?_toArray, List.getElem?_cons_zero, List.getElem?_cons_succ]; rfl) (fun K hK => ?_) AllReadyV.nil
              go_simp
              go_at_call 23
              (with_reducible refine (to_any (-900) 900 _).mono ?_)
              rintro e w531 ⟨rfl, hb⟩
              have HC531 := Lib.hid (HV.out.to hb)
              clear hb
              refine hK.out _ _ (behind_cons (fun _ => (HC531.out.kx.cell 2)) (fun p hp => by cases hp)) ?_
              clear hK K
              try simp only [Act.put, List.setIfInBounds_toArray, List.set_cons_zero, List.set_cons_succ]
              refine wpAnyV_free (i := 4) (v := ?_) (by simp only [List.getElem?_toArray, List.getElem?_cons_zero, List.getElem?_cons_succ]; rfl) (by kernel_rfl) (by kernel_rfl) (by kernel_rfl) (by kernel_rfl) (by exact fun _ _ _ h => h) (Or.inl ⟨by rfl, ?hyc5306⟩) (behind_cons (fun _ => (HC531.out.kx.cell 2)) (fun p hp => by cases hp)) ?restc5306
              case hyc5306 => (intro W' _; go_simp; try with_reducible rfl)
              try simp only [Act.put, List.setIfInBounds_toArray, List.set_cons_zero, List.set_cons_succ]
              refine wpAnyV_ready (rs := [5]) (by kernel_rfl) (by simp) ?_
              refine AllReadyV.cons (by simp only [List.getElem?_toArray, List.getElem?_cons_zero, List.getElem?_cons_succ]; rfl) (fun K hK => ?_) AllReadyV.nil
              go_simp
              have HC532 := Lib.hid (HC531.out.alloc (.cells #[.int .i64 2, .int .i64 k2, .int .i64 0, .slice none 0 0, .int .i64 (-900), .int .i64 900] 51))
              have HNB := Lib.hid (Blok.new w531 51 [.int .i64 2, .int .i64 k2, .int .i64 0, .slice none 0 0, .int .i64 (-900), .int .i64 900])
              refine hK.out _ _ (behind_cons (fun _ => (HC532.out.kx.cell 2)) (fun p hp => by cases hp)) ?_
              clear hK K
              try simp only [Act.put, List.setIfInBounds_toArray, List.set_cons_zero, List.set_cons_succ]
              refine wpAnyV_ready (rs := [6]) (by kernel_rfl) (by simp) ?_
              refine AllReadyV.cons (by simp only [List.getElem?_toArray, List.getElem?_cons_zero, List.getElem?_cons_succ]; rfl) (fun K hK => ?_) AllReadyV.nil
              obtain ⟨xs9, hxs, hon, hyr⟩ := HC532.out.no
              rw [HLT2.out] at hon
              refine step_append_lies (w531.alloc (.cells #[.int .i64 2, .int .i64 k2, .int .i64 0, .slice none 0 0, .int .i64 (-900), .int .i64 900] 51)) (by rfl) _ _ 26 (by rfl) w.heap.size 51 kI _ 6 64 Try.underlying26 HQ.out HQ0.out HQ1.out HQ2.out rfl (by omega) (.slice Cn (k + k2) dn) ((k + k2)) (cellsN xs9) (by rfl) hon ⟨w531.heap.size, 0, none⟩ 1 1 [.int .i64 2, .int .i64 k2, .int .i64 0, .slice none 0 0, .int .i64 (-900), .int .i64 900] (by rfl) (by rfl) (World.news_of_block HNB.out) (by simp [Value.oneCell']) (by omega) (by unfold maxLen; omega) (by omega) HC532.out.bs.below.size _ rfl ?_
              intro g8 c8 w533 hown hgrow hat hlt8
              have HC533 := Lib.hid (HC532.out.note (x := spanN k2 (-900) 900) (vy := .slice none 0 0) hxs (by rw [HLT2.out]; exact hon) hyr hgrow (by rw [HLT2.out]; exact hown) (World.ownsRow_nil _ _ _ _))
              clear hown hgrow hat hlt8 hon hyr hxs
              try go_simp
              refine hK.out _ _ (behind_cons (fun _ => (HC533.out.kx.cell 2)) (fun p hp => by cases hp)) ?_
              clear hK K
              try simp only [Act.put, List.setIfInBounds_toArray, List.set_cons_zero, List.set_cons_succ]
              refine wpAnyV_free (i := 7) (v := ?_) (by simp only [List.getElem?_toArray, List.getElem?_cons_zero, List.getElem?_cons_succ]; rfl) (by kernel_rfl) (by kernel_rfl) (by kernel_rfl) (by kernel_rfl) (by exact fun _ _ _ h => h) (Or.inl ⟨by rfl, ?hyc5309⟩) (behind_cons (fun _ => (HC533.out.kx.cell 2)) (fun p hp => by cases hp)) ?restc5309
              case hyc5309 => (intro W' _; go_simp; try with_reducible rfl)
              try simp only [Act.put, List.setIfInBounds_toArray, List.set_cons_zero, List.set_cons_succ]
              refine wpAnyV_ready (rs := [8]) (by kernel_rfl) (by simp) ?_
              refine AllReadyV.cons (by simp only [List.getElem?_toArray, List.getElem?_cons_zero, List.getElem?_cons_succ]; rfl) (fun K hK => ?_) AllReadyV.nil
              have x0 : w533.cell? ⟨bx, 2, none⟩ = some (.slice Cn (k + k2) dn) := HC533.out.kx.cell 2
              have y0 := HC533.out.kx.free 2
              go_simp
              clear x0 y0
              have HC534 := Lib.hid (HC533.out.put (.slice (some ⟨g8, 0, none⟩) (k + k2 + 1) c8))
              refine hK.out _ _ (behind_cons (fun h => by simp at h) (fun p hp => by cases hp)) ?_
              clear hK K
              try simp only [Act.put, List.setIfInBounds_toArray, List.set_cons_zero, List.set_cons_succ]
              refine wpAnyV_done (by kernel_rfl) ?_ _
              go_wp2_with fail
              go_roundg (gk - 1)
              case measure => omega
              case rel => exact ⟨k2 + 1, _, by go_num, by omega, by rw [bounds_succ, ← List.append_assoc]; exact HC534.out⟩
            · obtain rfl : k2 = d.stones := by omega
              have e0 := HS.out.kx.cell 0
              have e1 := HS.out.kx.cell 1
              have e2 := HS.out.kx.cell 2
              simp at e0 e1 e2
              have r0 : wr.cell? ⟨w.heap.size + 1, 0, none⟩ = some (.int .i64 0) := HS.out.bs.k1.cell 0
              have r1 : wr.cell? ⟨w.heap.size + 1, 1, none⟩ = some (.slice none 0 0) := HS.out.bs.k1.cell 1
              have r2 : wr.cell? ⟨w.heap.size + 1, 2, none⟩ = some (.slice none 0 0) := HS.out.bs.k1.cell 2
              have g0 := HS.out.bs.k1.free 0
              have g1 := HS.out.bs.k1.free 1
              have g2 := HS.out.bs.k1.free 2
              go_wp2_with fail
              have hC := HS.out
              have hoe := hC.oe
              have hxs := HXS2.out
              have hon := HON.out
              have hyr := HYR.out
              refine bodyPost_ret (v := .agg #[.int .i64 d.stones, .slice Ax d.eras.length cx, .slice Cn (k + d.stones) dn]) ?_ rfl ⟨_, rfl, ⟨_, _, rfl, ?_, xs2, ?_, ?_, fun p hp => ?_⟩, ((hC.bs.below.setCell (p := ⟨w.heap.size + 1, 0, none⟩) (Nat.le_succ _) _).setCell (p := ⟨w.heap.size + 1, 1, none⟩) (Nat.le_succ _) _).setCell (p := ⟨w.heap.size + 1, 2, none⟩) (Nat.le_succ _) _⟩
              · exact results_cell_row Try.results25 _ _ (w.heap.size + 1) 28 _ (0, 0) _ rfl (((hC.bs.k1.put 0 (.int .i64 d.stones)).put 1 (.slice Ax d.eras.length cx)).put 2 (.slice Cn (k + d.stones) dn)) Try.underlying28 rfl (by kernel_rfl)
              · exact (own_far (own_far (own_far hoe (own_ne hoe hC.bs.k1 (by decide)) _) (own_ne hoe hC.bs.k1 (by decide)) _) (own_ne hoe hC.bs.k1 (by decide)) _).mono hB
              · rw [hxs, HTK.out]
                rfl
              · have h := own_far (own_far (own_far hon (p := ⟨w.heap.size + 1, 0, none⟩) (own_ne hon hC.bs.k1 (by decide)) (.int .i64 d.stones)) (p := ⟨w.heap.size + 1, 1, none⟩) (own_ne hon hC.bs.k1 (by decide)) (.slice Ax d.eras.length cx)) (p := ⟨w.heap.size + 1, 2, none⟩) (own_ne hon hC.bs.k1 (by decide)) (.slice Cn (k + d.stones) dn)
                have hl : d.bound.notes.length = k + d.stones := by
                  show (d.notes.take (8 - d.stones) ++ bounds d.stones).length = _
                  rw [← HTK.out]
                  exact HLT2.out
                rw [hl]
                exact h.mono hB
              · have hy := hyr p hp
                exact own_far (own_far (own_far hy (own_ne hy hC.bs.k1 (by decide)) _) (own_ne hy hC.bs.k1 (by decide)) _) (own_ne hy hC.bs.k1 (by decide)) _
end Go.Proofs.Ytcbdcdpoackplaa
