/- Without: a dating without some of its notes. -/
import Derived.Test.YtcbdcdpoackplaaKb
import Derived.Test.YtcbdcdpoackplaaJd
namespace Go.Proofs.Ytcbdcdpoackplaa
open Go.RowKit Dt

/-- What Without holds on its way. -/
structure WV (w : World) (B : Nat) (d : Dat) (ve vd vc vn : Value) (l : List Nt) (W : World) : Prop where
  bs : BS w d ve vd W
  kx : Blok W (w.heap.size + 2) 28 [.int .i64 d.stones, ve, vc]
  no : ∃ xs : List (Nt × Value), xs.map Prod.fst = l ∧ W.ownsRow w.heap.size 51 6 vn l.length (cellsN xs) ∧ ∀ p ∈ xs, IntsO W B p.2 p.1.years
section
variable {w W W' : World} {B : Nat} {d : Dat} {ve vd vc vn : Value} {l : List Nt}
theorem WV.to (h : WV w B d ve vd vc vn l W) (hb : Below W.heap.size W W') : WV w B d ve vd vc vn l W' := by
  refine ⟨h.bs.to hb, h.kx.below hb h.kx.size, ?_⟩
  obtain ⟨xs, e, h1, h2⟩ := h.no
  exact ⟨xs, e, own_fx h1 (Fx.of_all hb) (fun _ _ _ _ => trivial), fun p hp => own_fx (h2 p hp) (Fx.of_all hb) (fun _ _ _ _ => trivial)⟩
theorem WV.alloc (h : WV w B d ve vd vc vn l W) (o : Obj) : WV w B d ve vd vc vn l (W.alloc o) := h.to ((Below.refl _ W).alloc (Nat.le_refl _) o)
theorem WV.drew (h : WV w B d ve vd vc vn l W) : WV w B d ve vd vc vn l W.drew := h.to (Below.refl _ W).drew
theorem WV.note {vn' vy : Value} {x : Nt} {xs : List (Nt × Value)} (h : WV w B d ve vd vc vn l W) (hxs : xs.map Prod.fst = l) (hon : W.ownsRow w.heap.size 51 6 vn l.length (cellsN xs)) (hyr : ∀ p ∈ xs, IntsO W B p.2 p.1.years)
    (hg : W.grownBy W' vn.ownBlock) (hn : W'.ownsRow w.heap.size 51 6 vn' (l.length + 1) (cellsN xs ++ ntL x vy)) (hvy : IntsO W B vy x.years) : WV w B d ve vd vc vn' (l ++ [x]) W' := by
  have hb : ∀ {t : TypeId} {b : Nat} {cs : List Value}, t ≠ 51 → Blok W b t cs → Blok W' b t cs := fun ht h' => h'.grown hg (own_ne hon h' (fun e => ht e.symm))
  have hO : ∀ {base size n : Nat} {e : TypeId} {u : Value} {cs : List Value}, e ≠ 51 → W.ownsRow base e size u n cs → W'.ownsRow base e size u n cs := fun he h' => own_fx h' (Fx.of_grown hg) (fun b _ _ hb' => own_disj h' hon he b hb')
  refine ⟨⟨hb (by decide) h.bs.k1, hb (by decide) h.bs.kd, h.bs.below.grown hg h.bs.below.size (fun k hk => (hon.lt k hk).1)⟩, hb (by decide) h.kx, xs ++ [(x, vy)], by rw [List.map_append, hxs]; rfl, ?_, fun p hp => ?_⟩
  · rw [cellsN_snoc, List.length_append]
    exact hn
  · rcases List.mem_append.1 hp with hp | hp
    · exact hO (by decide) (hyr p hp)
    · rw [List.mem_singleton.1 hp]
      exact hO (by decide) hvy
theorem WV.put (h : WV w B d ve vd vc vn l W) (u : Value) : WV w B d ve vd u vn l (W.setCell ⟨w.heap.size + 2, 2, none⟩ u) := by
  have hO : ∀ {base size n : Nat} {e : TypeId} {v : Value} {xs : List Value}, e ≠ 28 → W.ownsRow base e size v n xs → (W.setCell ⟨w.heap.size + 2, 2, none⟩ u).ownsRow base e size v n xs := fun he h' => own_far h' (own_ne h' h.kx he) u
  refine ⟨⟨h.bs.k1.far (by show w.heap.size + 1 ≠ w.heap.size + 2; omega) u, h.bs.kd.far (by show w.heap.size ≠ w.heap.size + 2; omega) u, h.bs.below.setCell (p := ⟨w.heap.size + 2, 2, none⟩) (by show w.heap.size ≤ w.heap.size + 2; omega) u⟩, h.kx.put 2 u, ?_⟩
  obtain ⟨xs, e, h1, h2⟩ := h.no
  exact ⟨xs, e, hO (by decide) h1, fun p hp => hO (by decide) (h2 p hp)⟩
end
set_option maxRecDepth 100000 in
set_option maxHeartbeats 8000000 in
theorem without_any (d : Dat) (hd : d.Ok) (s : Nat) (lw : List Nat) (hl8 : lw.length ≤ 8) (hl : ∀ i ∈ lw, i < 100) (hs : ∀ i, i < d.notes.length → s.testBit i = decide (i ∈ lw)) (B : Nat) (v vw : Value) (w : World) (hB : B ≤ w.heap.size) (hv : DatO w B v d)
    (hw : w.ownsRow B 3 1 vw lw.length (intCells (ints lw))) :
    Calls Try.prog 33 #[v, vw] w fun e w' => ∃ v', e = .returned v' ∧ DatO w' B v' (Dat.sub d s) ∧ Below w.heap.size w w' := by
  obtain ⟨Ae, ce, An, cn, rfl⟩ := hv.slices
  obtain ⟨Aw, cw, rfl⟩ := own_slice hw
  have HDV := Lib.hid hv
  have HD := Lib.hid hd
  have HW := Lib.hid hw
  have HSB := Lib.hid hs
  have HLL := Lib.hid hl
  have h8 := hd.notes.1
  obtain ⟨kI, hi, hz0, hz1, hz2⟩ := info_parts info_napi
  have HQ := Lib.hid hi
  have HQ0 := Lib.hid hz0
  have HQ1 := Lib.hid hz1
  have HQ2 := Lib.hid hz2
  obtain ⟨nl, hnl⟩ : ∃ nl, nl = lw.length := ⟨_, rfl⟩
  rw [← hnl] at hl8 HW ⊢
  have HNL := Lib.hid hnl
  clear hi hz0 hz1 hz2 hv hd hw hs hl hnl
  go_enter Try.func33, Try.ntmps33
  go_upto_region 3 with fail
  obtain ⟨w0, hw0⟩ : ∃ w0, w0 = ((w.alloc (.cells #[.int .i64 d.stones, .slice Ae d.eras.length ce, .slice An d.notes.length cn] 28)).alloc (.cells #[.int .i64 0, .slice none 0 0, .slice none 0 0] 28)).alloc (.cells #[.int .i64 d.stones, .slice Ae d.eras.length ce, .slice none 0 0] 28) := ⟨_, rfl⟩
  have hbv : WV w B d (.slice Ae d.eras.length ce) (.slice An d.notes.length cn) (.slice none 0 0) (.slice none 0 0) [] w0 := by
    rw [hw0]
    refine ⟨⟨?_, ((Blok.new w _ _).alloc _).alloc _, (((Below.refl _ w).alloc (Nat.le_refl _) _).alloc (by simp) _).alloc (by simp; omega) _⟩, ?_, [], rfl, World.ownsRow_nil _ _ _ _, by simp⟩
    · have := (Blok.new (w.alloc (.cells #[.int .i64 d.stones, .slice Ae d.eras.length ce, .slice An d.notes.length cn] 28)) 28 [.int .i64 0, .slice none 0 0, .slice none 0 0]).alloc (.cells #[.int .i64 d.stones, .slice Ae d.eras.length ce, .slice none 0 0] 28)
      simpa only [World.size_alloc, zeroD] using this
    · have := Blok.new ((w.alloc (.cells #[.int .i64 d.stones, .slice Ae d.eras.length ce, .slice An d.notes.length cn] 28)).alloc (.cells #[.int .i64 0, .slice none 0 0, .slice none 0 0] 28)) 28 [.int .i64 d.stones, .slice Ae d.eras.length ce, .slice none 0 0]
      simpa only [World.size_alloc] using this
  rw [← hw0]
  have HS := Lib.hid hbv
  clear hbv hw0
  go_wp2_with fail
  go_loopg [6] d.notes.length (fun r i wr => ∃ (k : Nat) (vn : Value), i = .int .i64 (k : Nat) ∧ k + r = d.notes.length ∧ WV w B d (.slice Ae d.eras.length ce) (.slice An d.notes.length cn) vn vn (keptTo d.notes s k) wr)
  case atStart => exact ⟨0, _, rfl, by omega, HS.out⟩
  case round =>
    clear HS
    obtain ⟨k, vn, rfl, hkr, hs⟩ := hrel
    obtain ⟨wo, rfl⟩ : ∃ wo : World, wo = wr := ⟨_, rfl⟩
    obtain ⟨ga, hga⟩ : ∃ ga, ga = gk := ⟨_, rfl⟩
    obtain ⟨xs, hxs, hon, hyr⟩ := hs.no
    obtain ⟨m, hm⟩ : ∃ m, m = (keptTo d.notes s k).length := ⟨_, rfl⟩
    obtain ⟨Xn, xn, rfl⟩ := own_slice hon
    have hm8 : m ≤ 8 := by
      rw [hm]
      have h1 := keptTo_len d.notes s k
      omega
    rw [← hm] at hs hon
    have HS := Lib.hid hs
    have HXS := Lib.hid hxs
    have HON := Lib.hid hon
    have HYR := Lib.hid hyr
    have HMM := Lib.hid hm
    have d2 := HS.out.bs.kd.cell 2
    have x2 := HS.out.kx.cell 2
    simp at d2 x2
    have hwz := HS.out.kx.size
    have hwl := HS.out.bs.below.size
    clear hs hxs hon hyr hm
    by_cases hlt : k < d.notes.length
    · go_wp2_with fail
      go_loopg [7, 8] nl (fun r lf kk wr => ∃ j : Nat, kk = .int .i64 (j : Nat) ∧ j + r = nl ∧ lf = .bool (decide (k ∉ lw.take j)) ∧ wr = wo)
      case atStart => exact ⟨0, rfl, by omega, by simp, rfl⟩
      case round =>
        obtain ⟨j, rfl, hjr, rfl, hwr⟩ := hrel
        subst hwr
        by_cases hj : j < nl
        · obtain ⟨gw, rfl⟩ := own_addr HW.out (by omega)
          obtain ⟨x, hx⟩ : ∃ x, lw[j]? = some x := ⟨_, List.getElem?_eq_getElem (by have := HNL.out; omega)⟩
          have hx1 := HLL.out x (List.mem_of_getElem? hx)
          have c0 : wr.cell? ⟨gw, j, none⟩ = some (.int .i64 (x : Int)) := by
            rw [HS.out.bs.below.cell (p := ⟨gw, j, none⟩) (HW.out.lt gw rfl).2, HW.out.cellAt j (by omega)]
            simp [intCells, ints, hx]
          obtain ⟨lf, hlf⟩ : ∃ lf, lf = decide (k ∉ lw.take j) := ⟨_, rfl⟩
          have hnx : decide (k ∉ lw.take (j + 1)) = (lf && decide (x ≠ k)) := by
            rw [hlf, List.take_add_one, hx]
            simp only [Option.toList_some, List.mem_append, List.mem_singleton, not_or, Bool.decide_and]
            congr 1
            exact decide_eq_decide.2 ⟨fun h e => h e.symm, fun h e => h e.symm⟩
          have HNX := Lib.hid hnx
          rw [← hlf]
          clear hx hlf hnx
          cases lf
          · go_wp2_with fail
            go_roundg (gk - 1)
            case measure => omega
            case rel => exact ⟨j + 1, by go_num, by omega, by rw [HNX.out]; rfl, rfl⟩
          · by_cases hxk : x = k
            · have hb : (((x : Int)) != (k : Int)) = false := by rw [hxk]; simp
              have HXK := Lib.hid hxk
              clear hxk
              go_wp2_with fail
              go_roundg (gk - 1)
              case measure => omega
              case rel => exact ⟨j + 1, by go_num, by omega, by rw [HNX.out]; simp [HXK.out], rfl⟩
            · have hb : (((x : Int)) != (k : Int)) = true := by rw [bne_iff_ne]; omega
              have HXK := Lib.hid hxk
              clear hxk
              go_wp2_with fail
              go_roundg (gk - 1)
              case measure => omega
              case rel => exact ⟨j + 1, by go_num, by omega, by rw [HNX.out]; simp [HXK.out], rfl⟩
        · obtain rfl : j = nl := by omega
          have hbit := HSB.out k hlt
          have htk : lw.take j = lw := List.take_of_length_le (by have := HNL.out; omega)
          rw [htk]
          cases hsb : s.testBit k
          · rw [hsb] at hbit
            have hkn : decide (k ∉ lw) = true := by
              rw [decide_eq_true_eq]
              exact of_decide_eq_false hbit.symm
            rw [hkn]
            have HBT := Lib.hid hsb
            obtain ⟨ve', vn', e', _, ys0, hys0, hyo, hyy⟩ := HDV.out
            injection e' with e'
            simp at e'
            obtain ⟨rfl, rfl⟩ := e'
            obtain ⟨gn, rfl⟩ := own_addr hyo (by omega)
            have hyl : ys0.length = d.notes.length := by
              have : (ys0.map Prod.fst).length = d.notes.length := congrArg List.length hys0
              rw [List.length_map] at this
              exact this
            obtain ⟨p, hp⟩ : ∃ p, ys0[k]? = some p := ⟨_, List.getElem?_eq_getElem (by omega)⟩
            have hx : d.notes[k]? = some p.1 := by rw [← hys0, List.getElem?_map, hp]; rfl
            obtain ⟨Ay, cy, hpv⟩ := own_slice (hyy p (List.mem_of_getElem? hp))
            obtain ⟨q, hq⟩ : ∃ q : Nt, q = p.1 := ⟨_, rfl⟩
            obtain ⟨nq, hnq⟩ : ∃ nq, nq = p.1.years.length := ⟨_, rfl⟩
            have HCN := Lib.hid (fun (W : World) (hb : Below w.heap.size w W) (j : Nat) (hj : j < 6) => (show W.cell? ⟨gn, k * 6 + j, none⟩ = (ntL q (.slice Ay nq cy))[j]? by
              have e3 : w.cell? ⟨gn, k * 6 + j, none⟩ = (ntL q (.slice Ay nq cy))[j]? := by
                rw [hyo.cellAt (k * 6 + j) (by omega), hq, hnq, ← hpv]
                exact cellsN_at ys0 k p j hp hj
              rw [← e3]
              exact hb.cell (p := ⟨gn, k * 6 + j, none⟩) (hyo.lt gn rfl).2))
            have HYQ := Lib.hid (fun (W : World) (hb : Below w.heap.size w W) => (show IntsO W B (.slice Ay nq cy) q.years by
              rw [hq, hnq, ← hpv]
              exact own_fx (hyy p (List.mem_of_getElem? hp)) (Fx.of_below hb) (fun b _ hb _ => hb)))
            have HX := Lib.hid (show d.notes[k]? = some q by rw [hq]; exact hx)
            clear hys0 hyo hyy hyl hp hx hpv hq hnq hbit htk hkn hsb
            go_wp2_with fail
            clear d2 x2
            refine wp_region_v [(fun j => j == 1 || j == 3 || j == 5 || j == 6 || j == 7 || j == 8 || j == 9, fun W => W.cell? ⟨w.heap.size + 2, 2, none⟩ = some (.slice Xn m xn)), (fun j => j == 3 || j == 5 || j == 6 || j == 7 || j == 8 || j == 9, fun W => W.cell? ⟨w.heap.size, 2, none⟩ = some (.slice (some ⟨gn, 0, none⟩) d.notes.length cn)), (fun j => j == 6 || j == 7 || j == 8 || j == 9, fun W => W.cell? ⟨gn, k * 6, none⟩ = some (.int .i64 q.kind) ∧ W.cell? ⟨gn, k * 6 + 1, none⟩ = some (.int .i64 q.stone) ∧ W.cell? ⟨gn, k * 6 + 2, none⟩ = some (.int .i64 q.other) ∧ W.cell? ⟨gn, k * 6 + 3, none⟩ = some (.slice Ay nq cy) ∧ W.cell? ⟨gn, k * 6 + 4, none⟩ = some (.int .i64 q.lo) ∧ W.cell? ⟨gn, k * 6 + 5, none⟩ = some (.int .i64 q.hi))] (by kernel_rfl) ?_
            refine wpAnyV_world (fun W => WV w B d (.slice Ae d.eras.length ce) (.slice (some ⟨gn, 0, none⟩) d.notes.length cn) (.slice Xn m xn) (.slice Xn m xn) (keptTo d.notes s k) W) HS.out.drew (fun V hV => ?_)
            have HV := Lib.hid hV
            clear hV
            refine wpAnyV_free (i := 0) (v := ?_) (by simp only [List.getElem?_toArray, List.getElem?_cons_zero]; rfl) (by kernel_rfl) (by kernel_rfl) (by kernel_rfl) (by kernel_rfl) (by exact fun _ _ _ h => h) (Or.inl ⟨by rfl, ?hyb2⟩) (behind_cons (fun h => by simp at h) (behind_cons (fun h => by simp at h) (behind_cons (fun h => by simp at h) (fun p hp => by cases hp)))) ?restb2
            case hyb2 => (intro W' _; go_simp; try with_reducible rfl)
            try simp only [Act.put, List.setIfInBounds_toArray, List.set_cons_zero, List.set_cons_succ]
            refine wpAnyV_free (i := 2) (v := ?_) (by simp only [List.getElem?_toArray, List.getElem?_cons_zero, List.getElem?_cons_succ]; rfl) (by kernel_rfl) (by kernel_rfl) (by kernel_rfl) (by kernel_rfl) (by exact fun _ _ _ h => h) (Or.inl ⟨by rfl, ?hyb3⟩) (behind_cons (fun h => by simp at h) (behind_cons (fun h => by simp at h) (behind_cons (fun h => by simp at h) (fun p hp => by cases hp)))) ?restb3
            case hyb3 => (intro W' _; go_simp; try with_reducible rfl)
            try simp only [Act.put, List.setIfInBounds_toArray, List.set_cons_zero, List.set_cons_succ]
            refine wpAnyV_free (i := 4) (v := ?_) (by simp only [List.getElem?_toArray, List.getElem?_cons_zero, List.getElem?_cons_succ]; rfl) (by kernel_rfl) (by kernel_rfl) (by kernel_rfl) (by kernel_rfl) (by exact fun _ _ _ h => h) (Or.inl ⟨by rfl, ?hyb4⟩) (behind_cons (fun h => by simp at h) (behind_cons (fun h => by simp at h) (behind_cons (fun h => by simp at h) (fun p hp => by cases hp)))) ?restb4
            case hyb4 => (intro W' _; go_simp; try with_reducible rfl)
            try simp only [Act.put, List.setIfInBounds_toArray, List.set_cons_zero, List.set_cons_succ]
            refine wpAnyV_take (i := 1) (m := 0) (v := ?_) (by simp only [List.getElem?_toArray, List.getElem?_cons_zero, List.getElem?_cons_succ]; rfl) (by rfl) (by kernel_rfl) (by kernel_rfl) (by kernel_rfl) (by kernel_rfl) (by exact fun _ _ _ h => h) (Or.inl ⟨by rfl, ?hyb5⟩) ((HV.out.kx.cell 2)) (behind_cons (fun _ => (HV.out.kx.cell 2)) (behind_cons (fun h => by simp at h) (behind_cons (fun h => by simp at h) (fun p hp => by cases hp)))) ?restb5
            case hyb5 => (intro W' hSW; go_simp; try with_reducible rfl)
            try simp only [Act.put, List.setIfInBounds_toArray, List.set_cons_zero, List.set_cons_succ]
            refine wpAnyV_take (i := 3) (m := 1) (v := ?_) (by simp only [List.getElem?_toArray, List.getElem?_cons_zero, List.getElem?_cons_succ]; rfl) (by rfl) (by kernel_rfl) (by kernel_rfl) (by kernel_rfl) (by kernel_rfl) (by exact fun _ _ _ h => h) (Or.inl ⟨by rfl, ?hyb6⟩) ((HV.out.bs.kd.cell 2)) (behind_cons (fun _ => (HV.out.kx.cell 2)) (behind_cons (fun _ => (HV.out.bs.kd.cell 2)) (behind_cons (fun h => by simp at h) (fun p hp => by cases hp)))) ?restb6
            case hyb6 => (intro W' hSW; go_simp; try with_reducible rfl)
            try simp only [Act.put, List.setIfInBounds_toArray, List.set_cons_zero, List.set_cons_succ]
            refine wpAnyV_free (i := 5) (v := ?_) (by simp only [List.getElem?_toArray, List.getElem?_cons_zero, List.getElem?_cons_succ]; rfl) (by kernel_rfl) (by kernel_rfl) (by kernel_rfl) (by kernel_rfl) (by exact fun _ _ _ h => h) (Or.inl ⟨by rfl, ?hyb7⟩) (behind_cons (fun _ => (HV.out.kx.cell 2)) (behind_cons (fun _ => (HV.out.bs.kd.cell 2)) (behind_cons (fun h => by simp at h) (fun p hp => by cases hp)))) ?restb7
            case hyb7 => (intro W' _; go_simp; try with_reducible rfl)
            try simp only [Act.put, List.setIfInBounds_toArray, List.set_cons_zero, List.set_cons_succ]
            refine wpAnyV_take (i := 6) (m := 2) (v := ?_) (by simp only [List.getElem?_toArray, List.getElem?_cons_zero, List.getElem?_cons_succ]; rfl) (by rfl) (by kernel_rfl) (by kernel_rfl) (by kernel_rfl) (by kernel_rfl) (by exact fun _ _ _ h => h) (Or.inl ⟨by rfl, ?hyb8⟩) ((And.intro (HCN.out _ HV.out.bs.below 0 (by omega)) (And.intro (HCN.out _ HV.out.bs.below 1 (by omega)) (And.intro (HCN.out _ HV.out.bs.below 2 (by omega)) (And.intro (HCN.out _ HV.out.bs.below 3 (by omega)) (And.intro (HCN.out _ HV.out.bs.below 4 (by omega)) (HCN.out _ HV.out.bs.below 5 (by omega)))))))) (behind_cons (fun _ => (HV.out.kx.cell 2)) (behind_cons (fun _ => (HV.out.bs.kd.cell 2)) (behind_cons (fun _ => (And.intro (HCN.out _ HV.out.bs.below 0 (by omega)) (And.intro (HCN.out _ HV.out.bs.below 1 (by omega)) (And.intro (HCN.out _ HV.out.bs.below 2 (by omega)) (And.intro (HCN.out _ HV.out.bs.below 3 (by omega)) (And.intro (HCN.out _ HV.out.bs.below 4 (by omega)) (HCN.out _ HV.out.bs.below 5 (by omega)))))))) (fun p hp => by cases hp)))) ?restb8
            case hyb8 => (intro W' hSW; go_simp; try with_reducible rfl)
            try simp only [Act.put, List.setIfInBounds_toArray, List.set_cons_zero, List.set_cons_succ]
            refine wpAnyV_ready (rs := [7]) (by kernel_rfl) (by simp) ?_
            refine AllReadyV.cons (by simp only [List.getElem?_toArray, List.getElem?_cons_zero, List.getElem?_cons_succ]; rfl) (fun K hK => ?_) AllReadyV.nil
            go_simp
            have HC501 := Lib.hid (HV.out.alloc (.cells #[.int .i64 q.kind, .int .i64 q.stone, .int .i64 q.other, .slice Ay nq cy, .int .i64 q.lo, .int .i64 q.hi] 51))
            have HNB := Lib.hid (Blok.new V 51 [.int .i64 q.kind, .int .i64 q.stone, .int .i64 q.other, .slice Ay nq cy, .int .i64 q.lo, .int .i64 q.hi])
            refine hK.out _ _ (behind_cons (fun _ => (HC501.out.kx.cell 2)) (behind_cons (fun _ => (HC501.out.bs.kd.cell 2)) (behind_cons (fun _ => (And.intro (HCN.out _ HC501.out.bs.below 0 (by omega)) (And.intro (HCN.out _ HC501.out.bs.below 1 (by omega)) (And.intro (HCN.out _ HC501.out.bs.below 2 (by omega)) (And.intro (HCN.out _ HC501.out.bs.below 3 (by omega)) (And.intro (HCN.out _ HC501.out.bs.below 4 (by omega)) (HCN.out _ HC501.out.bs.below 5 (by omega)))))))) (fun p hp => by cases hp)))) ?_
            clear hK K
            try simp only [Act.put, List.setIfInBounds_toArray, List.set_cons_zero, List.set_cons_succ]
            refine wpAnyV_ready (rs := [8]) (by kernel_rfl) (by simp) ?_
            refine AllReadyV.cons (by simp only [List.getElem?_toArray, List.getElem?_cons_zero, List.getElem?_cons_succ]; rfl) (fun K hK => ?_) AllReadyV.nil
            obtain ⟨xs9, hxs, hon, hyr⟩ := HC501.out.no
            rw [← HMM.out] at hon
            refine step_append_lies (V.alloc (.cells #[.int .i64 q.kind, .int .i64 q.stone, .int .i64 q.other, .slice Ay nq cy, .int .i64 q.lo, .int .i64 q.hi] 51)) (by rfl) _ _ 26 (by rfl) w.heap.size 51 kI _ 6 64 Try.underlying26 HQ.out HQ0.out HQ1.out HQ2.out rfl (by omega) (.slice Xn m xn) m (cellsN xs9) (by rfl) hon ⟨V.heap.size, 0, none⟩ 1 1 [.int .i64 q.kind, .int .i64 q.stone, .int .i64 q.other, .slice Ay nq cy, .int .i64 q.lo, .int .i64 q.hi] (by rfl) (by rfl) (World.news_of_block HNB.out) (by simp [Value.oneCell']) (by omega) (by unfold maxLen; omega) (by omega) HC501.out.bs.below.size _ rfl ?_
            intro g8 c8 w502 hown hgrow hat hlt8
            have HC502 := Lib.hid (HC501.out.note (x := q) (vy := .slice Ay nq cy) hxs (by rw [← HMM.out]; exact hon) hyr hgrow (by rw [← HMM.out]; exact hown) (HYQ.out _ HC501.out.bs.below))
            clear hown hgrow hat hlt8 hon hyr hxs
            try go_simp
            refine hK.out _ _ (behind_cons (fun _ => (HC502.out.kx.cell 2)) (behind_cons (fun _ => (HC502.out.bs.kd.cell 2)) (behind_cons (fun _ => (And.intro (HCN.out _ HC502.out.bs.below 0 (by omega)) (And.intro (HCN.out _ HC502.out.bs.below 1 (by omega)) (And.intro (HCN.out _ HC502.out.bs.below 2 (by omega)) (And.intro (HCN.out _ HC502.out.bs.below 3 (by omega)) (And.intro (HCN.out _ HC502.out.bs.below 4 (by omega)) (HCN.out _ HC502.out.bs.below 5 (by omega)))))))) (fun p hp => by cases hp)))) ?_
            clear hK K
            try simp only [Act.put, List.setIfInBounds_toArray, List.set_cons_zero, List.set_cons_succ]
            refine wpAnyV_free (i := 9) (v := ?_) (by simp only [List.getElem?_toArray, List.getElem?_cons_zero, List.getElem?_cons_succ]; rfl) (by kernel_rfl) (by kernel_rfl) (by kernel_rfl) (by kernel_rfl) (by exact fun _ _ _ h => h) (Or.inl ⟨by rfl, ?hyb11⟩) (behind_cons (fun _ => (HC502.out.kx.cell 2)) (behind_cons (fun _ => (HC502.out.bs.kd.cell 2)) (behind_cons (fun _ => (And.intro (HCN.out _ HC502.out.bs.below 0 (by omega)) (And.intro (HCN.out _ HC502.out.bs.below 1 (by omega)) (And.intro (HCN.out _ HC502.out.bs.below 2 (by omega)) (And.intro (HCN.out _ HC502.out.bs.below 3 (by omega)) (And.intro (HCN.out _ HC502.out.bs.below 4 (by omega)) (HCN.out _ HC502.out.bs.below 5 (by omega)))))))) (fun p hp => by cases hp)))) ?restb11
            case hyb11 => (intro W' _; go_simp; try with_reducible rfl)
            try simp only [Act.put, List.setIfInBounds_toArray, List.set_cons_zero, List.set_cons_succ]
            refine wpAnyV_ready (rs := [10]) (by kernel_rfl) (by simp) ?_
            refine AllReadyV.cons (by simp only [List.getElem?_toArray, List.getElem?_cons_zero, List.getElem?_cons_succ]; rfl) (fun K hK => ?_) AllReadyV.nil
            have x0 : w502.cell? ⟨w.heap.size + 2, 2, none⟩ = some (.slice Xn m xn) := HC502.out.kx.cell 2
            have y0 := HC502.out.kx.free 2
            go_simp
            clear x0 y0
            have HC503 := Lib.hid (HC502.out.put (.slice (some ⟨g8, 0, none⟩) (m + 1) c8))
            refine hK.out _ _ (behind_cons (fun h => by simp at h) (behind_cons (fun h => by simp at h) (behind_cons (fun h => by simp at h) (fun p hp => by cases hp)))) ?_
            clear hK K
            try simp only [Act.put, List.setIfInBounds_toArray, List.set_cons_zero, List.set_cons_succ]
            refine wpAnyV_done (by kernel_rfl) ?_ _
            go_wp2_with fail
            go_roundg (ga - 1)
            case measure => omega
            case rel => exact ⟨k + 1, _, by go_num, by omega, by rw [keptTo_no _ _ _ HBT.out q HX.out]; exact HC503.out⟩
          · rw [hsb] at hbit
            have hkn : decide (k ∉ lw) = false := by
              rw [decide_eq_false_iff_not]
              exact fun h => h (of_decide_eq_true hbit.symm)
            rw [hkn]
            have HBT := Lib.hid hsb
            clear hkn hbit htk hsb
            go_wp2_with fail
            go_roundg (ga - 1)
            case measure => omega
            case rel => exact ⟨k + 1, _, by go_num, by omega, by rw [keptTo_yes _ _ _ HBT.out]; exact HS.out⟩
    · obtain rfl : k = d.notes.length := by omega
      have e0 := HS.out.kx.cell 0
      have e1 := HS.out.kx.cell 1
      simp at e0 e1
      have r0 : wo.cell? ⟨w.heap.size + 1, 0, none⟩ = some (.int .i64 0) := HS.out.bs.k1.cell 0
      have r1 : wo.cell? ⟨w.heap.size + 1, 1, none⟩ = some (.slice none 0 0) := HS.out.bs.k1.cell 1
      have r2 : wo.cell? ⟨w.heap.size + 1, 2, none⟩ = some (.slice none 0 0) := HS.out.bs.k1.cell 2
      have g0 := HS.out.bs.k1.free 0
      have g1 := HS.out.bs.k1.free 1
      have g2 := HS.out.bs.k1.free 2
      go_wp2_with fail
      have hC := HS.out
      have hon := HON.out
      have hyr := HYR.out
      have hbf := (((hC.bs.below.setCell (p := ⟨w.heap.size + 1, 0, none⟩) (Nat.le_succ _) (.int .i64 d.stones)).setCell (p := ⟨w.heap.size + 1, 1, none⟩) (Nat.le_succ _) (.slice Ae d.eras.length ce)).setCell (p := ⟨w.heap.size + 1, 2, none⟩) (Nat.le_succ _) (.slice Xn m xn))
      refine bodyPost_ret (v := .agg #[.int .i64 d.stones, .slice Ae d.eras.length ce, .slice Xn m xn]) ?_ rfl ⟨_, rfl, ⟨_, _, rfl, ?_, xs, HXS.out, ?_, fun p hp => ?_⟩, hbf⟩
      · exact results_cell_row Try.results33 _ _ (w.heap.size + 1) 28 _ (0, 0) _ rfl (((hC.bs.k1.put 0 (.int .i64 d.stones)).put 1 (.slice Ae d.eras.length ce)).put 2 (.slice Xn m xn)) Try.underlying28 rfl (by kernel_rfl)
      · obtain ⟨ve', vn', e', h1, _⟩ := HDV.out.down hbf
        injection e' with e'
        simp at e'
        obtain ⟨rfl, rfl⟩ := e'
        exact h1
      · have h := own_far (own_far (own_far hon (p := ⟨w.heap.size + 1, 0, none⟩) (own_ne hon hC.bs.k1 (by decide)) (.int .i64 d.stones)) (p := ⟨w.heap.size + 1, 1, none⟩) (own_ne hon hC.bs.k1 (by decide)) (.slice Ae d.eras.length ce)) (p := ⟨w.heap.size + 1, 2, none⟩) (own_ne hon hC.bs.k1 (by decide)) (.slice Xn m xn)
        show World.ownsRow _ B 51 6 (.slice Xn m xn) (keptTo d.notes s d.notes.length).length (cellsN xs)
        rw [← HMM.out]
        exact h.mono hB
      · have hy := hyr p hp
        exact own_far (own_far (own_far hy (own_ne hy hC.bs.k1 (by decide)) _) (own_ne hy hC.bs.k1 (by decide)) _) (own_ne hy hC.bs.k1 (by decide)) _
end Go.Proofs.Ytcbdcdpoackplaa
