/- turned: time turned round. -/
import Derived.Test.YtcbdcdpoackplaaJd
namespace Go.Proofs.Ytcbdcdpoackplaa
open Go.RowKit Dt

/-- The years of a note, gathered from the last one on. -/
def rev (l : List Int) (j : Nat) : List Int := (l.reverse.take j).map (- ·)
theorem rev_succ {l : List Int} {j : Nat} {y : Int} (h : l[l.length - 1 - j]? = some y) (hj : j < l.length) : rev l (j + 1) = rev l j ++ [-y] := by
  unfold rev
  rw [List.take_add_one, List.getElem?_reverse hj, h]
  simp
theorem rev_all (l : List Int) : rev l l.length = (l.map (- ·)).reverse := by
  unfold rev
  rw [List.take_of_length_le (by simp), List.map_reverse]
theorem rev_len (l : List Int) (j : Nat) (h : j ≤ l.length) : (rev l j).length = j := by
  unfold rev
  simp
  omega
/-- What turned holds in the loop of a note's years. -/
structure TI (wo : World) (q : Nt) (lo hi : Int) (l : List Int) (vy : Value) (W : World) : Prop where
  below : Below wo.heap.size wo W
  nb : Blok W wo.heap.size 51 [.int .i64 q.kind, .int .i64 q.stone, .int .i64 q.other, vy, .int .i64 lo, .int .i64 hi]
  yr : W.ownsRow (wo.heap.size + 1) 3 1 vy l.length (intCells l)
section
variable {wo W W' : World} {q : Nt} {lo hi : Int} {l : List Int} {vy : Value}
theorem TI.to (h : TI wo q lo hi l vy W) (hb : Below W.heap.size W W') : TI wo q lo hi l vy W' := ⟨h.below.trans (hb.mono h.below.size), h.nb.below hb h.nb.size, own_fx h.yr (Fx.of_all hb) (fun _ _ _ _ => trivial)⟩
theorem TI.alloc (h : TI wo q lo hi l vy W) (o : Obj) : TI wo q lo hi l vy (W.alloc o) := h.to ((Below.refl _ W).alloc (Nat.le_refl _) o)
theorem TI.drew (h : TI wo q lo hi l vy W) : TI wo q lo hi l vy W.drew := h.to (Below.refl _ W).drew
theorem TI.app {y : Int} {vy' : Value} (h : TI wo q lo hi l vy W) (hg : W.grownBy W' vy.ownBlock) (hn : W'.ownsRow (wo.heap.size + 1) 3 1 vy' (l.length + 1) (intCells l ++ [.int .i64 y])) : TI wo q lo hi (l ++ [y]) vy' (W'.setCell ⟨wo.heap.size, 3, none⟩ vy') := by
  have q0 := h.nb.grown hg (own_ne h.yr h.nb (by decide))
  refine ⟨(h.below.grown hg h.below.size (fun k hk => by have := (h.yr.lt k hk).1; omega)).setCell (p := ⟨wo.heap.size, 3, none⟩) (Nat.le_refl _) _, q0.put 3 vy', ?_⟩
  have := own_far hn (own_ne hn q0 (by decide)) vy' (p := ⟨wo.heap.size, 3, none⟩)
  rw [List.length_append]
  have e : intCells (l ++ [y]) = intCells l ++ [.int .i64 y] := by simp [intCells]
  rw [e]
  exact this
end
set_option maxRecDepth 100000 in
set_option maxHeartbeats 8000000 in
theorem turned_any (st : Nat) (l : List Nt) (hl8 : l.length ≤ 8) (hok : ∀ n ∈ l, ∃ d : Dat, d.stones = st ∧ n.Ok d) (B : Nat) (ve vn : Value) (w : World) (hv : NotesO w B vn l) :
    Calls Try.prog 27 #[.agg #[.int .i64 st, ve, vn]] w fun e w' => ∃ v', e = .returned v' ∧ DatO w' w.heap.size v' ⟨st, [], (l.filter notEra).map Nt.turned⟩ ∧ Below w.heap.size w w' := by
  obtain ⟨ys0, hys0, hyo, hyy⟩ := hv
  obtain ⟨An, cn, rfl⟩ := own_slice hyo
  have HYS := Lib.hid hys0
  have HYO := Lib.hid hyo
  have HYY := Lib.hid hyy
  have HOK := Lib.hid hok
  obtain ⟨kI, hi, hz0, hz1, hz2⟩ := info_parts info_napi
  have HQ := Lib.hid hi
  have HQ0 := Lib.hid hz0
  have HQ1 := Lib.hid hz1
  have HQ2 := Lib.hid hz2
  clear hi hz0 hz1 hz2
  obtain ⟨kN, hi, hz0, hz1, hz2⟩ := info_parts info_num
  have HI := Lib.hid hi
  have HI0 := Lib.hid hz0
  have HI1 := Lib.hid hz1
  have HI2 := Lib.hid hz2
  clear hi hz0 hz1 hz2 hys0 hyo hyy hok
  go_enter Try.func27, Try.ntmps27
  go_upto_region 2 with fail
  obtain ⟨w0, hw0⟩ : ∃ w0, w0 = ((w.alloc (.cells #[.int .i64 st, ve, .slice An l.length cn] 28)).alloc (.cells #[.int .i64 0, .slice none 0 0, .slice none 0 0] 28)).alloc (.cells #[.int .i64 st, .slice none 0 0, .slice none 0 0] 28) := ⟨_, rfl⟩
  have hbv : BV w w.heap.size (⟨st, [], l⟩ : Dat) ve (.slice An l.length cn) (w.heap.size + 2) (.slice none 0 0) (.slice none 0 0) (.slice none 0 0) [] w0 := by
    rw [hw0]
    refine ⟨⟨?_, ((Blok.new w _ _).alloc _).alloc _, (((Below.refl _ w).alloc (Nat.le_refl _) _).alloc (by simp) _).alloc (by simp; omega) _⟩, ?_, by omega, World.ownsRow_nil _ _ _ _, [], rfl, World.ownsRow_nil _ _ _ _, by simp⟩
    · have := (Blok.new (w.alloc (.cells #[.int .i64 st, ve, .slice An l.length cn] 28)) 28 [.int .i64 0, .slice none 0 0, .slice none 0 0]).alloc (.cells #[.int .i64 st, .slice none 0 0, .slice none 0 0] 28)
      simpa only [World.size_alloc, zeroD] using this
    · have := Blok.new ((w.alloc (.cells #[.int .i64 st, ve, .slice An l.length cn] 28)).alloc (.cells #[.int .i64 0, .slice none 0 0, .slice none 0 0] 28)) 28 [.int .i64 st, .slice none 0 0, .slice none 0 0]
      simpa only [World.size_alloc] using this
  rw [← hw0]
  have HS := Lib.hid hbv
  clear hbv hw0
  go_wp2_with fail
  go_loopg [4] l.length (fun r i wr => ∃ (k : Nat) (vn : Value), i = .int .i64 (k : Nat) ∧ k + r = l.length ∧ BV w w.heap.size (⟨st, [], l⟩ : Dat) ve (.slice An l.length cn) (w.heap.size + 2) (.slice none 0 0) vn vn (((l.take k).filter notEra).map Nt.turned) wr)
  case atStart => exact ⟨0, _, rfl, by omega, HS.out⟩
  case round =>
    clear HS
    obtain ⟨k, vn, rfl, hkr, hs⟩ := hrel
    obtain ⟨wo, rfl⟩ : ∃ wo : World, wo = wr := ⟨_, rfl⟩
    obtain ⟨ga, hga⟩ : ∃ ga, ga = gk := ⟨_, rfl⟩
    obtain ⟨xs, hxs, hon, hyr⟩ := hs.no
    obtain ⟨m, hm⟩ : ∃ m, m = (((l.take k).filter notEra).map Nt.turned).length := ⟨_, rfl⟩
    obtain ⟨Xn, xn, rfl⟩ := own_slice hon
    have hm8 : m ≤ 8 := by
      rw [hm, List.length_map]
      have h1 := List.length_filter_le notEra (l.take k)
      rw [List.length_take] at h1
      omega
    rw [← hm] at hs hon
    have HS := Lib.hid hs
    have HXS := Lib.hid hxs
    have HON := Lib.hid hon
    have HYR := Lib.hid hyr
    have HMM := Lib.hid hm
    have d2 := HS.out.bs.kd.cell 2
    have x2 := HS.out.kx.cell 2
    simp at d2 x2
    have hwz := HS.out.kx.size
    have hwl := HS.out.bs.below.size
    clear hs hxs hon hyr hm
    by_cases hlt : k < l.length
    · obtain ⟨gn, rfl⟩ := own_addr HYO.out (by omega)
      have hyl : ys0.length = l.length := by
        have : (ys0.map Prod.fst).length = l.length := congrArg List.length HYS.out
        rw [List.length_map] at this
        exact this
      obtain ⟨p, hp⟩ : ∃ p, ys0[k]? = some p := ⟨_, List.getElem?_eq_getElem (by omega)⟩
      have hx : l[k]? = some p.1 := by rw [← HYS.out, List.getElem?_map, hp]; rfl
      obtain ⟨Ay, cy, hpv⟩ := own_slice (HYY.out p (List.mem_of_getElem? hp))
      obtain ⟨q, hq⟩ : ∃ q : Nt, q = p.1 := ⟨_, rfl⟩
      obtain ⟨nq, hnq⟩ : ∃ nq, nq = q.years.length := ⟨_, rfl⟩
      rw [← hq] at hx hpv
      rw [← hnq] at hpv
      have hcell : ∀ j, j < 6 → wo.cell? ⟨gn, k * 6 + j, none⟩ = (ntL q (.slice Ay nq cy))[j]? := fun j hj => by
        have e3 : w.cell? ⟨gn, k * 6 + j, none⟩ = (ntL q (.slice Ay nq cy))[j]? := by
          rw [HYO.out.cellAt (k * 6 + j) (by omega), hq, ← hpv]
          exact cellsN_at ys0 k p j hp hj
        rw [← e3]
        exact HS.out.bs.below.cell (p := ⟨gn, k * 6 + j, none⟩) (HYO.out.lt gn rfl).2
      have n0 : wo.cell? ⟨gn, k * 6, none⟩ = some (.int .i64 (q.kind : Int)) := hcell 0 (by omega)
      have n1 : wo.cell? ⟨gn, k * 6 + 1, none⟩ = some (.int .i64 (q.stone : Int)) := hcell 1 (by omega)
      have n2 : wo.cell? ⟨gn, k * 6 + 2, none⟩ = some (.int .i64 (q.other : Int)) := hcell 2 (by omega)
      have n3 : wo.cell? ⟨gn, k * 6 + 3, none⟩ = some (.slice Ay nq cy) := hcell 3 (by omega)
      have n4 : wo.cell? ⟨gn, k * 6 + 4, none⟩ = some (.int .i64 q.lo) := hcell 4 (by omega)
      have n5 : wo.cell? ⟨gn, k * 6 + 5, none⟩ = some (.int .i64 q.hi) := hcell 5 (by omega)
      obtain ⟨dq, hdq, hqo⟩ := HOK.out q (List.mem_of_getElem? hx)
      have HYQ := Lib.hid (fun (W : World) (hb : Below w.heap.size w W) => (show W.ownsRow B 3 1 (.slice Ay nq cy) nq (intCells q.years) by
        have h := own_fx (HYY.out p (List.mem_of_getElem? hp)) (Fx.of_below hb) (fun b _ hb _ => hb)
        rw [← hq, hpv] at h
        have h : W.ownsRow B 3 1 (.slice Ay nq cy) q.years.length (intCells q.years) := h
        rw [← hnq] at h
        exact h))
      have HX := Lib.hid hx
      have HNQ := Lib.hid hnq
      have HQO := Lib.hid hqo
      have hn33 : nq ≤ 3 := by
        rw [hnq]
        by_cases h1 : q.kind = 1
        · exact (hqo.years h1).2.2.2.2.1
        · rw [(hqo.span h1).1]; simp
      have HYB := Lib.hid (fun (y : Int) (hy : y ∈ q.years) => (show -3000 ≤ y ∧ y ≤ 3000 by
        by_cases h1 : q.kind = 1
        · exact (hqo.years h1).2.2.2.2.2.1 y hy
        · rw [(hqo.span h1).1] at hy; simp at hy))
      have hstep : l.take (k + 1) = l.take k ++ [q] := by rw [List.take_add_one, hx]; rfl
      have HTK := Lib.hid hstep
      clear hcell hp hx hpv hq hnq hyl hqo hstep
      have HNB0 := Lib.hid (Blok.new wo 51 [.int .i64 q.kind, .int .i64 q.stone, .int .i64 q.other, .slice Ay nq cy, .int .i64 q.lo, .int .i64 q.hi])
      have HBL0 := Lib.hid ((Below.refl wo.heap.size wo).alloc (Nat.le_refl _) (.cells #[.int .i64 q.kind, .int .i64 q.stone, .int .i64 q.other, .slice Ay nq cy, .int .i64 q.lo, .int .i64 q.hi] 51))
      by_cases hk3 : q.kind = 3
      · have hb3 : ((q.kind : Int) == 3) = true := by rw [hk3]; rfl
        go_wp2_with fail
        go_roundg (ga - 1)
        case measure => omega
        case rel =>
          refine ⟨k + 1, .slice Xn m xn, by go_num, by omega, ?_⟩
          rw [HTK.out, List.filter_append, List.filter_cons_of_neg (by simp [notEra, hk3]), List.filter_nil, List.append_nil]
          exact HS.out.alloc _
      · have hb3 : ((q.kind : Int) == 3) = false := by rw [beq_eq_false_iff_ne]; omega
        by_cases hk1 : q.kind = 1
        · have hb1 : ((q.kind : Int) != 1) = false := by rw [hk1]; rfl
          have HK1 := Lib.hid hk1
          clear hk1
          go_upto_region 9 with fail
          obtain ⟨w6, hw6⟩ : ∃ w6, w6 = wo.alloc (.cells #[.int .i64 q.kind, .int .i64 q.stone, .int .i64 q.other, .slice Ay nq cy, .int .i64 q.lo, .int .i64 q.hi] 51) := ⟨_, rfl⟩
          rw [← hw6] at HNB0 HBL0 ⊢
          have HLH := Lib.hid (show q.turned = ⟨q.kind, q.stone, q.other, (q.years.map (- ·)).reverse, q.lo, q.hi⟩ by unfold Nt.turned; rw [if_pos HK1.out, if_pos HK1.out])
          obtain ⟨lo, hlo⟩ : ∃ lo, lo = q.lo := ⟨_, rfl⟩
          obtain ⟨hi, hhi⟩ : ∃ hi, hi = q.hi := ⟨_, rfl⟩
          rw [← hlo, ← hhi] at HLH HNB0
          clear hw6 hlo hhi n0 n1 n2 n3 n4 n5 hb1 hb3 d2
          have z0 : w6.cell? ⟨wo.heap.size, 3, none⟩ = some (.slice Ay nq cy) := HNB0.out.cell 3
          have f3 := HNB0.out.free 3
          have HTI : Hid (TI wo q lo hi (rev q.years 0) (.slice none 0 0) (w6.setCell ⟨wo.heap.size, 3, none⟩ (.slice none 0 0))) := Lib.hid ⟨HBL0.out.setCell (p := ⟨wo.heap.size, 3, none⟩) (Nat.le_refl _) _, HNB0.out.put 3 _, by simpa [rev, intCells] using World.ownsRow_nil _ _ _ _⟩
          go_wp2_with fail
          clear z0 f3 HNB0 HBL0
          go_loopg [7] nq (fun r kk wr => ∃ (j : Nat) (vy : Value), kk = .int .i64 ((nq : Int) - 1 - (j : Int)) ∧ j + r = nq ∧ TI wo q lo hi (rev q.years j) vy wr)
          case atStart => exact ⟨0, _, by go_num, by omega, HTI.out⟩
          case round =>
            clear HTI
            obtain ⟨j, vy, rfl, hjr, hti⟩ := hrel
            have hrl : (rev q.years j).length = j := rev_len _ _ (by have := HNQ.out; omega)
            obtain ⟨Al, al, rfl⟩ := own_slice hti.yr
            rw [hrl] at hti
            have HTI := Lib.hid hti
            have HRL := Lib.hid hrl
            clear hti hrl
            by_cases hj : j < nq
            · obtain ⟨t, ht⟩ : ∃ t : Nat, (t : Int) = (nq : Int) - 1 - (j : Int) := ⟨nq - 1 - j, by omega⟩
              rw [← ht]
              have htn : t < nq := by omega
              have htj : t + j + 1 = nq := by omega
              obtain ⟨y, hy⟩ : ∃ y, q.years[t]? = some y := ⟨_, List.getElem?_eq_getElem (by have := HNQ.out; omega)⟩
              have hyb := HYB.out y (List.mem_of_getElem? hy)
              obtain ⟨yb1, yb2⟩ := hyb
              have q9 : IntKind.i64.wrap (-y) = -y := IntWalk.i64_in _ (by omega)
              have q8 : (t : Int) - 1 = (nq : Int) - 1 - ((j + 1 : Nat) : Int) := by omega
              obtain ⟨gy, rfl⟩ := own_addr (HYQ.out _ HS.out.bs.below) (by omega)
              have HCY := Lib.hid (fun (W : World) (hb : Below wo.heap.size wo W) => (show W.cell? ⟨gy, t, none⟩ = some (.int .i64 y) by
                rw [(HYQ.out W (HS.out.bs.below.trans (hb.mono hwl))).cellAt t (by omega)]
                simp [intCells, hy]))
              have HRS := Lib.hid (rev_succ (l := q.years) (j := j) (y := y) (by rw [← HNQ.out, show nq - 1 - j = t by omega]; exact hy) (by rw [← HNQ.out]; exact hj))
              clear hy ht
              go_wp2_with fail
              refine wp_region_v [(fun j => j == 1 || j == 5 || j == 6 || j == 7 || j == 8 || j == 9, fun W => W.cell? ⟨wo.heap.size, 3, none⟩ = some (.slice Al j al)), (fun j => j == 5 || j == 6 || j == 7 || j == 8 || j == 9, fun W => W.cell? ⟨gy, t, none⟩ = some (.int .i64 y))] (by kernel_rfl) ?_
              refine wpAnyV_world (fun W => TI wo q lo hi (rev q.years j) (.slice Al j al) W) HTI.out.drew (fun V hV => ?_)
              have HV := Lib.hid hV
              clear hV
              refine wpAnyV_free (i := 0) (v := ?_) (by simp only [List.getElem?_toArray, List.getElem?_cons_zero]; rfl) (by kernel_rfl) (by kernel_rfl) (by kernel_rfl) (by kernel_rfl) (by exact fun _ _ _ h => h) (Or.inl ⟨by rfl, ?hyd5012⟩) (behind_cons (fun h => by simp at h) (behind_cons (fun h => by simp at h) (fun p hp => by cases hp))) ?restd5012
              case hyd5012 => (intro W' _; go_simp; try with_reducible rfl)
              try simp only [Act.put, List.setIfInBounds_toArray, List.set_cons_zero, List.set_cons_succ]
              refine wpAnyV_free (i := 2) (v := ?_) (by simp only [List.getElem?_toArray, List.getElem?_cons_zero, List.getElem?_cons_succ]; rfl) (by kernel_rfl) (by kernel_rfl) (by kernel_rfl) (by kernel_rfl) (by exact fun _ _ _ h => h) (Or.inl ⟨by rfl, ?hyd5013⟩) (behind_cons (fun h => by simp at h) (behind_cons (fun h => by simp at h) (fun p hp => by cases hp))) ?restd5013
              case hyd5013 => (intro W' _; go_simp; try with_reducible rfl)
              try simp only [Act.put, List.setIfInBounds_toArray, List.set_cons_zero, List.set_cons_succ]
              refine wpAnyV_free (i := 3) (v := ?_) (by simp only [List.getElem?_toArray, List.getElem?_cons_zero, List.getElem?_cons_succ]; rfl) (by kernel_rfl) (by kernel_rfl) (by kernel_rfl) (by kernel_rfl) (by exact fun _ _ _ h => h) (Or.inl ⟨by rfl, ?hyd5014⟩) (behind_cons (fun h => by simp at h) (behind_cons (fun h => by simp at h) (fun p hp => by cases hp))) ?restd5014
              case hyd5014 => (intro W' _; go_simp; try with_reducible rfl)
              try simp only [Act.put, List.setIfInBounds_toArray, List.set_cons_zero, List.set_cons_succ]
              refine wpAnyV_free (i := 4) (v := ?_) (by simp only [List.getElem?_toArray, List.getElem?_cons_zero, List.getElem?_cons_succ]; rfl) (by kernel_rfl) (by kernel_rfl) (by kernel_rfl) (by kernel_rfl) (by exact fun _ _ _ h => h) (Or.inl ⟨by rfl, ?hyd5015⟩) (behind_cons (fun h => by simp at h) (behind_cons (fun h => by simp at h) (fun p hp => by cases hp))) ?restd5015
              case hyd5015 => (intro W' _; go_simp; try with_reducible rfl)
              try simp only [Act.put, List.setIfInBounds_toArray, List.set_cons_zero, List.set_cons_succ]
              refine wpAnyV_take (i := 1) (m := 0) (v := ?_) (by simp only [List.getElem?_toArray, List.getElem?_cons_zero, List.getElem?_cons_succ]; rfl) (by rfl) (by kernel_rfl) (by kernel_rfl) (by kernel_rfl) (by kernel_rfl) (by exact fun _ _ _ h => h) (Or.inl ⟨by rfl, ?hyd5016⟩) ((HV.out.nb.cell 3)) (behind_cons (fun _ => (HV.out.nb.cell 3)) (behind_cons (fun h => by simp at h) (fun p hp => by cases hp))) ?restd5016
              case hyd5016 => (intro W' hSW; go_simp; try with_reducible rfl)
              try simp only [Act.put, List.setIfInBounds_toArray, List.set_cons_zero, List.set_cons_succ]
              refine wpAnyV_take (i := 5) (m := 1) (v := ?_) (by simp only [List.getElem?_toArray, List.getElem?_cons_zero, List.getElem?_cons_succ]; rfl) (by rfl) (by kernel_rfl) (by kernel_rfl) (by kernel_rfl) (by kernel_rfl) (by exact fun _ _ _ h => h) (Or.inl ⟨by rfl, ?hyd5017⟩) ((HCY.out _ HV.out.below)) (behind_cons (fun _ => (HV.out.nb.cell 3)) (behind_cons (fun _ => (HCY.out _ HV.out.below)) (fun p hp => by cases hp))) ?restd5017
              case hyd5017 => (intro W' hSW; go_simp; try with_reducible rfl)
              try simp only [Act.put, List.setIfInBounds_toArray, List.set_cons_zero, List.set_cons_succ]
              refine wpAnyV_free (i := 6) (v := ?_) (by simp only [List.getElem?_toArray, List.getElem?_cons_zero, List.getElem?_cons_succ]; rfl) (by kernel_rfl) (by kernel_rfl) (by kernel_rfl) (by kernel_rfl) (by exact fun _ _ _ h => h) (Or.inl ⟨by rfl, ?hyd5018⟩) (behind_cons (fun _ => (HV.out.nb.cell 3)) (behind_cons (fun _ => (HCY.out _ HV.out.below)) (fun p hp => by cases hp))) ?restd5018
              case hyd5018 => (intro W' _; go_simp; try with_reducible rfl)
              try simp only [Act.put, List.setIfInBounds_toArray, List.set_cons_zero, List.set_cons_succ]
              refine wpAnyV_ready (rs := [7]) (by kernel_rfl) (by simp) ?_
              refine AllReadyV.cons (by simp only [List.getElem?_toArray, List.getElem?_cons_zero, List.getElem?_cons_succ]; rfl) (fun K hK => ?_) AllReadyV.nil
              go_simp
              have HC502 := Lib.hid (HV.out.alloc (.cells #[.int .i64 (-y)] 3))
              have HNB := Lib.hid (Blok.new V 3 [.int .i64 (-y)])
              refine hK.out _ _ (behind_cons (fun _ => (HC502.out.nb.cell 3)) (behind_cons (fun _ => (HCY.out _ HC502.out.below)) (fun p hp => by cases hp))) ?_
              clear hK K
              try simp only [Act.put, List.setIfInBounds_toArray, List.set_cons_zero, List.set_cons_succ]
              refine wpAnyV_ready (rs := [8]) (by kernel_rfl) (by simp) ?_
              refine AllReadyV.cons (by simp only [List.getElem?_toArray, List.getElem?_cons_zero, List.getElem?_cons_succ]; rfl) (fun K hK => ?_) AllReadyV.nil
              have hty := HC502.out.yr
              rw [HRL.out] at hty
              refine step_append_lies (V.alloc (.cells #[.int .i64 (-y)] 3)) (by rfl) _ _ 22 (by rfl) (wo.heap.size + 1) 3 kN _ 1 8 Try.underlying22 HI.out HI0.out HI1.out HI2.out rfl (by omega) (.slice Al j al) j (intCells (rev q.years j)) (by rfl) hty ⟨V.heap.size, 0, none⟩ 1 1 [.int .i64 (-y)] (by rfl) (by rfl) (World.news_of_block HNB.out) (by simp [Value.oneCell']) (by omega) (by unfold maxLen; omega) (by omega) (by have := HC502.out.nb.size; omega) _ rfl ?_
              intro g8 c8 w503 hown hgrow hat hlt8
              have HTA := Lib.hid (HC502.out.app (y := -y) (vy' := .slice (some ⟨g8, 0, none⟩) (j + 1) c8) hgrow (by rw [HRL.out]; exact hown))
              have HNA := Lib.hid (HC502.out.nb.grown hgrow (own_ne HC502.out.yr HC502.out.nb (by decide)))
              have HBA := Lib.hid (HC502.out.below.grown hgrow HC502.out.below.size (fun k hk => by have := (HC502.out.yr.lt k hk).1; omega))
              clear hown hgrow hat hlt8 hty
              try go_simp
              refine hK.out _ _ (behind_cons (fun _ => (HNA.out.cell 3)) (behind_cons (fun _ => (HCY.out _ HBA.out)) (fun p hp => by cases hp))) ?_
              clear hK K
              try simp only [Act.put, List.setIfInBounds_toArray, List.set_cons_zero, List.set_cons_succ]
              refine wpAnyV_free (i := 9) (v := ?_) (by simp only [List.getElem?_toArray, List.getElem?_cons_zero, List.getElem?_cons_succ]; rfl) (by kernel_rfl) (by kernel_rfl) (by kernel_rfl) (by kernel_rfl) (by exact fun _ _ _ h => h) (Or.inl ⟨by rfl, ?hyd50111⟩) (behind_cons (fun _ => (HNA.out.cell 3)) (behind_cons (fun _ => (HCY.out _ HBA.out)) (fun p hp => by cases hp))) ?restd50111
              case hyd50111 => (intro W' _; go_simp; try with_reducible rfl)
              try simp only [Act.put, List.setIfInBounds_toArray, List.set_cons_zero, List.set_cons_succ]
              refine wpAnyV_ready (rs := [10]) (by kernel_rfl) (by simp) ?_
              refine AllReadyV.cons (by simp only [List.getElem?_toArray, List.getElem?_cons_zero, List.getElem?_cons_succ]; rfl) (fun K hK => ?_) AllReadyV.nil
              have x0 : w503.cell? ⟨wo.heap.size, 3, none⟩ = some (.slice Al j al) := HNA.out.cell 3
              have y0 := HNA.out.free 3
              go_simp
              clear x0 y0
              refine hK.out _ _ (behind_cons (fun h => by simp at h) (behind_cons (fun h => by simp at h) (fun p hp => by cases hp))) ?_
              clear hK K
              try simp only [Act.put, List.setIfInBounds_toArray, List.set_cons_zero, List.set_cons_succ]
              refine wpAnyV_done (by kernel_rfl) ?_ _
              go_wp2_with fail
              go_roundg (gk - 1)
              case measure => omega
              case rel => exact ⟨j + 1, _, by rw [← q8]; go_num, by omega, by rw [HRS.out]; exact HTA.out⟩
            · obtain rfl : j = nq := by omega
              have c0 : wr.cell? ⟨wo.heap.size, 0, none⟩ = some (.int .i64 (q.kind : Int)) := HTI.out.nb.cell 0
              have c1 : wr.cell? ⟨wo.heap.size, 1, none⟩ = some (.int .i64 (q.stone : Int)) := HTI.out.nb.cell 1
              have c2 : wr.cell? ⟨wo.heap.size, 2, none⟩ = some (.int .i64 (q.other : Int)) := HTI.out.nb.cell 2
              have c3 : wr.cell? ⟨wo.heap.size, 3, none⟩ = some (.slice Al j al) := HTI.out.nb.cell 3
              have c4 : wr.cell? ⟨wo.heap.size, 4, none⟩ = some (.int .i64 lo) := HTI.out.nb.cell 4
              have c5 : wr.cell? ⟨wo.heap.size, 5, none⟩ = some (.int .i64 hi) := HTI.out.nb.cell 5
              have HSB := Lib.hid (HS.out.to HTI.out.below)
              have HOB := Lib.hid (own_fx HON.out (Fx.of_all HTI.out.below) (fun _ _ _ _ => trivial))
              have x2 : wr.cell? ⟨w.heap.size + 2, 2, none⟩ = some (.slice Xn m xn) := HSB.out.kx.cell 2
              have hbw := HTI.out.below.size
              have hyr2 : wr.ownsRow w.heap.size 3 1 (.slice Al j al) (q.turned.years).length (intCells q.turned.years) := by
                rw [HLH.out]
                show wr.ownsRow w.heap.size 3 1 (.slice Al j al) ((q.years.map (- ·)).reverse).length (intCells ((q.years.map (- ·)).reverse))
                rw [← rev_all, ← HNQ.out]
                have h := HTI.out.yr
                rw [HRL.out]
                rw [HRL.out] at h
                exact h.mono (by omega)
              have HYT := Lib.hid hyr2
              clear hyr2
              go_wp2_with (at_builtin; refine wpList_append_lies _ rfl _ _ 26 rfl w.heap.size 51 kI _ 6 64 Try.underlying26 HQ.out HQ0.out HQ1.out HQ2.out rfl (by decide) (.slice Xn m xn) m (cellsN xs) (by rfl) (HOB.out.alloc _) ⟨wr.heap.size, 0, none⟩ 1 1 [.int .i64 q.kind, .int .i64 q.stone, .int .i64 q.other, .slice Al j al, .int .i64 lo, .int .i64 hi] (by rfl) (by rfl) (World.news_of_block (cs := #[.int .i64 q.kind, .int .i64 q.stone, .int .i64 q.other, .slice Al j al, .int .i64 lo, .int .i64 hi]) (t := 51) (fr := (0, 0)) (heap_alloc_new wr _)) (by simp [Value.oneCell']) (by omega) (by unfold maxLen; omega) (by omega) (by simp; omega) _ rfl ?_; intro g8 c8 w8 hown8 hgrow8 hat8 hlt8; have hm8 := (HSB.out.alloc (.cells #[.int .i64 q.kind, .int .i64 q.stone, .int .i64 q.other, .slice Al j al, .int .i64 lo, .int .i64 hi] 51)).note (x := q.turned) (vy := .slice Al j al) HXS.out (by rw [← HMM.out]; exact HOB.out.alloc _) (fun p hp => (own_fx (HYR.out p hp) (Fx.of_all HTI.out.below) (fun _ _ _ _ => trivial)).alloc _) hgrow8 (by rw [← HMM.out]; have h := hown8; have e : ntL q.turned (.slice Al j al) = [.int .i64 q.kind, .int .i64 q.stone, .int .i64 q.other, .slice Al j al, .int .i64 lo, .int .i64 hi] := (by rw [HLH.out]; rfl); rw [e]; exact h) (HYT.out.alloc _); have u2 : w8.cell? ⟨w.heap.size + 2, 2, none⟩ = some (.slice Xn m xn) := hm8.kx.cell 2; have v2 := hm8.kx.free 2; have HM8 := Lib.hid hm8; clear hown8 hgrow8 hat8 hm8 hlt8)
              go_roundg (ga - 1)
              case measure => omega
              case rel =>
                refine ⟨k + 1, .slice (some ⟨g8, 0, none⟩) (m + 1) c8, by go_num, by omega, ?_⟩
                have h := HM8.out.put (.slice (some ⟨g8, 0, none⟩) (m + 1) c8)
                rw [HTK.out, List.filter_append, List.filter_cons_of_pos (by simp [notEra, hk3]), List.filter_nil, List.map_append]
                exact h
        · have hb1 : ((q.kind : Int) != 1) = true := by rw [bne_iff_ne]; omega
          have hsp := (HQO.out.span hk1).2
          have l1 := hsp.1
          have l2 := hsp.2.1
          have l3 := hsp.2.2
          clear hsp
          have q1 : IntKind.i64.wrap (- q.hi) = - q.hi := IntWalk.i64_in _ (by omega)
          have q2 : IntKind.i64.wrap (- q.lo) = - q.lo := IntWalk.i64_in _ (by omega)
          go_upto_region 9 with (go_at_call 23; (with_reducible refine (to_any (- q.hi) (- q.lo) _).mono ?_); rintro e w5 ⟨rfl, hb⟩; have HNB5 := Lib.hid (HNB0.out.below hb HNB0.out.size); have HBL5 := Lib.hid (HBL0.out.trans (hb.mono HBL0.out.size)); clear hb; have z4 : w5.cell? ⟨wo.heap.size, 4, none⟩ = some (.int .i64 q.lo) := HNB5.out.cell 4; have z5 : w5.cell? ⟨wo.heap.size, 5, none⟩ = some (.int .i64 q.hi) := HNB5.out.cell 5; have f4 := HNB5.out.free 4; have f5 := HNB5.out.free 5)
          obtain ⟨w6, hw6⟩ : ∃ w6, w6 = (w5.setCell ⟨wo.heap.size, 4, none⟩ (.int .i64 (- q.hi))).setCell ⟨wo.heap.size, 5, none⟩ (.int .i64 (- q.lo)) := ⟨_, rfl⟩
          have HNB6 : Hid (Blok w6 wo.heap.size 51 [.int .i64 q.kind, .int .i64 q.stone, .int .i64 q.other, .slice Ay nq cy, .int .i64 (- q.hi), .int .i64 (- q.lo)]) := Lib.hid (by rw [hw6]; exact (HNB5.out.put 4 _).put 5 _)
          have HBL6 : Hid (Below wo.heap.size wo w6) := Lib.hid (by rw [hw6]; exact (HBL5.out.setCell (p := ⟨wo.heap.size, 4, none⟩) (Nat.le_refl _) _).setCell (p := ⟨wo.heap.size, 5, none⟩) (Nat.le_refl _) _)
          rw [← hw6]
          have HLH := Lib.hid (show q.turned = ⟨q.kind, q.stone, q.other, (q.years.map (- ·)).reverse, - q.hi, - q.lo⟩ by unfold Nt.turned; rw [if_neg hk1, if_neg hk1])
          obtain ⟨lo, hlo⟩ : ∃ lo, lo = - q.hi := ⟨_, rfl⟩
          obtain ⟨hi, hhi⟩ : ∃ hi, hi = - q.lo := ⟨_, rfl⟩
          rw [← hlo, ← hhi] at HLH HNB6
          clear hw6 q1 q2 hlo hhi n0 n1 n2 n3 n4 n5 hb1 hb3 d2 z4 z5 f4 f5 HNB0 HBL0 HNB5 HBL5 l1 l2 l3
          have HNB0 := HNB6
          have HBL0 := HBL6
          clear HNB6 HBL6
          have z0 : w6.cell? ⟨wo.heap.size, 3, none⟩ = some (.slice Ay nq cy) := HNB0.out.cell 3
          have f3 := HNB0.out.free 3
          have HTI : Hid (TI wo q lo hi (rev q.years 0) (.slice none 0 0) (w6.setCell ⟨wo.heap.size, 3, none⟩ (.slice none 0 0))) := Lib.hid ⟨HBL0.out.setCell (p := ⟨wo.heap.size, 3, none⟩) (Nat.le_refl _) _, HNB0.out.put 3 _, by simpa [rev, intCells] using World.ownsRow_nil _ _ _ _⟩
          go_wp2_with fail
          clear z0 f3 HNB0 HBL0
          go_loopg [7] nq (fun r kk wr => ∃ (j : Nat) (vy : Value), kk = .int .i64 ((nq : Int) - 1 - (j : Int)) ∧ j + r = nq ∧ TI wo q lo hi (rev q.years j) vy wr)
          case atStart => exact ⟨0, _, by go_num, by omega, HTI.out⟩
          case round =>
            clear HTI
            obtain ⟨j, vy, rfl, hjr, hti⟩ := hrel
            have hrl : (rev q.years j).length = j := rev_len _ _ (by have := HNQ.out; omega)
            obtain ⟨Al, al, rfl⟩ := own_slice hti.yr
            rw [hrl] at hti
            have HTI := Lib.hid hti
            have HRL := Lib.hid hrl
            clear hti hrl
            by_cases hj : j < nq
            · obtain ⟨t, ht⟩ : ∃ t : Nat, (t : Int) = (nq : Int) - 1 - (j : Int) := ⟨nq - 1 - j, by omega⟩
              rw [← ht]
              have htn : t < nq := by omega
              have htj : t + j + 1 = nq := by omega
              obtain ⟨y, hy⟩ : ∃ y, q.years[t]? = some y := ⟨_, List.getElem?_eq_getElem (by have := HNQ.out; omega)⟩
              have hyb := HYB.out y (List.mem_of_getElem? hy)
              obtain ⟨yb1, yb2⟩ := hyb
              have q9 : IntKind.i64.wrap (-y) = -y := IntWalk.i64_in _ (by omega)
              have q8 : (t : Int) - 1 = (nq : Int) - 1 - ((j + 1 : Nat) : Int) := by omega
              obtain ⟨gy, rfl⟩ := own_addr (HYQ.out _ HS.out.bs.below) (by omega)
              have HCY := Lib.hid (fun (W : World) (hb : Below wo.heap.size wo W) => (show W.cell? ⟨gy, t, none⟩ = some (.int .i64 y) by
                rw [(HYQ.out W (HS.out.bs.below.trans (hb.mono hwl))).cellAt t (by omega)]
                simp [intCells, hy]))
              have HRS := Lib.hid (rev_succ (l := q.years) (j := j) (y := y) (by rw [← HNQ.out, show nq - 1 - j = t by omega]; exact hy) (by rw [← HNQ.out]; exact hj))
              clear hy ht
              go_wp2_with fail
              refine wp_region_v [(fun j => j == 1 || j == 5 || j == 6 || j == 7 || j == 8 || j == 9, fun W => W.cell? ⟨wo.heap.size, 3, none⟩ = some (.slice Al j al)), (fun j => j == 5 || j == 6 || j == 7 || j == 8 || j == 9, fun W => W.cell? ⟨gy, t, none⟩ = some (.int .i64 y))] (by kernel_rfl) ?_
              refine wpAnyV_world (fun W => TI wo q lo hi (rev q.years j) (.slice Al j al) W) HTI.out.drew (fun V hV => ?_)
              have HV := Lib.hid hV
              clear hV
              refine wpAnyV_free (i := 0) (v := ?_) (by simp only [List.getElem?_toArray, List.getElem?_cons_zero]; rfl) (by kernel_rfl) (by kernel_rfl) (by kernel_rfl) (by kernel_rfl) (by exact fun _ _ _ h => h) (Or.inl ⟨by rfl, ?hyd5042⟩) (behind_cons (fun h => by simp at h) (behind_cons (fun h => by simp at h) (fun p hp => by cases hp))) ?restd5042
              case hyd5042 => (intro W' _; go_simp; try with_reducible rfl)
              try simp only [Act.put, List.setIfInBounds_toArray, List.set_cons_zero, List.set_cons_succ]
              refine wpAnyV_free (i := 2) (v := ?_) (by simp only [List.getElem?_toArray, List.getElem?_cons_zero, List.getElem?_cons_succ]; rfl) (by kernel_rfl) (by kernel_rfl) (by kernel_rfl) (by kernel_rfl) (by exact fun _ _ _ h => h) (Or.inl ⟨by rfl, ?hyd5043⟩) (behind_cons (fun h => by simp at h) (behind_cons (fun h => by simp at h) (fun p hp => by cases hp))) ?restd5043
              case hyd5043 => (intro W' _; go_simp; try with_reducible rfl)
              try simp only [Act.put, List.setIfInBounds_toArray, List.set_cons_zero, List.set_cons_succ]
              refine wpAnyV_free (i := 3) (v := ?_) (by simp only [List.getElem?_toArray, List.getElem?_cons_zero, List.getElem?_cons_succ]; rfl) (by kernel_rfl) (by kernel_rfl) (by kernel_rfl) (by kernel_rfl) (by exact fun _ _ _ h => h) (Or.inl ⟨by rfl, ?hyd5044⟩) (behind_cons (fun h => by simp at h) (behind_cons (fun h => by simp at h) (fun p hp => by cases hp))) ?restd5044
              case hyd5044 => (intro W' _; go_simp; try with_reducible rfl)
              try simp only [Act.put, List.setIfInBounds_toArray, List.set_cons_zero, List.set_cons_succ]
              refine wpAnyV_free (i := 4) (v := ?_) (by simp only [List.getElem?_toArray, List.getElem?_cons_zero, List.getElem?_cons_succ]; rfl) (by kernel_rfl) (by kernel_rfl) (by kernel_rfl) (by kernel_rfl) (by exact fun _ _ _ h => h) (Or.inl ⟨by rfl, ?hyd5045⟩) (behind_cons (fun h => by simp at h) (behind_cons (fun h => by simp at h) (fun p hp => by cases hp))) ?restd5045
              case hyd5045 => (intro W' _; go_simp; try with_reducible rfl)
              try simp only [Act.put, List.setIfInBounds_toArray, List.set_cons_zero, List.set_cons_succ]
              refine wpAnyV_take (i := 1) (m := 0) (v := ?_) (by simp only [List.getElem?_toArray, List.getElem?_cons_zero, List.getElem?_cons_succ]; rfl) (by rfl) (by kernel_rfl) (by kernel_rfl) (by kernel_rfl) (by kernel_rfl) (by exact fun _ _ _ h => h) (Or.inl ⟨by rfl, ?hyd5046⟩) ((HV.out.nb.cell 3)) (behind_cons (fun _ => (HV.out.nb.cell 3)) (behind_cons (fun h => by simp at h) (fun p hp => by cases hp))) ?restd5046
              case hyd5046 => (intro W' hSW; go_simp; try with_reducible rfl)
              try simp only [Act.put, List.setIfInBounds_toArray, List.set_cons_zero, List.set_cons_succ]
              refine wpAnyV_take (i := 5) (m := 1) (v := ?_) (by simp only [List.getElem?_toArray, List.getElem?_cons_zero, List.getElem?_cons_succ]; rfl) (by rfl) (by kernel_rfl) (by kernel_rfl) (by kernel_rfl) (by kernel_rfl) (by exact fun _ _ _ h => h) (Or.inl ⟨by rfl, ?hyd5047⟩) ((HCY.out _ HV.out.below)) (behind_cons (fun _ => (HV.out.nb.cell 3)) (behind_cons (fun _ => (HCY.out _ HV.out.below)) (fun p hp => by cases hp))) ?restd5047
              case hyd5047 => (intro W' hSW; go_simp; try with_reducible rfl)
              try simp only [Act.put, List.setIfInBounds_toArray, List.set_cons_zero, List.set_cons_succ]
              refine wpAnyV_free (i := 6) (v := ?_) (by simp only [List.getElem?_toArray, List.getElem?_cons_zero, List.getElem?_cons_succ]; rfl) (by kernel_rfl) (by kernel_rfl) (by kernel_rfl) (by kernel_rfl) (by exact fun _ _ _ h => h) (Or.inl ⟨by rfl, ?hyd5048⟩) (behind_cons (fun _ => (HV.out.nb.cell 3)) (behind_cons (fun _ => (HCY.out _ HV.out.below)) (fun p hp => by cases hp))) ?restd5048
              case hyd5048 => (intro W' _; go_simp; try with_reducible rfl)
              try simp only [Act.put, List.setIfInBounds_toArray, List.set_cons_zero, List.set_cons_succ]
              refine wpAnyV_ready (rs := [7]) (by kernel_rfl) (by simp) ?_
              refine AllReadyV.cons (by simp only [List.getElem?_toArray, List.getElem?_cons_zero, List.getElem?_cons_succ]; rfl) (fun K hK => ?_) AllReadyV.nil
              go_simp
              have HC505 := Lib.hid (HV.out.alloc (.cells #[.int .i64 (-y)] 3))
              have HNB := Lib.hid (Blok.new V 3 [.int .i64 (-y)])
              refine hK.out _ _ (behind_cons (fun _ => (HC505.out.nb.cell 3)) (behind_cons (fun _ => (HCY.out _ HC505.out.below)) (fun p hp => by cases hp))) ?_
              clear hK K
              try simp only [Act.put, List.setIfInBounds_toArray, List.set_cons_zero, List.set_cons_succ]
              refine wpAnyV_ready (rs := [8]) (by kernel_rfl) (by simp) ?_
              refine AllReadyV.cons (by simp only [List.getElem?_toArray, List.getElem?_cons_zero, List.getElem?_cons_succ]; rfl) (fun K hK => ?_) AllReadyV.nil
              have hty := HC505.out.yr
              rw [HRL.out] at hty
              refine step_append_lies (V.alloc (.cells #[.int .i64 (-y)] 3)) (by rfl) _ _ 22 (by rfl) (wo.heap.size + 1) 3 kN _ 1 8 Try.underlying22 HI.out HI0.out HI1.out HI2.out rfl (by omega) (.slice Al j al) j (intCells (rev q.years j)) (by rfl) hty ⟨V.heap.size, 0, none⟩ 1 1 [.int .i64 (-y)] (by rfl) (by rfl) (World.news_of_block HNB.out) (by simp [Value.oneCell']) (by omega) (by unfold maxLen; omega) (by omega) (by have := HC505.out.nb.size; omega) _ rfl ?_
              intro g8 c8 w506 hown hgrow hat hlt8
              have HTA := Lib.hid (HC505.out.app (y := -y) (vy' := .slice (some ⟨g8, 0, none⟩) (j + 1) c8) hgrow (by rw [HRL.out]; exact hown))
              have HNA := Lib.hid (HC505.out.nb.grown hgrow (own_ne HC505.out.yr HC505.out.nb (by decide)))
              have HBA := Lib.hid (HC505.out.below.grown hgrow HC505.out.below.size (fun k hk => by have := (HC505.out.yr.lt k hk).1; omega))
              clear hown hgrow hat hlt8 hty
              try go_simp
              refine hK.out _ _ (behind_cons (fun _ => (HNA.out.cell 3)) (behind_cons (fun _ => (HCY.out _ HBA.out)) (fun p hp => by cases hp))) ?_
              clear hK K
              try simp only [Act.put, List.setIfInBounds_toArray, List.set_cons_zero, List.set_cons_succ]
              refine wpAnyV_free (i := 9) (v := ?_) (by simp only [List.getElem?_toArray, List.getElem?_cons_zero, List.getElem?_cons_succ]; rfl) (by kernel_rfl) (by kernel_rfl) (by kernel_rfl) (by kernel_rfl) (by exact fun _ _ _ h => h) (Or.inl ⟨by rfl, ?hyd50411⟩) (behind_cons (fun _ => (HNA.out.cell 3)) (behind_cons (fun _ => (HCY.out _ HBA.out)) (fun p hp => by cases hp))) ?restd50411
              case hyd50411 => (intro W' _; go_simp; try with_reducible rfl)
              try simp only [Act.put, List.setIfInBounds_toArray, List.set_cons_zero, List.set_cons_succ]
              refine wpAnyV_ready (rs := [10]) (by kernel_rfl) (by simp) ?_
              refine AllReadyV.cons (by simp only [List.getElem?_toArray, List.getElem?_cons_zero, List.getElem?_cons_succ]; rfl) (fun K hK => ?_) AllReadyV.nil
              have x0 : w506.cell? ⟨wo.heap.size, 3, none⟩ = some (.slice Al j al) := HNA.out.cell 3
              have y0 := HNA.out.free 3
              go_simp
              clear x0 y0
              refine hK.out _ _ (behind_cons (fun h => by simp at h) (behind_cons (fun h => by simp at h) (fun p hp => by cases hp))) ?_
              clear hK K
              try simp only [Act.put, List.setIfInBounds_toArray, List.set_cons_zero, List.set_cons_succ]
              refine wpAnyV_done (by kernel_rfl) ?_ _
              go_wp2_with fail
              go_roundg (gk - 1)
              case measure => omega
              case rel => exact ⟨j + 1, _, by rw [← q8]; go_num, by omega, by rw [HRS.out]; exact HTA.out⟩
            · obtain rfl : j = nq := by omega
              have c0 : wr.cell? ⟨wo.heap.size, 0, none⟩ = some (.int .i64 (q.kind : Int)) := HTI.out.nb.cell 0
              have c1 : wr.cell? ⟨wo.heap.size, 1, none⟩ = some (.int .i64 (q.stone : Int)) := HTI.out.nb.cell 1
              have c2 : wr.cell? ⟨wo.heap.size, 2, none⟩ = some (.int .i64 (q.other : Int)) := HTI.out.nb.cell 2
              have c3 : wr.cell? ⟨wo.heap.size, 3, none⟩ = some (.slice Al j al) := HTI.out.nb.cell 3
              have c4 : wr.cell? ⟨wo.heap.size, 4, none⟩ = some (.int .i64 lo) := HTI.out.nb.cell 4
              have c5 : wr.cell? ⟨wo.heap.size, 5, none⟩ = some (.int .i64 hi) := HTI.out.nb.cell 5
              have HSB := Lib.hid (HS.out.to HTI.out.below)
              have HOB := Lib.hid (own_fx HON.out (Fx.of_all HTI.out.below) (fun _ _ _ _ => trivial))
              have x2 : wr.cell? ⟨w.heap.size + 2, 2, none⟩ = some (.slice Xn m xn) := HSB.out.kx.cell 2
              have hbw := HTI.out.below.size
              have hyr2 : wr.ownsRow w.heap.size 3 1 (.slice Al j al) (q.turned.years).length (intCells q.turned.years) := by
                rw [HLH.out]
                show wr.ownsRow w.heap.size 3 1 (.slice Al j al) ((q.years.map (- ·)).reverse).length (intCells ((q.years.map (- ·)).reverse))
                rw [← rev_all, ← HNQ.out]
                have h := HTI.out.yr
                rw [HRL.out]
                rw [HRL.out] at h
                exact h.mono (by omega)
              have HYT := Lib.hid hyr2
              clear hyr2
              go_wp2_with (at_builtin; refine wpList_append_lies _ rfl _ _ 26 rfl w.heap.size 51 kI _ 6 64 Try.underlying26 HQ.out HQ0.out HQ1.out HQ2.out rfl (by decide) (.slice Xn m xn) m (cellsN xs) (by rfl) (HOB.out.alloc _) ⟨wr.heap.size, 0, none⟩ 1 1 [.int .i64 q.kind, .int .i64 q.stone, .int .i64 q.other, .slice Al j al, .int .i64 lo, .int .i64 hi] (by rfl) (by rfl) (World.news_of_block (cs := #[.int .i64 q.kind, .int .i64 q.stone, .int .i64 q.other, .slice Al j al, .int .i64 lo, .int .i64 hi]) (t := 51) (fr := (0, 0)) (heap_alloc_new wr _)) (by simp [Value.oneCell']) (by omega) (by unfold maxLen; omega) (by omega) (by simp; omega) _ rfl ?_; intro g8 c8 w8 hown8 hgrow8 hat8 hlt8; have hm8 := (HSB.out.alloc (.cells #[.int .i64 q.kind, .int .i64 q.stone, .int .i64 q.other, .slice Al j al, .int .i64 lo, .int .i64 hi] 51)).note (x := q.turned) (vy := .slice Al j al) HXS.out (by rw [← HMM.out]; exact HOB.out.alloc _) (fun p hp => (own_fx (HYR.out p hp) (Fx.of_all HTI.out.below) (fun _ _ _ _ => trivial)).alloc _) hgrow8 (by rw [← HMM.out]; have h := hown8; have e : ntL q.turned (.slice Al j al) = [.int .i64 q.kind, .int .i64 q.stone, .int .i64 q.other, .slice Al j al, .int .i64 lo, .int .i64 hi] := (by rw [HLH.out]; rfl); rw [e]; exact h) (HYT.out.alloc _); have u2 : w8.cell? ⟨w.heap.size + 2, 2, none⟩ = some (.slice Xn m xn) := hm8.kx.cell 2; have v2 := hm8.kx.free 2; have HM8 := Lib.hid hm8; clear hown8 hgrow8 hat8 hm8 hlt8)
              go_roundg (ga - 1)
              case measure => omega
              case rel =>
                refine ⟨k + 1, .slice (some ⟨g8, 0, none⟩) (m + 1) c8, by go_num, by omega, ?_⟩
                have h := HM8.out.put (.slice (some ⟨g8, 0, none⟩) (m + 1) c8)
                rw [HTK.out, List.filter_append, List.filter_cons_of_pos (by simp [notEra, hk3]), List.filter_nil, List.map_append]
                exact h
    · obtain rfl : k = l.length := by omega
      have e0 := HS.out.kx.cell 0
      have e1 := HS.out.kx.cell 1
      simp at e0 e1
      have r0 : wo.cell? ⟨w.heap.size + 1, 0, none⟩ = some (.int .i64 0) := HS.out.bs.k1.cell 0
      have r1 : wo.cell? ⟨w.heap.size + 1, 1, none⟩ = some (.slice none 0 0) := HS.out.bs.k1.cell 1
      have r2 : wo.cell? ⟨w.heap.size + 1, 2, none⟩ = some (.slice none 0 0) := HS.out.bs.k1.cell 2
      have g0 := HS.out.bs.k1.free 0
      have g1 := HS.out.bs.k1.free 1
      have g2 := HS.out.bs.k1.free 2
      go_wp2_with fail
      have hC := HS.out
      have hxs := HXS.out
      have hon := HON.out
      have hyr := HYR.out
      rw [List.take_length] at hxs
      refine bodyPost_ret (v := .agg #[.int .i64 st, .slice none 0 0, .slice Xn m xn]) ?_ rfl ⟨_, rfl, ⟨_, _, rfl, World.ownsRow_nil _ _ _ _, xs, hxs, ?_, fun p hp => ?_⟩, ((hC.bs.below.setCell (p := ⟨w.heap.size + 1, 0, none⟩) (Nat.le_succ _) _).setCell (p := ⟨w.heap.size + 1, 1, none⟩) (Nat.le_succ _) _).setCell (p := ⟨w.heap.size + 1, 2, none⟩) (Nat.le_succ _) _⟩
      · exact results_cell_row Try.results27 _ _ (w.heap.size + 1) 28 _ (0, 0) _ rfl (((hC.bs.k1.put 0 (.int .i64 st)).put 1 (.slice none 0 0)).put 2 (.slice Xn m xn)) Try.underlying28 rfl (by kernel_rfl)
      · have h := own_far (own_far (own_far hon (p := ⟨w.heap.size + 1, 0, none⟩) (own_ne hon hC.bs.k1 (by decide)) (.int .i64 st)) (p := ⟨w.heap.size + 1, 1, none⟩) (own_ne hon hC.bs.k1 (by decide)) (.slice none 0 0)) (p := ⟨w.heap.size + 1, 2, none⟩) (own_ne hon hC.bs.k1 (by decide)) (.slice Xn m xn)
        have hl := HMM.out
        rw [List.take_length] at hl
        rw [← hl]
        exact h
      · have hy := hyr p hp
        exact own_far (own_far (own_far hy (own_ne hy hC.bs.k1 (by decide)) _) (own_ne hy hC.bs.k1 (by decide)) _) (own_ne hy hC.bs.k1 (by decide)) _
end Go.Proofs.Ytcbdcdpoackplaa
