/- DateShifted, walked. -/
import Derived.Test.YtcbdcdpoackplaaJg
namespace Go.Proofs.Ytcbdcdpoackplaa
open Go.RowKit Dt

namespace Dt
theorem is_in {d : Dat} (h : d.Ok) {x : Nat → Int} (hx : d.Is x) : ∀ p, p < 10 → -3000 ≤ x p ∧ x p ≤ 3000 := fun p hp => by
  have hb := hx.base p hp
  unfold Dat.base at hb
  by_cases p0 : p = 0
  · rw [if_pos p0] at hb
    simp only at hb
    omega
  · rw [if_neg p0] at hb
    split at hb
    · exact hb
    · rw [List.getD_eq_getElem?_getD] at hb
      cases hg : d.eras[p - 7]? with
      | none => rw [hg] at hb; simpa using hb
      | some s =>
        rw [hg] at hb
        have hs := h.eras.2 s (List.mem_of_getElem? hg)
        unfold SpanOk at hs
        simp only [Option.getD_some] at hb
        omega
theorem span_in {d : Dat} (h : d.Ok) (hm : d.may) {p : Nat} (hp : p < 10) : -3000 ≤ (d.span p).1 ∧ (d.span p).1 ≤ (d.span p).2 ∧ (d.span p).2 ≤ 3000 := by
  obtain ⟨⟨a, ha, h1⟩, ⟨b, hb, h2⟩, h3⟩ := span_spec h hm p hp
  have k1 := is_in h ha p hp
  have k2 := is_in h hb p hp
  have k3 := h3 a ha
  omega
theorem made_bound {smax nmax : Nat} {d : Dat} {ys fs : List Int} (h : Made smax nmax d ys fs) : d.bound.may := by
  have h6 := h.ok.stones
  refine ⟨_, bound_is h.is fun p hp1 hp2 => ?_⟩
  obtain ⟨y, hy⟩ : ∃ y, ys[p - 1]? = some y := ⟨_, List.getElem?_eq_getElem (by have := h.ny; omega)⟩
  have hx := xOf_stone ys fs (p - 1) y (by omega) hy
  rw [show 1 + (p - 1) = p by omega] at hx
  have := h.years y (List.mem_of_getElem? hy)
  omega
end Dt
theorem shift_rel {d x : Dat} {b : Int} (hd : d.Ok) (hm : d.may) (h : Later d x b) (b1 : -500 ≤ b) (b2 : b ≤ 500) (i : Nat) (p : Int × Int) (hp : (spanList d 1 d.stones)[i]? = some p) : (spanList x 1 d.stones)[i]? = some (p.1 + b, p.2 + b) ∧ -3000 ≤ p.1 ∧ p.1 ≤ p.2 ∧ p.2 ≤ 3000 ∧ -500 ≤ b ∧ b ≤ 500 := by
  have hi : i < d.stones := by have := (List.getElem?_eq_some_iff.1 hp).1; simpa [spanList] using this
  have h6 := hd.stones
  have e : p = d.span (1 + i) := by simp [spanList, hi] at hp; exact hp.symm
  subst e
  have hs := span_in hd hm (p := 1 + i) (by omega)
  refine ⟨?_, hs.1, hs.2.1, hs.2.2, b1, b2⟩
  simp [spanList, hi]
  exact h.span i hi
theorem turn_rel {y d : Dat} (h : Round y d) (i : Nat) (p : Int × Int) (hp : (spanList d 1 y.stones)[i]? = some p) : (spanList y 1 y.stones)[i]? = some (-p.2, -p.1) ∧ -3000 ≤ p.1 ∧ p.1 ≤ p.2 ∧ p.2 ≤ 3000 ∧ -500 ≤ (0 : Int) ∧ (0 : Int) ≤ 500 := by
  have hi : i < y.stones := by have := (List.getElem?_eq_some_iff.1 hp).1; simpa [spanList] using this
  have h6 := h.oky.stones
  have e : p = d.span (1 + i) := by simp [spanList, hi] at hp; exact hp.symm
  subst e
  have hs := span_in h.ok h.may (p := 1 + i) (by omega)
  refine ⟨?_, hs.1, hs.2.1, hs.2.2, by omega, by omega⟩
  simp [spanList, hi]
  exact h.span i hi
set_option maxRecDepth 100000 in
set_option maxHeartbeats 8000000 in
theorem shifted_walk (a0 : Option Addr) (len cap : Nat) (w : World) (hr : NumRow w a0 len) :
    Calls Try.prog 5 #[.slice a0 len cap] w fun e w' => e = .returned (.bool true) ∧ Below w.heap.size w w' := by
  obtain ⟨kI, hi, hz0, hz1, hz2⟩ := info_parts info_napi
  have HQ := Lib.hid hi
  have HQ0 := Lib.hid hz0
  have HQ1 := Lib.hid hz1
  have HQ2 := Lib.hid hz2
  clear hi hz0 hz1 hz2
  go_enter Try.func5, Try.ntmps5
  go_wp2_with fail
  refine (newUrn_any a0 len cap _ hr).mono ?_
  rintro e w0 ⟨rfl, hu1, hb1⟩
  have HU0 := Lib.hid hu1
  have HB0 := Lib.hid hb1
  have hg0 := hu1.size
  clear hu1 hb1 hr
  go_wp2_with fail
  obtain ⟨w1, rfl⟩ : ∃ w1 : World, w1 = w0 := ⟨_, rfl⟩
  have HU1 := HU0
  have HB1 := HB0
  clear HU0 HB0
  refine (datingOf_any w.heap.size 4 5 12 w1 (by omega) (by omega) (by omega) (by omega) (by omega) HU1.out).mono ?_
  rintro e w2 ⟨d, ys, fs, vd, vy, vf, rfl, hm, hD, hY, hF, hu2, hk2⟩
  obtain ⟨Ae, ce, An, cn, rfl⟩ := hD.slices
  obtain ⟨Ay, cy, rfl⟩ := own_slice hY
  obtain ⟨Af, cf, rfl⟩ := own_slice hF
  have hst := hm.ok.stones
  obtain ⟨gy, rfl⟩ := own_addr hY (by have := hm.ny; omega)
  have HG := Lib.hid (LG.of (LC.start (smax := 0) HB1.out (Nat.le_refl _) hD hY hF hu2 hk2 rfl))
  have HM := Lib.hid hm
  have hn7 := hm.notes
  have he2 := hm.eras
  have hs6 := hm.stones
  have HNY := Lib.hid hm.ny
  have HNF := Lib.hid hm.nf
  have hyes := (may_iff hm.ok).1 ⟨_, hm.is⟩
  have HYES := Lib.hid hyes
  have HD := Lib.hid hm.ok
  have hlen : ∀ (d : Dat) (p n : Nat), (spanList d p n).length = n := fun d p n => by simp [spanList]
  have HLEN := Lib.hid hlen
  clear hD hY hF hu2 hk2 hm HU1 HB1 hyes hlen
  go_wp2_with fail
  refine (bound_any d HD.out w.heap.size _ _ HG.out.below.size HG.out.lc.dat).mono ?_
  rintro e w3 ⟨v3, rfl, hX, hb⟩
  obtain ⟨Ax, cx, Bn, bn, rfl⟩ := hX.slices
  have hls0 : LS w w.heap.size [⟨w2.heap.size, 28, [.int .i64 d.stones, .slice Ae d.eras.length ce, .slice An d.notes.length cn]⟩] [] w3 :=
    ⟨(HG.out.lc.to hb).urn, (HG.out.lc.to hb).hg, (HG.out.lc.to hb).below, fun p hp => by rw [List.mem_singleton.1 hp]; exact ⟨(by show (28 : TypeId) ≠ _; decide), (HG.out.lc.to hb).zd, (HG.out.lc.to hb).kd⟩, by simp⟩
  have hwee : Wee d := ⟨HM.out.small, HM.out.smallE⟩
  have hlat : ∀ b, -500 ≤ b → b ≤ 500 → Later d.bound (d.bound.moved b) b := fun b b1 b2 => later_mk HD.out hwee (made_bound HM.out) b1 b2
  have hmay1 := made_bound HM.out
  have hok1 := bound_ok HD.out
  have hwee1 := bound_wee hwee
  have hst1 : d.bound.stones = d.stones := rfl
  obtain ⟨d1, hd1⟩ : ∃ d1, d1 = d.bound := ⟨_, rfl⟩
  rw [← hd1] at hX hlat hmay1 hok1 hwee1 hst1 ⊢
  have HLAT := Lib.hid hlat
  have HMAY1 := Lib.hid hmay1
  have HOK1 := Lib.hid hok1
  have HWEE1 := Lib.hid hwee1
  have HYES1 := Lib.hid ((may_iff hok1).1 hmay1)
  have HS3 : Hid (LS w w.heap.size [⟨w2.heap.size, 28, [.int .i64 d.stones, .slice Ae d.eras.length ce, .slice An d.notes.length cn]⟩] [(.agg #[.int .i64 d1.stones, .slice Ax d1.eras.length cx, .slice Bn d1.notes.length bn], d1)] w3) := Lib.hid (hls0.addD (.agg #[.int .i64 d1.stones, .slice Ax d1.eras.length cx, .slice Bn d1.notes.length bn], d1) hX)
  have h68 := hok1.stones
  clear hst1 hls0 hX hb hlat hmay1 hok1 hwee1 hwee hd1 HG HYES HD
  have a0 := (HS3.out.blok 0 rfl).cell 0
  have a1 := (HS3.out.blok 0 rfl).cell 1
  have a2 := (HS3.out.blok 0 rfl).cell 2
  simp at a0 a1 a2
  have f0 := (HS3.out.blok 0 rfl).free 0
  have f1 := (HS3.out.blok 0 rfl).free 1
  have f2 := (HS3.out.blok 0 rfl).free 2
  go_wp2_with fail
  clear a0 a1 a2 f0 f1 f2
  obtain ⟨w4, hw4⟩ : ∃ w4, w4 = ((w3.setCell ⟨w2.heap.size, 0, none⟩ (.int .i64 d1.stones)).setCell ⟨w2.heap.size, 1, none⟩ (.slice Ax d1.eras.length cx)).setCell ⟨w2.heap.size, 2, none⟩ (.slice Bn d1.notes.length bn) := ⟨_, rfl⟩
  rw [← hw4]
  have HS4 : Hid (LS w w.heap.size [⟨w2.heap.size, 28, [.int .i64 d1.stones, .slice Ax d1.eras.length cx, .slice Bn d1.notes.length bn]⟩] [(.agg #[.int .i64 d1.stones, .slice Ax d1.eras.length cx, .slice Bn d1.notes.length bn], d1)] w4) := Lib.hid (by rw [hw4]; exact ((HS3.out.put (by simp) 0 _).put (by simp) 1 _).put (by simp) 2 _)
  clear hw4 HS3
  refine (from_any w.heap.size (-500) 500 _ (by omega) (by omega) (by omega) (by omega) HS4.out.urn).mono ?_
  rintro e w5 ⟨b, rfl, b1, b2', hu, hk⟩
  have b2 : b ≤ 500 := by omega
  have HS5 := Lib.hid (HS4.out.calls hu hk)
  clear hu hk b2' HS4
  have a0 := (HS5.out.blok 0 rfl).cell 0
  have a1 := (HS5.out.blok 0 rfl).cell 1
  have a2 := (HS5.out.blok 0 rfl).cell 2
  simp at a0 a1 a2
  go_wp2_with fail
  refine (moved_any d1 b HOK1.out HWEE1.out b1 b2 w.heap.size _ _ (HS5.out.dat 0 rfl)).mono ?_
  rintro e w6 ⟨vx, rfl, hx, hb⟩
  obtain ⟨Ax2, cx2, Bn2, bn2, rfl⟩ := hx.slices
  have hl1 := HLAT.out b b1 b2
  obtain ⟨x, hx0⟩ : ∃ x, x = d1.moved b := ⟨_, rfl⟩
  rw [← hx0] at hx hl1 ⊢
  have HL1 := Lib.hid hl1
  have HXY := Lib.hid ((may_iff hl1.ok).1 hl1.may)
  have hxs := hl1.stones
  have HXS := Lib.hid hxs
  have HS6 : Hid (LS w w.heap.size [⟨w2.heap.size, 28, [.int .i64 d1.stones, .slice Ax d1.eras.length cx, .slice Bn d1.notes.length bn]⟩, ⟨w6.heap.size, 28, [.int .i64 x.stones, .slice Ax2 x.eras.length cx2, .slice Bn2 x.notes.length bn2]⟩] [(.agg #[.int .i64 d1.stones, .slice Ax d1.eras.length cx, .slice Bn d1.notes.length bn], d1), (.agg #[.int .i64 x.stones, .slice Ax2 x.eras.length cx2, .slice Bn2 x.notes.length bn2], x)] (w6.alloc (.cells #[.int .i64 x.stones, .slice Ax2 x.eras.length cx2, .slice Bn2 x.notes.length bn2] 28))) := Lib.hid (((HS5.out.to hb).addD (.agg #[.int .i64 x.stones, .slice Ax2 x.eras.length cx2, .slice Bn2 x.notes.length bn2], x) (hx.mono HS5.out.below.size)).newB [.int .i64 x.stones, .slice Ax2 x.eras.length cx2, .slice Bn2 x.notes.length bn2] 28 (by show (28 : TypeId) ≠ _; decide))
  have hbx : w2.heap.size < w6.heap.size := Nat.lt_of_lt_of_le (HS5.out.blok 0 rfl).size hb.size
  clear a0 a1 a2 hx hb hl1 hx0 HS5 HLAT hxs
  go_upto_region 6 with fail
  obtain ⟨w7, hw7⟩ : ∃ w7, w7 = (w6.alloc (.cells #[.int .i64 x.stones, .slice Ax2 x.eras.length cx2, .slice Bn2 x.notes.length bn2] 28)) := ⟨_, rfl⟩
  rw [← hw7] at HS6 ⊢
  clear hw7
  have a0 := (HS6.out.blok 0 rfl).cell 0
  have a1 := (HS6.out.blok 0 rfl).cell 1
  have a2 := (HS6.out.blok 0 rfl).cell 2
  simp at a0 a1 a2
  go_wp2_with fail
  refine (years_yes d1 HOK1.out HYES1.out _ _ w7 (Nat.le_refl _) (HS6.out.dat 0 rfl).dat).mono ?_
  rintro e w8 ⟨va, rfl, ha, hb⟩
  rw [HLEN.out] at ha
  obtain ⟨Aa, ca, rfl⟩ := own_slice ha
  obtain ⟨ga, rfl⟩ := own_addr ha (by omega)
  have HA8 := Lib.hid (ha.mono HS6.out.below.size)
  have HS8 := Lib.hid (HS6.out.to hb)
  clear ha hb a0 a1 a2 HS6
  have c0 := (HS8.out.blok 1 rfl).cell 0
  have c1 := (HS8.out.blok 1 rfl).cell 1
  have c2 := (HS8.out.blok 1 rfl).cell 2
  simp at c0 c1 c2
  go_wp2_with fail
  refine (years_yes x HL1.out.ok HXY.out _ _ w8 (Nat.le_refl _) (HS8.out.dat 1 rfl).dat).mono ?_
  rintro e w9 ⟨vb, rfl, ha, hb⟩
  rw [HXS.out, HLEN.out] at ha
  obtain ⟨Ab, cb, rfl⟩ := own_slice ha
  obtain ⟨gb, rfl⟩ := own_addr ha (by omega)
  have HB9 := Lib.hid (ha.mono HS8.out.below.size)
  have HA9 := Lib.hid (own_fx HA8.out (Fx.of_all hb) (fun _ _ _ _ => trivial))
  have HS9 := Lib.hid (HS8.out.to hb)
  clear ha hb c0 c1 c2 HS8 HA8
  go_wp2_with fail
  refine shift_one w w9 d1.stones ga ca gb cb b (spanList d1 1 d1.stones) (spanList x 1 d1.stones) (by omega) (HLEN.out _ _ _) HA9.out HB9.out (shift_rel HOK1.out HMAY1.out HL1.out b1 b2) _ _ _ _ _ _ _ _ _ _ _ _ _ _ _ _ _ _ _ _ _ _ _ _ _ _ _ _ _ _ _ _ _ _ _ _ _ _ _ _ _ _ _ _ _ _ _ _ _ _ _ _ _ _ _ _ _ _ _ _ _ _ _ _ _ _ _ _ _ _ _ _ _ _ _ _ _ _ _ _ _ _ _ _ _ _ _ _ _ _ _ _ _ _ _ _ _ _ _ _ _ _ _ _ _ _ _ _ _ _ _ _ _ _ _ _ _ _ _ _ _ _ _ _ _ _ _ _ _ _ _ _ _ _ _ _ _ _ _ _ _ _ _ _ _ _ _ _ _ _ _ _ _ _ _ _ _ _ _ _ _ _ _ _ ?hqp ?_
  case hqp => (intro c a dst v w h; cases dst <;> exact h)
  intro _ _ _ _ _ _ _ _ _ _ _ _ _ _ _ _ _ _ _ _ _ _ _ _ _ _ _ _ w10 hb
  have HS10 := Lib.hid (HS9.out.to hb)
  clear hb HS9 HA9 HB9 HL1 HXY HXS
  have a0 := (HS10.out.blok 0 rfl).cell 0
  have a1 := (HS10.out.blok 0 rfl).cell 1
  have a2 := (HS10.out.blok 0 rfl).cell 2
  simp at a0 a1 a2
  have f0 := (HS10.out.blok 0 rfl).free 0
  have f1 := (HS10.out.blok 0 rfl).free 1
  have f2 := (HS10.out.blok 0 rfl).free 2
  go_upto_region 16 with fail
  clear a0 a1 a2 f0 f1 f2
  obtain ⟨w11, hw11⟩ : ∃ w11, w11 = w10.setCell ⟨w2.heap.size, 1, none⟩ (.slice none 0 0) := ⟨_, rfl⟩
  rw [← hw11]
  have HS11 : Hid (LS w w.heap.size [⟨w2.heap.size, 28, [.int .i64 d1.stones, .slice none 0 0, .slice Bn d1.notes.length bn]⟩, ⟨w6.heap.size, 28, [.int .i64 x.stones, .slice Ax2 x.eras.length cx2, .slice Bn2 x.notes.length bn2]⟩] [(.agg #[.int .i64 d1.stones, .slice Ax d1.eras.length cx, .slice Bn d1.notes.length bn], d1), (.agg #[.int .i64 x.stones, .slice Ax2 x.eras.length cx2, .slice Bn2 x.notes.length bn2], x)] w11) := Lib.hid (by rw [hw11]; exact HS10.out.put (fun p hp => by rw [List.mem_singleton.1 hp]; show w6.heap.size ≠ w2.heap.size; omega) 1 _)
  clear hw11 HS10
  have a0 := (HS11.out.blok 0 rfl).cell 0
  have a1 := (HS11.out.blok 0 rfl).cell 1
  have a2 := (HS11.out.blok 0 rfl).cell 2
  simp at a0 a1 a2
  have HN1 : Hid (NotesO w11 w.heap.size (.slice Bn d1.notes.length bn) d1.notes) := Lib.hid (by
    obtain ⟨ve', vn', e', _, h2⟩ := HS11.out.dat 0 rfl
    injection e' with e'
    simp at e'
    obtain ⟨rfl, rfl⟩ := e'
    exact h2)
  go_wp2_with fail
  refine (turned_any d1.stones d1.notes HOK1.out.notes.1 (fun n hn => ⟨d1, rfl, HOK1.out.notes.2 n hn⟩) w.heap.size _ _ w11 HN1.out).mono ?_
  rintro e w12 ⟨vy, rfl, hy, hb⟩
  have hy : DatO w12 w11.heap.size vy d1.turned := hy
  obtain ⟨Ay2, cy2, By, by2, rfl⟩ := hy.slices
  have hrd := round_mk (d0 := d1) HOK1.out HMAY1.out (fun x hx => is_in HOK1.out hx) rfl rfl
  obtain ⟨y, hy0⟩ : ∃ y, y = d1.turned := ⟨_, rfl⟩
  rw [← hy0] at hy hrd ⊢
  have HRD := Lib.hid hrd
  have HS12 : Hid (LS w w.heap.size [⟨w2.heap.size, 28, [.int .i64 d1.stones, .slice none 0 0, .slice Bn d1.notes.length bn]⟩, ⟨w6.heap.size, 28, [.int .i64 x.stones, .slice Ax2 x.eras.length cx2, .slice Bn2 x.notes.length bn2]⟩, ⟨w12.heap.size, 28, [.int .i64 y.stones, .slice Ay2 y.eras.length cy2, .slice By y.notes.length by2]⟩] [(.agg #[.int .i64 d1.stones, .slice Ax d1.eras.length cx, .slice Bn d1.notes.length bn], d1), (.agg #[.int .i64 x.stones, .slice Ax2 x.eras.length cx2, .slice Bn2 x.notes.length bn2], x), (.agg #[.int .i64 y.stones, .slice Ay2 y.eras.length cy2, .slice By y.notes.length by2], y)] (w12.alloc (.cells #[.int .i64 y.stones, .slice Ay2 y.eras.length cy2, .slice By y.notes.length by2] 28))) := Lib.hid (((HS11.out.to hb).addD (.agg #[.int .i64 y.stones, .slice Ay2 y.eras.length cy2, .slice By y.notes.length by2], y) (hy.mono HS11.out.below.size)).newB [.int .i64 y.stones, .slice Ay2 y.eras.length cy2, .slice By y.notes.length by2] 28 (by show (28 : TypeId) ≠ _; decide))
  have hby : w2.heap.size < w12.heap.size := Nat.lt_of_lt_of_le (HS11.out.blok 0 rfl).size hb.size
  clear a0 a1 a2 hy hb hrd hy0 HS11 HN1
  go_upto_region 17 with fail
  obtain ⟨w13, hw13⟩ : ∃ w13, w13 = (w12.alloc (.cells #[.int .i64 y.stones, .slice Ay2 y.eras.length cy2, .slice By y.notes.length by2] 28)) := ⟨_, rfl⟩
  rw [← hw13] at HS12 ⊢
  clear hw13
  have c0 := (HS12.out.blok 2 rfl).cell 0
  have c1 := (HS12.out.blok 2 rfl).cell 1
  have c2 := (HS12.out.blok 2 rfl).cell 2
  simp at c0 c1 c2
  have HN2 : Hid (NotesO w13 w.heap.size (.slice By y.notes.length by2) y.notes) := Lib.hid (by
    obtain ⟨ve', vn', e', _, h2⟩ := HS12.out.dat 2 rfl
    injection e' with e'
    simp at e'
    obtain ⟨rfl, rfl⟩ := e'
    exact h2)
  go_wp2_with fail
  refine (turned_any y.stones y.notes HRD.out.oky.notes.1 (fun n hn => ⟨y, rfl, HRD.out.oky.notes.2 n hn⟩) w.heap.size _ _ w13 HN2.out).mono ?_
  rintro e w14 ⟨v2, rfl, h2, hb⟩
  have h2 : DatO w14 w13.heap.size v2 y.turned := h2
  obtain ⟨A2, c2, B2, b22, rfl⟩ := h2.slices
  have hrd := HRD.out
  obtain ⟨d2, h20⟩ : ∃ d2, d2 = y.turned := ⟨_, rfl⟩
  rw [← h20] at h2 hrd ⊢
  have HR := Lib.hid hrd
  have HS14 : Hid (LS w w.heap.size [⟨w2.heap.size, 28, [.int .i64 d1.stones, .slice none 0 0, .slice Bn d1.notes.length bn]⟩, ⟨w6.heap.size, 28, [.int .i64 x.stones, .slice Ax2 x.eras.length cx2, .slice Bn2 x.notes.length bn2]⟩, ⟨w12.heap.size, 28, [.int .i64 y.stones, .slice Ay2 y.eras.length cy2, .slice By y.notes.length by2]⟩] [(.agg #[.int .i64 d1.stones, .slice Ax d1.eras.length cx, .slice Bn d1.notes.length bn], d1), (.agg #[.int .i64 x.stones, .slice Ax2 x.eras.length cx2, .slice Bn2 x.notes.length bn2], x), (.agg #[.int .i64 y.stones, .slice Ay2 y.eras.length cy2, .slice By y.notes.length by2], y), (.agg #[.int .i64 d2.stones, .slice A2 d2.eras.length c2, .slice B2 d2.notes.length b22], d2)] w14) := Lib.hid ((HS12.out.to hb).addD (.agg #[.int .i64 d2.stones, .slice A2 d2.eras.length c2, .slice B2 d2.notes.length b22], d2) (h2.mono HS12.out.below.size))
  clear c0 c1 h2 hb hrd h20 HS12 HN2 HRD
  have a0 := (HS14.out.blok 0 rfl).cell 0
  have a1 := (HS14.out.blok 0 rfl).cell 1
  have a2 := (HS14.out.blok 0 rfl).cell 2
  simp at a0 a1 a2
  have f0 := (HS14.out.blok 0 rfl).free 0
  have f1 := (HS14.out.blok 0 rfl).free 1
  have f2 := (HS14.out.blok 0 rfl).free 2
  go_upto_region 18 with fail
  clear a0 a1 a2 f0 f1 f2
  obtain ⟨w15, hw15⟩ : ∃ w15, w15 = ((w14.setCell ⟨w2.heap.size, 0, none⟩ (.int .i64 d2.stones)).setCell ⟨w2.heap.size, 1, none⟩ (.slice A2 d2.eras.length c2)).setCell ⟨w2.heap.size, 2, none⟩ (.slice B2 d2.notes.length b22) := ⟨_, rfl⟩
  rw [← hw15]
  have hfr : ∀ p ∈ [⟨w6.heap.size, 28, [.int .i64 x.stones, .slice Ax2 x.eras.length cx2, .slice Bn2 x.notes.length bn2]⟩, (⟨w12.heap.size, 28, [.int .i64 y.stones, .slice Ay2 y.eras.length cy2, .slice By y.notes.length by2]⟩ : OBlok)], p.b ≠ w2.heap.size := fun p hp => by
    rcases List.mem_cons.1 hp with rfl | hp
    · show w6.heap.size ≠ w2.heap.size; omega
    · rw [List.mem_singleton.1 hp]; show w12.heap.size ≠ w2.heap.size; omega
  have HS15 : Hid (LS w w.heap.size [⟨w2.heap.size, 28, [.int .i64 d2.stones, .slice A2 d2.eras.length c2, .slice B2 d2.notes.length b22]⟩, ⟨w6.heap.size, 28, [.int .i64 x.stones, .slice Ax2 x.eras.length cx2, .slice Bn2 x.notes.length bn2]⟩, ⟨w12.heap.size, 28, [.int .i64 y.stones, .slice Ay2 y.eras.length cy2, .slice By y.notes.length by2]⟩] [(.agg #[.int .i64 d1.stones, .slice Ax d1.eras.length cx, .slice Bn d1.notes.length bn], d1), (.agg #[.int .i64 x.stones, .slice Ax2 x.eras.length cx2, .slice Bn2 x.notes.length bn2], x), (.agg #[.int .i64 y.stones, .slice Ay2 y.eras.length cy2, .slice By y.notes.length by2], y), (.agg #[.int .i64 d2.stones, .slice A2 d2.eras.length c2, .slice B2 d2.notes.length b22], d2)] w15) := Lib.hid (by rw [hw15]; exact ((HS14.out.put hfr 0 _).put hfr 1 _).put hfr 2 _)
  have H2S := Lib.hid HR.out.stones
  have hy6 := HR.out.oky.stones
  have h26 := HR.out.ok.stones
  have HY2 := Lib.hid ((may_iff HR.out.ok).1 HR.out.may)
  have HYY := Lib.hid ((may_iff HR.out.oky).1 HR.out.mayy)
  clear hw15 HS14 hfr
  refine wp_region_v [(fun j => j == 2 || j == 3 || j == 6 || j == 7 || j == 8 || j == 9, fun W => W.cell? ⟨w2.heap.size, 0, none⟩ = some (.int .i64 d2.stones))] (by kernel_rfl) ?_
  refine wpAnyV_world (fun W => LS w w.heap.size [⟨w2.heap.size, 28, [.int .i64 d2.stones, .slice A2 d2.eras.length c2, .slice B2 d2.notes.length b22]⟩, ⟨w6.heap.size, 28, [.int .i64 x.stones, .slice Ax2 x.eras.length cx2, .slice Bn2 x.notes.length bn2]⟩, ⟨w12.heap.size, 28, [.int .i64 y.stones, .slice Ay2 y.eras.length cy2, .slice By y.notes.length by2]⟩] [(.agg #[.int .i64 d1.stones, .slice Ax d1.eras.length cx, .slice Bn d1.notes.length bn], d1), (.agg #[.int .i64 x.stones, .slice Ax2 x.eras.length cx2, .slice Bn2 x.notes.length bn2], x), (.agg #[.int .i64 y.stones, .slice Ay2 y.eras.length cy2, .slice By y.notes.length by2], y), (.agg #[.int .i64 d2.stones, .slice A2 d2.eras.length c2, .slice B2 d2.notes.length b22], d2)] W) HS15.out.drew (fun V hV => ?_)
  have HV := Lib.hid hV
  clear hV
  refine wpAnyV_free (i := 0) (v := ?_) (by simp only [List.getElem?_toArray, List.getElem?_cons_zero]; rfl) (by kernel_rfl) (by kernel_rfl) (by kernel_rfl) (by kernel_rfl) (by exact fun _ _ _ h => h) (Or.inl ⟨by rfl, ?hyg2⟩) (behind_cons (fun h => by simp at h) (fun p hp => by cases hp)) ?restg2
  case hyg2 => (intro W' _; go_simp; try with_reducible rfl)
  try simp only [Act.put, List.setIfInBounds_toArray, List.set_cons_zero, List.set_cons_succ]
  refine wpAnyV_free (i := 1) (v := ?_) (by simp only [List.getElem?_toArray, List.getElem?_cons_zero, List.getElem?_cons_succ]; rfl) (by kernel_rfl) (by kernel_rfl) (by kernel_rfl) (by kernel_rfl) (by exact fun _ _ _ h => h) (Or.inl ⟨by rfl, ?hyg3⟩) (behind_cons (fun h => by simp at h) (fun p hp => by cases hp)) ?restg3
  case hyg3 => (intro W' _; go_simp; try with_reducible rfl)
  try simp only [Act.put, List.setIfInBounds_toArray, List.set_cons_zero, List.set_cons_succ]
  refine wpAnyV_free (i := 4) (v := ?_) (by simp only [List.getElem?_toArray, List.getElem?_cons_zero, List.getElem?_cons_succ]; rfl) (by kernel_rfl) (by kernel_rfl) (by kernel_rfl) (by kernel_rfl) (by exact fun _ _ _ h => h) (Or.inl ⟨by rfl, ?hyg4⟩) (behind_cons (fun h => by simp at h) (fun p hp => by cases hp)) ?restg4
  case hyg4 => (intro W' _; go_simp; try with_reducible rfl)
  try simp only [Act.put, List.setIfInBounds_toArray, List.set_cons_zero, List.set_cons_succ]
  refine wpAnyV_free (i := 5) (v := ?_) (by simp only [List.getElem?_toArray, List.getElem?_cons_zero, List.getElem?_cons_succ]; rfl) (by kernel_rfl) (by kernel_rfl) (by kernel_rfl) (by kernel_rfl) (by exact fun _ _ _ h => h) (Or.inl ⟨by rfl, ?hyg5⟩) (behind_cons (fun h => by simp at h) (fun p hp => by cases hp)) ?restg5
  case hyg5 => (intro W' _; go_simp; try with_reducible rfl)
  try simp only [Act.put, List.setIfInBounds_toArray, List.set_cons_zero, List.set_cons_succ]
  refine wpAnyV_take (i := 2) (m := 0) (v := ?_) (by simp only [List.getElem?_toArray, List.getElem?_cons_zero, List.getElem?_cons_succ]; rfl) (by rfl) (by kernel_rfl) (by kernel_rfl) (by kernel_rfl) (by kernel_rfl) (by exact fun _ _ _ h => h) (Or.inl ⟨by rfl, ?hyg6⟩) (((HV.out.blok 0 rfl).cell 0)) (behind_cons (fun _ => ((HV.out.blok 0 rfl).cell 0)) (fun p hp => by cases hp)) ?restg6
  case hyg6 => (intro W' hSW; go_simp; try with_reducible rfl)
  try simp only [Act.put, List.setIfInBounds_toArray, List.set_cons_zero, List.set_cons_succ]
  refine wpAnyV_take (i := 6) (m := 0) (v := ?_) (by simp only [List.getElem?_toArray, List.getElem?_cons_zero, List.getElem?_cons_succ]; rfl) (by rfl) (by kernel_rfl) (by kernel_rfl) (by kernel_rfl) (by kernel_rfl) (by exact fun _ _ _ h => h) (Or.inl ⟨by rfl, ?hyg7⟩) (((HV.out.blok 0 rfl).cell 0)) (behind_cons (fun _ => ((HV.out.blok 0 rfl).cell 0)) (fun p hp => by cases hp)) ?restg7
  case hyg7 => (intro W' hSW; go_simp; try with_reducible rfl)
  try simp only [Act.put, List.setIfInBounds_toArray, List.set_cons_zero, List.set_cons_succ]
  refine wpAnyV_ready (rs := [3]) (by kernel_rfl) (by simp) ?_
  refine AllReadyV.cons (by simp only [List.getElem?_toArray, List.getElem?_cons_zero, List.getElem?_cons_succ]; rfl) (fun K hK => ?_) AllReadyV.nil
  go_simp
  go_at_call 16
  refine (up_any _ _ _ (by omega) HV.out.urn).mono ?_
  rintro e w503 ⟨p, rfl, hp, hu, hk⟩
  have HC503 := Lib.hid (HV.out.calls hu hk)
  clear hu hk
  refine hK.out _ _ (behind_cons (fun _ => ((HC503.out.blok 0 rfl).cell 0)) (fun p hp => by cases hp)) ?_
  clear hK K
  try simp only [Act.put, List.setIfInBounds_toArray, List.set_cons_zero, List.set_cons_succ]
  refine wpAnyV_ready (rs := [7]) (by kernel_rfl) (by simp) ?_
  refine AllReadyV.cons (by simp only [List.getElem?_toArray, List.getElem?_cons_zero, List.getElem?_cons_succ]; rfl) (fun K hK => ?_) AllReadyV.nil
  go_simp
  go_at_call 16
  refine (up_any _ _ _ (by omega) HC503.out.urn).mono ?_
  rintro e w504 ⟨q, rfl, hq, hu, hk⟩
  have HC504 := Lib.hid (HC503.out.calls hu hk)
  clear hu hk
  refine hK.out _ _ (behind_cons (fun _ => ((HC504.out.blok 0 rfl).cell 0)) (fun p hp => by cases hp)) ?_
  clear hK K
  try simp only [Act.put, List.setIfInBounds_toArray, List.set_cons_zero, List.set_cons_succ]
  refine wpAnyV_free (i := 8) (v := ?_) (by simp only [List.getElem?_toArray, List.getElem?_cons_zero, List.getElem?_cons_succ]; rfl) (by kernel_rfl) (by kernel_rfl) (by kernel_rfl) (by kernel_rfl) (by exact fun _ _ _ h => h) (Or.inl ⟨by rfl, ?hyg10⟩) (behind_cons (fun _ => ((HC504.out.blok 0 rfl).cell 0)) (fun p hp => by cases hp)) ?restg10
  case hyg10 => (intro W' _; go_simp; try with_reducible rfl)
  try simp only [Act.put, List.setIfInBounds_toArray, List.set_cons_zero, List.set_cons_succ]
  refine wpAnyV_free (i := 9) (v := ?_) (by simp only [List.getElem?_toArray, List.getElem?_cons_zero, List.getElem?_cons_succ]; rfl) (by kernel_rfl) (by kernel_rfl) (by kernel_rfl) (by kernel_rfl) (by exact fun _ _ _ h => h) (Or.inl ⟨by rfl, ?hyg11⟩) (behind_cons (fun _ => ((HC504.out.blok 0 rfl).cell 0)) (fun p hp => by cases hp)) ?restg11
  case hyg11 => (intro W' _; go_simp; try with_reducible rfl)
  try simp only [Act.put, List.setIfInBounds_toArray, List.set_cons_zero, List.set_cons_succ]
  refine wpAnyV_done (by kernel_rfl) ?_ _
  obtain ⟨w16, hw16⟩ : ∃ w16 : World, w16 = w504 := ⟨_, rfl⟩
  have HS16 := HC504
  rw [← hw16] at HS16 ⊢
  clear hw16
  have hps : p < d2.stones := by omega
  have hqs : q < d2.stones := by omega
  obtain ⟨nv, hnv⟩ : ∃ nv, nv = d2.laterV (1 + p) (1 + q) := ⟨_, rfl⟩
  have HE1 := Lib.hid (earlier_yes d2 HR.out.ok HY2.out p q hps hqs)
  have HE2 := Lib.hid (earlier_yes y HR.out.oky HYY.out q p (by have := H2S.out; omega) (by have := H2S.out; omega))
  rw [← HR.out.later p q (by have := H2S.out; omega) (by have := H2S.out; omega)] at HE2
  rw [← hnv] at HE1 HE2
  clear hnv
  have a0 := (HS16.out.blok 0 rfl).cell 0
  have a1 := (HS16.out.blok 0 rfl).cell 1
  have a2 := (HS16.out.blok 0 rfl).cell 2
  simp at a0 a1 a2
  go_wp2_with fail
  refine (HE1.out _ _ w16 (Nat.le_refl _) (HS16.out.dat 3 rfl).dat).mono ?_
  rintro e w17 ⟨rfl, hb⟩
  have HS17 := Lib.hid (HS16.out.to hb)
  clear hb a0 a1 a2 HS16
  have e0 := (HS17.out.blok 2 rfl).cell 0
  have e1 := (HS17.out.blok 2 rfl).cell 1
  have e2 := (HS17.out.blok 2 rfl).cell 2
  simp at e0 e1 e2
  go_wp2_with fail
  refine (HE2.out _ _ w17 (Nat.le_refl _) (HS17.out.dat 2 rfl).dat).mono ?_
  rintro e w18 ⟨rfl, hb⟩
  have HS18 := Lib.hid (HS17.out.to hb)
  clear hb e0 e1 e2 HS17 HE1 HE2
  have a0 := (HS18.out.blok 0 rfl).cell 0
  have a1 := (HS18.out.blok 0 rfl).cell 1
  have a2 := (HS18.out.blok 0 rfl).cell 2
  simp at a0 a1 a2
  go_wp2_with fail
  refine (years_yes d2 HR.out.ok HY2.out _ _ w18 (Nat.le_refl _) (HS18.out.dat 3 rfl).dat).mono ?_
  rintro e w19 ⟨va2, rfl, ha, hb⟩
  rw [H2S.out, HLEN.out] at ha
  obtain ⟨Ac, cc, rfl⟩ := own_slice ha
  obtain ⟨gc, rfl⟩ := own_addr ha (by omega)
  have HA19 := Lib.hid (ha.mono HS18.out.below.size)
  have HS19 := Lib.hid (HS18.out.to hb)
  clear ha hb a0 a1 a2 HS18
  have e0 := (HS19.out.blok 2 rfl).cell 0
  have e1 := (HS19.out.blok 2 rfl).cell 1
  have e2 := (HS19.out.blok 2 rfl).cell 2
  simp at e0 e1 e2
  go_wp2_with fail
  refine (years_yes y HR.out.oky HYY.out _ _ w19 (Nat.le_refl _) (HS19.out.dat 2 rfl).dat).mono ?_
  rintro e w20 ⟨vb2, rfl, ha, hb⟩
  rw [HLEN.out] at ha
  obtain ⟨Az, cz, rfl⟩ := own_slice ha
  obtain ⟨gz, rfl⟩ := own_addr ha (by omega)
  have HZ20 := Lib.hid (ha.mono HS19.out.below.size)
  have HC20 := Lib.hid (own_fx HA19.out (Fx.of_all hb) (fun _ _ _ _ => trivial))
  have HS20 := Lib.hid (HS19.out.to hb)
  clear ha hb e0 e1 e2 HS19 HA19
  go_wp2_with fail
  refine shift_two w w20 y.stones gc cc gz cz 0 (spanList d2 1 y.stones) (spanList y 1 y.stones) (by omega) (HLEN.out _ _ _) HC20.out HZ20.out (turn_rel HR.out) _ _ _ _ _ _ _ _ _ _ _ _ _ _ _ _ _ _ _ _ _ _ _ _ _ _ _ _ _ _ _ _ _ _ _ _ _ _ _ _ _ _ _ _ _ _ _ _ _ _ _ _ _ _ _ _ _ _ _ _ _ _ _ _ _ _ _ _ _ _ _ _ _ _ _ _ _ _ _ _ _ _ _ _ _ _ _ _ _ _ _ _ _ _ _ _ _ _ _ _ _ _ _ _ _ _ _ _ _ _ _ _ _ _ _ _ _ _ _ _ _ _ _ _ _ _ _ _ _ _ _ _ _ _ _ _ _ _ _ _ _ _ _ _ _ _ _ _ _ _ _ _ _ _ _ _ _ _ _ _ _ _ _ _ _ ?hqp ?_
  case hqp => (intro c a dst v w h; cases dst <;> exact h)
  intro _ _ _ _ _ _ _ _ _ _ _ _ _ _ _ _ _ _ _ _ _ _ _ _ _ _ w21 hb
  have HS21 := Lib.hid (HS20.out.to hb)
  clear hb HS20 HZ20 HC20
  go_wp2_with (go_at_call 20; refine (timely_any _).mono ?_; rintro e w22 ⟨rfl, hb⟩; have HB22 := Lib.hid (HS21.out.below.trans (hb.mono HS21.out.below.size)); clear hb)
  go_ret
  exact ⟨rfl, HB22.out⟩
end Go.Proofs.Ytcbdcdpoackplaa
