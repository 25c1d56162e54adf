/- SightPrints's walk. -/
import Derived.Test.YthhajbgddifenaaSg
namespace Go.Proofs.Ythhajbgddifenaa
open Go.RowKit Go.Shelf

def RLine.withTotal (L : RLine) (t : Int) : RLine := { L with total := t }
theorem ROwn.light1 {B gq cq : Nat} {wr : World} {vh : Value} {L : RLine} {svs lvs : List Value} (h : ROwn B wr vh (.slice (some ⟨gq, 0, none⟩) L.squares.length cq) L svs lvs) {k : Nat} (hk : k < L.squares.length) (x : RLight) (hB : B ≤ wr.heap.size) :
    ROwnW B ((wr.alloc (.cells #[.int .i64 x.shows, .int .i64 x.seen] 27)).setCell ⟨gq, k, none⟩ (.slice (some ⟨wr.heap.size, 0, none⟩) 1 1)) vh (.slice (some ⟨gq, 0, none⟩) L.squares.length cq) (L.withSquare k [x]) svs (lvs.set k (.slice (some ⟨wr.heap.size, 0, none⟩) 1 1)) := by
  obtain ⟨o, ho⟩ : ∃ o, o = Obj.cells #[.int .i64 x.shows, .int .i64 x.seen] 27 := ⟨_, rfl⟩
  have own1 : (wr.alloc o).ownsRow B 27 2 (.slice (some ⟨wr.heap.size, 0, none⟩) 1 1) 1 (rltCells [x]) := by
    rw [ho]
    exact World.ownsRow_lit (base := B) (e := 27) (size := 2) wr #[.int .i64 x.shows, .int .i64 x.seen] 1 hB (by unfold maxLen; omega) (by simp)
  rw [← ho]
  have hQ8 := h.squares.alloc o
  have hH8 := h.hands.alloc o
  obtain ⟨cs, hbq⟩ := own_blok hQ8 rfl
  have hst := (hQ8.stored k (.slice (some ⟨wr.heap.size, 0, none⟩) 1 1)).1
  have hk8 : k < lvs.length := by rw [h.lights.1]; exact hk
  have hlen : (L.withSquare k [x]).squares.length = L.squares.length := by simp [RLine.withSquare]
  have keep : ∀ {e : TypeId} {s n : Nat} {v : Value} {xs : List Value}, e ≠ 39 → (wr.alloc o).ownsRow B e s v n xs → ((wr.alloc o).setCell ⟨gq, k, none⟩ (.slice (some ⟨wr.heap.size, 0, none⟩) 1 1)).ownsRow B e s v n xs := fun he h =>
    own_far h (p := ⟨gq, k, none⟩) (own_ne_row h hbq he) _
  refine ⟨keep (by decide) hH8, ⟨h.shapes.1, fun i a v h1 h2 => keep (by decide) ((h.shapes.2 i a v h1 h2).alloc o)⟩, by rw [hlen]; exact hst, by rw [List.length_set, hlen]; exact h.lights.1, fun i a v h1 h2 => ?_⟩
  by_cases hik : i = k
  · subst hik
    have e1 : [x] = a := by
      have : (L.squares.set i [x])[i]? = some a := h1
      rw [List.getElem?_set_self hk] at this
      injection this
    rw [List.getElem?_set_self hk8] at h2
    injection h2 with h2
    subst e1 h2
    exact keep (by decide) own1
  · have e1 : L.squares[i]? = some a := by
      have : (L.squares.set k [x])[i]? = some a := h1
      rwa [List.getElem?_set_ne (fun e => hik e.symm)] at this
    rw [List.getElem?_set_ne (fun e => hik e.symm)] at h2
    exact keep (by decide) ((h.lights.2.1 i a v e1 h2).alloc o)
theorem small_one {L : Line} (h : L.ok) (k : Nat) (x : RLight) : RSmall ((L.raw.withSquare k [x]).withTotal 40) := by
  have hs := small_ok h
  refine ⟨hs.hands, hs.shapes, by show (L.raw.squares.set k _).length ≤ 100; rw [List.length_set]; exact hs.squares, fun y hy => ?_⟩
  rcases List.mem_or_eq_of_mem_set hy with hy | rfl
  · exact hs.lights y hy
  · simp
theorem ROwnW.total {B b : Nat} {w : World} {vh vq : Value} {L : RLine} {svs lvs cs : List Value} (h : ROwnW B w vh vq L svs lvs) (hb : Blok w b 25 cs) (j : Nat) (u : Value) (t : Int) : ROwnW B (w.setCell ⟨b, j, none⟩ u) vh vq (L.withTotal t) svs lvs := by
  have keep : ∀ {e : TypeId} {s n : Nat} {v : Value} {xs : List Value}, e ≠ 25 → w.ownsRow B e s v n xs → (w.setCell ⟨b, j, none⟩ u).ownsRow B e s v n xs := fun he h => own_far h (p := ⟨b, j, none⟩) (own_ne_row h hb he) _
  exact ⟨keep (by decide) h.hands, ⟨h.shapes.1, fun i a v h1 h2 => keep (by decide) (h.shapes.2 i a v h1 h2)⟩, keep (by decide) h.squares, h.len, fun i a v h1 h2 => keep (by decide) (h.lights i a v h1 h2)⟩
set_option maxRecDepth 100000 in
set_option maxHeartbeats 4000000 in
theorem prints_walk (v : Value) (R : RLine) (x : RLight) (at_ : Int) (a0 : Option Addr) (len0 cap0 : Nat) (w : World) (hv : RLineAt w w.heap.size v R) (hat : -9223372036854775808 ≤ at_ ∧ at_ ≤ 9223372036854775807) (hr : NumRow w a0 len0) :
    Calls Try.prog 4 #[v, .agg #[.int .i64 x.shows, .int .i64 x.seen], .int .i64 at_, .slice a0 len0 cap0] w (EnoughPost w) := by
  have HV := Lib.hid hv
  obtain ⟨vh, vs, rfl, ⟨AH, nh, ch, rfl⟩, AQ, m, cq, rfl⟩ := hv.form
  obtain ⟨wn, hwn⟩ : ∃ wn, wn = R.worn := ⟨_, rfl⟩
  obtain ⟨sc, hsc⟩ : ∃ sc, sc = R.scr := ⟨_, rfl⟩
  obtain ⟨tt, htt⟩ : ∃ tt, tt = R.total := ⟨_, rfl⟩
  obtain ⟨xs, hxs⟩ : ∃ xs, xs = x.shows := ⟨_, rfl⟩
  obtain ⟨xe, hxe⟩ : ∃ xe, xe = x.seen := ⟨_, rfl⟩
  rw [← hwn, ← hsc, ← htt] at HV ⊢
  rw [← hxs, ← hxe]
  have HXS := Lib.hid hxs
  have HXE := Lib.hid hxe
  have HR0 := Lib.hid hr
  clear hv hwn hsc htt hxs hxe hr
  go_enter Try.func4, Try.ntmps4
  go_wp2_with fail
  obtain ⟨W0, hW0⟩ : ∃ W0, W0 = (w.alloc (.cells #[.slice AH nh ch, .int .i64 wn, .int .i64 sc, .int .i64 tt, .slice AQ m cq] 25)).alloc (.cells #[.int .i64 xs, .int .i64 xe] 27) := ⟨_, rfl⟩
  have hb0 : Below w.heap.size w W0 := by rw [hW0]; exact ((Below.refl _ _).alloc (Nat.le_refl _) _).alloc (by simp) _
  have bl0 : Blok W0 w.heap.size 25 [.slice AH nh ch, .int .i64 wn, .int .i64 sc, .int .i64 tt, .slice AQ m cq] := by rw [hW0]; exact (Blok.new w _ _).alloc _
  have bm0 : Blok W0 (w.heap.size + 1) 27 [.int .i64 xs, .int .i64 xe] := by
    rw [hW0]
    have b := Blok.new (w.alloc (.cells #[.slice AH nh ch, .int .i64 wn, .int .i64 sc, .int .i64 tt, .slice AQ m cq] 25)) 27 [.int .i64 xs, .int .i64 xe]
    rw [World.size_alloc] at b
    exact b
  have HB0 := Lib.hid hb0
  have BL0 := Lib.hid bl0
  have BM0 := Lib.hid bm0
  have z0 := bm0.size
  rw [← hW0]
  clear hW0 hb0 bl0 bm0
  refine (large_any _ R W0 (HV.out.keep (SameA.of_below HB0.out) HB0.out.size)).mono ?_
  rintro e w1 ⟨lg, rfl, hlg, hb1⟩
  have HB1 := Lib.hid (HB0.out.trans (hb1.mono HB0.out.size))
  have BL1 := Lib.hid (BL0.out.below hb1 BL0.out.size)
  have BM1 := Lib.hid (BM0.out.below hb1 BM0.out.size)
  have z1 : w.heap.size + 1 < w1.heap.size := BM1.out.size
  clear hb1
  cases lg with
  | true =>
    clear hlg HV HB0 BL0 BM0
    go_wp2_with fail
    refine (ready_any Unit _).mono ?_
    rintro e w8 ⟨rfl, hb8⟩
    have HB8 := Lib.hid (HB1.out.trans (hb8.mono HB1.out.size))
    clear hb8
    go_wp2_with fail
    go_ret
    exact ⟨rfl, HB8.out⟩
  | false =>
  have HSM := Lib.hid (hlg rfl)
  have HRW := Lib.hid (show NumRow w1 a0 len0 from ⟨HR0.out.1, fun h => by
    obtain ⟨y, e, hy⟩ := HR0.out.2 h
    refine ⟨y, e, fun i hi => ?_⟩
    obtain ⟨n, hn⟩ := hy i hi
    exact ⟨n, (HB1.out.cell (p := y.add i) (World.block_lt_of_cell? w _ hn)).trans hn⟩⟩)
  clear hlg HB0 BL0 BM0
  go_wp2_with fail
  refine (newUrn_any _ _ _ _ HRW.out).mono ?_
  rintro e w2 ⟨rfl, hu2, hb2⟩
  have HB2 := Lib.hid (HB1.out.trans (hb2.mono HB1.out.size))
  have BL2 := Lib.hid (BL1.out.below hb2 BL1.out.size)
  have BM2 := Lib.hid (BM1.out.below hb2 BM1.out.size)
  have HU2 := Lib.hid hu2
  have hz2 := hb2.size
  clear hb2 hu2
  go_wp2_with fail
  refine (lineOf_any _ 3 5 4 _ (by omega) (by omega) (by omega) (by omega) (by omega) (by omega) HU2.out).mono ?_
  rintro e w3 ⟨L, lv, vv, hand, ks, vis, lts, H, rfl, hlb, hok, -, -, -, -, -, -, -, hvv, -, -, hk3⟩
  obtain ⟨vb, vc, vcur, rfl, -⟩ := hvv
  have hne : w1.heap.size ≠ w.heap.size := by omega
  have hne1 : w1.heap.size ≠ w.heap.size + 1 := by omega
  have HB3 := Lib.hid (HB2.out.trans (hk3.below HB2.out.size (show w.heap.size ≤ w1.heap.size by omega)))
  have BL3 := Lib.hid (BL2.out.kg hk3 (fun e => hne e.symm))
  have BM3 := Lib.hid (BM2.out.kg hk3 (fun e => hne1 e.symm))
  have HLB := Lib.hid hlb
  have HOK := Lib.hid hok
  have z3 : w.heap.size + 1 < w3.heap.size := BM3.out.size
  obtain ⟨vh3, vs3, rfl, hhb, hsb⟩ := hlb
  obtain ⟨hb, hc, hcur, hsvs, rfl, -⟩ := id hhb
  obtain ⟨sb, sc3, scur, slvs, rfl, -⟩ := id hsb
  clear hhb hsb hok hk3 HB2 BL2 BM2
  go_wp2_with fail
  obtain ⟨W4, hW4⟩ : ∃ W4, W4 = (w3.alloc (.cells #[.slice (some ⟨hb, 0, none⟩) L.hands.length hc, .int .i64 L.worn, .int .i64 L.scr, .int .i64 L.total, .slice (some ⟨sb, 0, none⟩) L.squares.length sc3] 25)).alloc (.cells #[.int .i64 hand, .string lts, .slice (some ⟨vb, 0, none⟩) vis.length vc] 32) := ⟨_, rfl⟩
  have hb34 : Below w3.heap.size w3 W4 := by rw [hW4]; exact ((Below.refl _ _).alloc (Nat.le_refl _) _).alloc (by simp) _
  have HQ4 := Lib.hid (show Blok W4 w3.heap.size 25 [.slice (some ⟨hb, 0, none⟩) L.hands.length hc, .int .i64 L.worn, .int .i64 L.scr, .int .i64 L.total, .slice (some ⟨sb, 0, none⟩) L.squares.length sc3] by rw [hW4]; exact (Blok.new w3 _ _).alloc _)
  have HB4 := Lib.hid (HB3.out.trans (hb34.mono HB3.out.size))
  have BL4 := Lib.hid (BL3.out.below hb34 BL3.out.size)
  have BM4 := Lib.hid (BM3.out.below hb34 BM3.out.size)
  have HM4 := Lib.hid (show RLineAt W4 W4.heap.size (.agg #[.slice (some ⟨hb, 0, none⟩) L.hands.length hc, .int .i64 L.worn, .int .i64 L.scr, .int .i64 L.total, .slice (some ⟨sb, 0, none⟩) L.squares.length sc3]) L.raw from HLB.out.raw.keep (SameA.of_below hb34) hb34.size)
  have HSL := Lib.hid (small_ok HOK.out)
  have z4 := HQ4.out.size
  have z34 : w3.heap.size ≤ W4.heap.size := hb34.size
  rw [← hW4]
  clear hW4 hb34 HLB HB3 BL3 BM3
  refine (rcopy_any _ L.raw W4 HM4.out HSL.out).mono ?_
  rintro e w5 ⟨vh5, vq5, svs, lvs, rfl, ho5, hb5⟩
  obtain ⟨A5, c5, rfl⟩ := own_slice ho5.hands
  obtain ⟨Q5, d5, rfl⟩ := own_slice ho5.squares
  have HB5 := Lib.hid (HB4.out.trans (hb5.mono HB4.out.size))
  have BL5 := Lib.hid (BL4.out.below hb5 BL4.out.size)
  have BM5 := Lib.hid (BM4.out.below hb5 BM4.out.size)
  have HQ5 := Lib.hid (HQ4.out.below hb5 HQ4.out.size)
  have HM5 := Lib.hid (HM4.out.keep (SameA.of_below hb5) (Nat.le_refl W4.heap.size))
  have HO5 := Lib.hid ho5
  have z45 : W4.heap.size ≤ w5.heap.size := hb5.size
  have hm8 : L.squares.length ≤ 8 := HOK.out.2.2.2.2.2.2.2.1
  have hm1 : 1 ≤ L.squares.length := HOK.out.2.2.2.2.2.2.1
  have hl1 : L.raw.hands.length = L.hands.length := by simp [Line.raw]
  have hl2 : L.raw.squares.length = L.squares.length := by simp [Line.raw]
  have e1 : L.raw.worn = (L.worn : Int) := rfl
  have e2 : L.raw.scr = (L.scr : Int) := rfl
  have e3 : L.raw.total = (L.total : Int) := rfl
  unfold rlineV
  rw [hl1, hl2, e1, e2, e3]
  rw [hl1, hl2] at HO5
  clear hb5 ho5 HB4 BL4 BM4 HQ4 HM4 e1 e2 e3
  go_wp2_with fail
  refine (wrap_any at_ L.squares.length _ hm1 (by omega) hat).mono ?_
  rintro e w6 ⟨⟨k, hk, rfl⟩, rfl⟩
  obtain ⟨W6, hW6⟩ : ∃ W6, W6 = w5.alloc (.cells #[.slice A5 L.hands.length c5, .int .i64 L.worn, .int .i64 L.scr, .int .i64 L.total, .slice Q5 L.squares.length d5] 25) := ⟨_, rfl⟩
  have hb56 : Below w5.heap.size w5 W6 := by rw [hW6]; exact (Below.refl _ _).alloc (Nat.le_refl _) _
  have HX6 := Lib.hid (show Blok W6 w5.heap.size 25 [.slice A5 L.hands.length c5, .int .i64 L.worn, .int .i64 L.scr, .int .i64 L.total, .slice Q5 L.squares.length d5] by rw [hW6]; exact Blok.new w5 _ _)
  have HB6 := Lib.hid (HB5.out.trans (hb56.mono HB5.out.size))
  have BL6 := Lib.hid (BL5.out.below hb56 BL5.out.size)
  have BM6 := Lib.hid (BM5.out.below hb56 BM5.out.size)
  have HQ6 := Lib.hid (HQ5.out.below hb56 HQ5.out.size)
  have HM6 := Lib.hid (HM5.out.keep (SameA.of_below (hb56.mono z45)) (Nat.le_refl W4.heap.size))
  have HO6 := Lib.hid (HO5.out.below hb56)
  have z56 : w5.heap.size < W6.heap.size := HX6.out.size
  have HS6 := Lib.hid (show W6.heap.size = w5.heap.size + 1 by rw [hW6, World.size_alloc])
  rw [← hW6]
  clear hW6 hb56 HB5 BL5 BM5 HQ5 HM5 HO5
  obtain ⟨gq, cap0q, hQe, hgq1, hgq2⟩ := HO6.out.squares.form (by rw [hl2]; omega)
  injection hQe with hQe1 hQe2 hQe3
  subst hQe1
  clear hQe2 hQe3 cap0q
  have hkv : k < lvs.length := by rw [HO6.out.lights.1, hl2]; exact hk
  have hkr : k < L.raw.squares.length := by rw [hl2]; exact hk
  have hzb : W4.heap.size + 2 ≤ W6.heap.size := by omega
  have HOP := Lib.hid (ROwn.light1 (show ROwn (W4.heap.size + 2) W6 _ (.slice (some ⟨gq, 0, none⟩) L.raw.squares.length d5) L.raw svs lvs by have h := HO6.out; rw [← hl2] at h; exact h) hkr x hzb)
  have HOQ := Lib.hid (show W6.ownsRow (W4.heap.size + 2) 39 1 (.slice (some ⟨gq, 0, none⟩) L.squares.length d5) L.squares.length lvs by have h := HO6.out.squares; rw [hl2] at h; exact h)
  have HL2 := Lib.hid hl2
  have s4 : W6.cell? ⟨w5.heap.size, 4, none⟩ = some (.slice (some ⟨gq, 0, none⟩) L.squares.length d5) := HX6.out.cell 4
  have sm0 : W6.cell? ⟨w.heap.size + 1, 0, none⟩ = some (.int .i64 xs) := BM6.out.cell 0
  have sm1 : W6.cell? ⟨w.heap.size + 1, 1, none⟩ = some (.int .i64 xe) := BM6.out.cell 1
  have s3 : W6.cell? ⟨w5.heap.size, 3, none⟩ = some (.int .i64 L.total) := HX6.out.cell 3
  have sq : W6.cell? ⟨gq, k, none⟩ = lvs[k]? := HOQ.out.cellAt k (by omega)
  rw [List.getElem?_eq_getElem hkv] at sq
  have fq := HOQ.out.frozenAt k
  have f3 := HX6.out.free 3
  have zo : w5.heap.size < W6.heap.size := z56
  have zg : gq < W6.heap.size := hgq2
  have k0 : (0 : Int) ≤ (k : Int) := by omega
  have k1 : (k : Int) < (L.squares.length : Int) := by omega
  obtain ⟨lvk, hlvk⟩ : ∃ lvk, lvk = lvs[k] := ⟨_, rfl⟩
  rw [← hlvk] at sq
  have hgo : gq ≠ w5.heap.size := by
    obtain ⟨qcs, hbq⟩ := own_blok HOQ.out rfl
    exact blok_ne hbq HX6.out (by decide)
  clear hlvk hl2 hl1 hkv hkr
  go_upto_region 7 with fail
  obtain ⟨W9, hW9⟩ : ∃ W9, W9 = ((W6.setCell ⟨gq, k, none⟩ (.slice (some ⟨W6.heap.size, 0, none⟩) 1 1)).setCell ⟨w5.heap.size, 3, none⟩ (.int .i64 40)).alloc (.cells #[.int .i64 xs, .int .i64 xe] 27) := ⟨_, rfl⟩
  rw [← hW9]
  have hE : W9 = ((W6.alloc (.cells #[.int .i64 xs, .int .i64 xe] 27)).setCell ⟨gq, k, none⟩ (.slice (some ⟨W6.heap.size, 0, none⟩) 1 1)).setCell ⟨w5.heap.size, 3, none⟩ (.int .i64 40) := by
    rw [hW9, World.setCell_alloc_past _ _ _ _ zg, World.setCell_alloc_past _ _ _ _ (by rw [setCell_size]; exact zo)]
  have hx6a := (HX6.out.alloc (.cells #[.int .i64 xs, .int .i64 xe] 27)).far (p := ⟨gq, k, none⟩) (fun e => hgo e.symm) (.slice (some ⟨W6.heap.size, 0, none⟩) 1 1)
  have hbw9 : Below (W4.heap.size + 2) W6 W9 := by
    rw [hE]
    exact (((Below.refl (W4.heap.size + 2) W6).alloc hzb _).setCell (p := ⟨gq, k, none⟩) hgq1 _).setCell (p := ⟨w5.heap.size, 3, none⟩) (by show W4.heap.size + 2 ≤ w5.heap.size; have := HS6.out; omega) _
  have hx9 : Blok W9 w5.heap.size 25 [.slice A5 L.hands.length c5, .int .i64 L.worn, .int .i64 L.scr, .int .i64 40, .slice (some ⟨gq, 0, none⟩) L.squares.length d5] := by
    rw [hE]
    exact hx6a.put 3 (.int .i64 40)
  have HX9 := Lib.hid hx9
  have HL9 := Lib.hid (show RLineAt W9 W9.heap.size (.agg #[.slice A5 L.hands.length c5, .int .i64 L.worn, .int .i64 L.scr, .int .i64 40, .slice (some ⟨gq, 0, none⟩) L.squares.length d5]) ((L.raw.withSquare k [x]).withTotal 40) by
    have h := (HOP.out.total (by rw [← HXS.out, ← HXE.out]; exact hx6a) 3 (.int .i64 40) 40).line
    rw [← HXS.out, ← HXE.out, ← hE, HL2.out] at h
    exact h)
  have hz9 := hbw9.size
  have HB9 := Lib.hid (HB6.out.trans (hbw9.mono (by omega)))
  have HV9 := Lib.hid (HV.out.keep (SameA.of_below HB9.out) HB9.out.size)
  have HM9 := Lib.hid (HM6.out.keep (SameA.of_below (hbw9.mono (by omega))) (show W4.heap.size ≤ W9.heap.size by have h : W6.heap.size ≤ W9.heap.size := hz9; omega))
  have HBL9 := Lib.hid (BL6.out.below hbw9 (by omega))
  have HBQ9 := Lib.hid (HQ6.out.below hbw9 (by omega))
  clear hE hW9 hx6a hbw9 hx9 HOP HOQ BL6 BM6 HM6 HX6 HO6 HQ6 HB6 s4 s3 sq sm0 sm1 fq f3 hgo lvk
  have a0 : W9.cell? ⟨w.heap.size, 0, none⟩ = some (.slice AH nh ch) := HBL9.out.cell 0
  have a1 : W9.cell? ⟨w.heap.size, 1, none⟩ = some (.int .i64 wn) := HBL9.out.cell 1
  have a2 : W9.cell? ⟨w.heap.size, 2, none⟩ = some (.int .i64 sc) := HBL9.out.cell 2
  have a3 : W9.cell? ⟨w.heap.size, 3, none⟩ = some (.int .i64 tt) := HBL9.out.cell 3
  have a4 : W9.cell? ⟨w.heap.size, 4, none⟩ = some (.slice AQ m cq) := HBL9.out.cell 4
  have b0 : W9.cell? ⟨w3.heap.size, 0, none⟩ = some (.slice (some ⟨hb, 0, none⟩) L.hands.length hc) := HBQ9.out.cell 0
  have b1 : W9.cell? ⟨w3.heap.size, 1, none⟩ = some (.int .i64 L.worn) := HBQ9.out.cell 1
  have b2 : W9.cell? ⟨w3.heap.size, 2, none⟩ = some (.int .i64 L.scr) := HBQ9.out.cell 2
  have b3 : W9.cell? ⟨w3.heap.size, 3, none⟩ = some (.int .i64 L.total) := HBQ9.out.cell 3
  have b4 : W9.cell? ⟨w3.heap.size, 4, none⟩ = some (.slice (some ⟨sb, 0, none⟩) L.squares.length sc3) := HBQ9.out.cell 4
  have d0 : W9.cell? ⟨w5.heap.size, 0, none⟩ = some (.slice A5 L.hands.length c5) := HX9.out.cell 0
  have d1 : W9.cell? ⟨w5.heap.size, 1, none⟩ = some (.int .i64 L.worn) := HX9.out.cell 1
  have d2 : W9.cell? ⟨w5.heap.size, 2, none⟩ = some (.int .i64 L.scr) := HX9.out.cell 2
  have d3 : W9.cell? ⟨w5.heap.size, 3, none⟩ = some (.int .i64 40) := HX9.out.cell 3
  have d4 : W9.cell? ⟨w5.heap.size, 4, none⟩ = some (.slice (some ⟨gq, 0, none⟩) L.squares.length d5) := HX9.out.cell 4
  have hbA : Below W9.heap.size W9 (W9.alloc (.cells #[.slice AH nh ch, .int .i64 wn, .int .i64 sc, .int .i64 tt, .slice AQ m cq, .slice (some ⟨hb, 0, none⟩) L.hands.length hc, .int .i64 L.worn, .int .i64 L.scr, .int .i64 L.total, .slice (some ⟨sb, 0, none⟩) L.squares.length sc3, .slice A5 L.hands.length c5, .int .i64 L.worn, .int .i64 L.scr, .int .i64 40, .slice (some ⟨gq, 0, none⟩) L.squares.length d5] 25)) := (Below.refl _ _).alloc (Nat.le_refl _) _
  have hba := Blok.new W9 25 [.slice AH nh ch, .int .i64 wn, .int .i64 sc, .int .i64 tt, .slice AQ m cq, .slice (some ⟨hb, 0, none⟩) L.hands.length hc, .int .i64 L.worn, .int .i64 L.scr, .int .i64 L.total, .slice (some ⟨sb, 0, none⟩) L.squares.length sc3, .slice A5 L.hands.length c5, .int .i64 L.worn, .int .i64 L.scr, .int .i64 40, .slice (some ⟨gq, 0, none⟩) L.squares.length d5]
  have HALL := Lib.hid (show AllL (W9.alloc (.cells #[.slice AH nh ch, .int .i64 wn, .int .i64 sc, .int .i64 tt, .slice AQ m cq, .slice (some ⟨hb, 0, none⟩) L.hands.length hc, .int .i64 L.worn, .int .i64 L.scr, .int .i64 L.total, .slice (some ⟨sb, 0, none⟩) L.squares.length sc3, .slice A5 L.hands.length c5, .int .i64 L.worn, .int .i64 L.scr, .int .i64 40, .slice (some ⟨gq, 0, none⟩) L.squares.length d5] 25)) (W9.heap.size + 1) W9.heap.size [R, L.raw, (L.raw.withSquare k [x]).withTotal 40] by
    intro i Ri hRi
    match i, hRi with
    | 0, hRi =>
      injection hRi with hRi
      subst hRi
      exact ⟨_, _, _, _, _, hba.cell 0, hba.cell 1, hba.cell 2, hba.cell 3, hba.cell 4, HV9.out.keep (SameA.of_below hbA) (Nat.le_succ _), HSM.out.small⟩
    | 1, hRi =>
      injection hRi with hRi
      subst hRi
      exact ⟨_, _, _, _, _, hba.cell 5, hba.cell 6, hba.cell 7, hba.cell 8, hba.cell 9, (HM9.out.keep (SameA.of_below hbA) (Nat.le_succ _)), HSL.out⟩
    | 2, hRi =>
      injection hRi with hRi
      subst hRi
      exact ⟨_, _, _, _, _, hba.cell 10, hba.cell 11, hba.cell 12, hba.cell 13, hba.cell 14, HL9.out.keep (SameA.of_below hbA) (Nat.le_succ _), small_one HOK.out k x⟩
    | _ + 3, hRi => exact absurd hRi (by simp))
  have HBA := Lib.hid (HB9.out.trans (hbA.mono HB9.out.size))
  clear hbA hba
  go_wp2_with fail
  obtain ⟨WA, hWA⟩ : ∃ WA, WA = W9.alloc (.cells #[.slice AH nh ch, .int .i64 wn, .int .i64 sc, .int .i64 tt, .slice AQ m cq, .slice (some ⟨hb, 0, none⟩) L.hands.length hc, .int .i64 L.worn, .int .i64 L.scr, .int .i64 L.total, .slice (some ⟨sb, 0, none⟩) L.squares.length sc3, .slice A5 L.hands.length c5, .int .i64 L.worn, .int .i64 L.scr, .int .i64 40, .slice (some ⟨gq, 0, none⟩) L.squares.length d5] 25) := ⟨_, rfl⟩
  have hsA : WA.heap.size = W9.heap.size + 1 := by rw [hWA, World.size_alloc]
  rw [← hWA] at HALL HBA ⊢
  obtain ⟨Rs, hRs⟩ : ∃ Rs, Rs = [R, L.raw, (L.raw.withSquare k [x]).withTotal 40] := ⟨_, rfl⟩
  have hRl : Rs.length = 3 := by rw [hRs]; rfl
  rw [← hRs] at HALL
  obtain ⟨gA, hgA⟩ : ∃ gA, gA = W9.heap.size := ⟨_, rfl⟩
  rw [← hgA] at HALL hsA ⊢
  rw [← hsA] at HALL
  have HRL := Lib.hid hRl
  have zA : gA < WA.heap.size := by omega
  clear hWA hRs hRl hgA hsA a0 a1 a2 a3 a4 b0 b1 b2 b3 b4 d0 d1 d2 d3 d4 HV HV9 HM9 HL9 HX9 HBL9 HBQ9 HB9 HXS HXE HSM HSL HOK HR0 HRW HU2 HB1 BL1 BM1 HL2 hgq1 hgq2 hz9 hm8 hm1 zo zg k0 k1 hk z56 z45 z34 z4 z3 hz2 z1 z0
  go_loopw [14] (fun si wr => ∃ i : Nat, i ≤ 3 ∧ si = .int .i64 i ∧ Hid (Below WA.heap.size WA wr)) (fun si _ => 3 - (intOf si).toNat)
  case atStart => exact ⟨0, by omega, rfl, Lib.hid (Below.refl _ _)⟩
  case round =>
    obtain ⟨i, hi, rfl, HW⟩ := hrel
    have zWr := HW.out.size
    by_cases hin : i < 3
    · obtain ⟨Ri, hRi⟩ : ∃ Ri, Rs[i]? = some Ri := ⟨_, List.getElem?_eq_getElem (by rw [HRL.out]; exact hin)⟩
      obtain ⟨x0, x1, x2, x3, x4, p0, p1, p2, p3, p4, hRL, hRS⟩ := HALL.out i Ri hRi
      obtain ⟨vhi, vsi, hform, ⟨Ai, ni, ki, rfl⟩, Bi, mi, li, rfl⟩ := hRL.form
      injection hform with hform
      simp only [Array.mk.injEq, List.cons.injEq, and_true] at hform
      obtain ⟨rfl, rfl, rfl, rfl, rfl⟩ := hform
      have HRA := Lib.hid (hRL.keep (SameA.of_below HW.out) zWr)
      have HRS := Lib.hid hRS.1
      have HSM := Lib.hid hRS
      obtain ⟨wn, hwn⟩ : ∃ wn, wn = Ri.worn := ⟨_, rfl⟩
      obtain ⟨sc, hsc⟩ : ∃ sc, sc = Ri.scr := ⟨_, rfl⟩
      obtain ⟨tt, htt⟩ : ∃ tt, tt = Ri.total := ⟨_, rfl⟩
      rw [← hwn] at p1 HRA
      rw [← hsc] at p2 HRA
      rw [← htt] at p3 HRA
      have HWN := Lib.hid hwn
      have HSC := Lib.hid hsc
      have HTT := Lib.hid htt
      have C0 := Lib.hid (bcell HW.out zA p0)
      have C1 := Lib.hid (bcell HW.out zA p1)
      have C2 := Lib.hid (bcell HW.out zA p2)
      have C3 := Lib.hid (bcell HW.out zA p3)
      have C4 := Lib.hid (bcell HW.out zA p4)
      have zAr : gA < wr.heap.size := by omega
      have i0 : (0 : Int) ≤ (i : Int) := by omega
      have i1 : (i : Int) < 3 := by omega
      clear hRi p0 p1 p2 p3 p4 hRL hRS hwn hsc htt
      have c0 := C0.out
      have c1 := C1.out
      have c2 := C2.out
      have c3 := C3.out
      have c4 := C4.out
      go_wp2_with fail
      refine (rcopy_any _ Ri wr HRA.out HSM.out).mono ?_
      rintro e w5 ⟨vh5, vq5, svs, lvs, rfl, ho5, hb5⟩
      have hol := OLine.of_own ho5
      obtain ⟨A5, c5, rfl⟩ := own_slice ho5.hands
      obtain ⟨Q5, d5, rfl⟩ := own_slice ho5.squares
      unfold rlineV at hol ⊢
      rw [← HWN.out, ← HSC.out, ← HTT.out] at hol ⊢
      obtain ⟨n5, hn5⟩ : ∃ n5, n5 = Ri.hands.length := ⟨_, rfl⟩
      obtain ⟨m5, hm5⟩ : ∃ m5, m5 = Ri.squares.length := ⟨_, rfl⟩
      rw [← hn5, ← hm5] at hol ⊢
      obtain ⟨W6, hW6⟩ : ∃ W6, W6 = w5.alloc (.cells #[.slice A5 n5 c5, .int .i64 wn, .int .i64 sc, .int .i64 tt, .slice Q5 m5 d5] 25) := ⟨_, rfl⟩
      have HL6 := Lib.hid (show LawI wr W6 w5.heap.size [.slice A5 n5 c5, .int .i64 wn, .int .i64 sc, .int .i64 tt, .slice Q5 m5 d5] Ri by rw [hW6]; exact ⟨Blok.new w5 _ _, hol.keep ((Below.refl _ _).alloc (Nat.le_refl _) _), hb5.alloc hb5.size _⟩)
      clear hol ho5 hb5 hn5 hm5 c0 c1 c2 c3 c4
      go_wp2_with fail
      rw [← hW6]
      clear hW6
      have o0 : W6.cell? ⟨w5.heap.size, 0, none⟩ = some (.slice A5 n5 c5) := HL6.out.own.cell 0
      have o1 : W6.cell? ⟨w5.heap.size, 1, none⟩ = some (.int .i64 wn) := HL6.out.own.cell 1
      have o2 : W6.cell? ⟨w5.heap.size, 2, none⟩ = some (.int .i64 sc) := HL6.out.own.cell 2
      have o3 : W6.cell? ⟨w5.heap.size, 3, none⟩ = some (.int .i64 tt) := HL6.out.own.cell 3
      have o4 : W6.cell? ⟨w5.heap.size, 4, none⟩ = some (.slice Q5 m5 d5) := HL6.out.own.cell 4
      have c0 := bcell HL6.out.bel zAr C0.out
      have c1 := bcell HL6.out.bel zAr C1.out
      have c2 := bcell HL6.out.bel zAr C2.out
      have c3 := bcell HL6.out.bel zAr C3.out
      have c4 := bcell HL6.out.bel zAr C4.out
      go_wp2_with fail
      refine (sPrint_u HL6.out.line).mono ?_
      rintro e W7 ⟨rfl, hb7⟩
      have HL7 := Lib.hid (HL6.out.below hb7)
      clear o0 o1 o2 o3 o4 c0 c1 c2 c3 c4
      clear hb7 HL6
      have o0 : W7.cell? ⟨w5.heap.size, 0, none⟩ = some (.slice A5 n5 c5) := HL7.out.own.cell 0
      have o1 : W7.cell? ⟨w5.heap.size, 1, none⟩ = some (.int .i64 wn) := HL7.out.own.cell 1
      have o2 : W7.cell? ⟨w5.heap.size, 2, none⟩ = some (.int .i64 sc) := HL7.out.own.cell 2
      have o3 : W7.cell? ⟨w5.heap.size, 3, none⟩ = some (.int .i64 tt) := HL7.out.own.cell 3
      have o4 : W7.cell? ⟨w5.heap.size, 4, none⟩ = some (.slice Q5 m5 d5) := HL7.out.own.cell 4
      have c0 := bcell HL7.out.bel zAr C0.out
      have c1 := bcell HL7.out.bel zAr C1.out
      have c2 := bcell HL7.out.bel zAr C2.out
      have c3 := bcell HL7.out.bel zAr C3.out
      have c4 := bcell HL7.out.bel zAr C4.out
      go_wp2_with fail
      refine (rPrint_u (HRA.out.keep (SameA.of_below HL7.out.bel) HL7.out.bel.size)).mono ?_
      rintro e W8 ⟨rfl, hb8⟩
      have HL8 := Lib.hid (HL7.out.below hb8)
      clear o0 o1 o2 o3 o4 c0 c1 c2 c3 c4
      clear hb8 HL7
      have o0 : W8.cell? ⟨w5.heap.size, 0, none⟩ = some (.slice A5 n5 c5) := HL8.out.own.cell 0
      have o1 : W8.cell? ⟨w5.heap.size, 1, none⟩ = some (.int .i64 wn) := HL8.out.own.cell 1
      have o2 : W8.cell? ⟨w5.heap.size, 2, none⟩ = some (.int .i64 sc) := HL8.out.own.cell 2
      have o3 : W8.cell? ⟨w5.heap.size, 3, none⟩ = some (.int .i64 tt) := HL8.out.own.cell 3
      have o4 : W8.cell? ⟨w5.heap.size, 4, none⟩ = some (.slice Q5 m5 d5) := HL8.out.own.cell 4
      have c0 := bcell HL8.out.bel zAr C0.out
      have c1 := bcell HL8.out.bel zAr C1.out
      have c2 := bcell HL8.out.bel zAr C2.out
      have c3 := bcell HL8.out.bel zAr C3.out
      have c4 := bcell HL8.out.bel zAr C4.out
      go_wp2_with fail
      refine (sMarks_u HL8.out.line).mono ?_
      rintro e W9 ⟨rfl, hb9⟩
      have HL9 := Lib.hid (HL8.out.below hb9)
      clear o0 o1 o2 o3 o4 c0 c1 c2 c3 c4
      clear hb9 HL8
      have o0 : W9.cell? ⟨w5.heap.size, 0, none⟩ = some (.slice A5 n5 c5) := HL9.out.own.cell 0
      have o1 : W9.cell? ⟨w5.heap.size, 1, none⟩ = some (.int .i64 wn) := HL9.out.own.cell 1
      have o2 : W9.cell? ⟨w5.heap.size, 2, none⟩ = some (.int .i64 sc) := HL9.out.own.cell 2
      have o3 : W9.cell? ⟨w5.heap.size, 3, none⟩ = some (.int .i64 tt) := HL9.out.own.cell 3
      have o4 : W9.cell? ⟨w5.heap.size, 4, none⟩ = some (.slice Q5 m5 d5) := HL9.out.own.cell 4
      have c0 := bcell HL9.out.bel zAr C0.out
      have c1 := bcell HL9.out.bel zAr C1.out
      have c2 := bcell HL9.out.bel zAr C2.out
      have c3 := bcell HL9.out.bel zAr C3.out
      have c4 := bcell HL9.out.bel zAr C4.out
      go_wp2_with fail
      refine (rMarks_u (HRA.out.keep (SameA.of_below HL9.out.bel) HL9.out.bel.size)).mono ?_
      rintro e W10 ⟨rfl, hb10⟩
      have HL10 := Lib.hid (HL9.out.below hb10)
      clear o0 o1 o2 o3 o4 c0 c1 c2 c3 c4
      clear hb10 HL9
      have o0 : W10.cell? ⟨w5.heap.size, 0, none⟩ = some (.slice A5 n5 c5) := HL10.out.own.cell 0
      have o1 : W10.cell? ⟨w5.heap.size, 1, none⟩ = some (.int .i64 wn) := HL10.out.own.cell 1
      have o2 : W10.cell? ⟨w5.heap.size, 2, none⟩ = some (.int .i64 sc) := HL10.out.own.cell 2
      have o3 : W10.cell? ⟨w5.heap.size, 3, none⟩ = some (.int .i64 tt) := HL10.out.own.cell 3
      have o4 : W10.cell? ⟨w5.heap.size, 4, none⟩ = some (.slice Q5 m5 d5) := HL10.out.own.cell 4
      have c0 := bcell HL10.out.bel zAr C0.out
      have c1 := bcell HL10.out.bel zAr C1.out
      have c2 := bcell HL10.out.bel zAr C2.out
      have c3 := bcell HL10.out.bel zAr C3.out
      have c4 := bcell HL10.out.bel zAr C4.out
      go_upto_region 16 with fail
      have zox := HL10.out.own.size
      have zgx : gA < W10.heap.size := Nat.lt_of_lt_of_le zAr HL10.out.bel.size
      have HSL := Lib.hid (fun (W : World) (hW : Below W10.heap.size W10 W) => rsame_any _ _ Ri W (HL10.out.line.keep hW).1 (HRA.out.keep (SameA.of_below (HL10.out.bel.trans (hW.mono HL10.out.bel.size))) (HL10.out.bel.trans (hW.mono HL10.out.bel.size)).size) HSM.out)
      have HB0 := Lib.hid ((Below.refl W10.heap.size W10).drew)
      go_cut [114] (fun s114 wc => s114 = .bool false ∧ Hid (Below W10.heap.size W10 wc))
      case first =>
        go_region_held3 (fun W' => W'.cell? ⟨w5.heap.size, 0, none⟩ = some (.slice A5 n5 c5) ∧ W'.cell? ⟨w5.heap.size, 1, none⟩ = some (.int .i64 wn) ∧ W'.cell? ⟨w5.heap.size, 2, none⟩ = some (.int .i64 sc) ∧ W'.cell? ⟨w5.heap.size, 3, none⟩ = some (.int .i64 tt) ∧ W'.cell? ⟨w5.heap.size, 4, none⟩ = some (.slice Q5 m5 d5) ∧ W'.cell? ⟨gA, i * 5, none⟩ = some (.slice Ai ni ki) ∧ W'.cell? ⟨gA, i * 5 + 1, none⟩ = some (.int .i64 wn) ∧ W'.cell? ⟨gA, i * 5 + 2, none⟩ = some (.int .i64 sc) ∧ W'.cell? ⟨gA, i * 5 + 3, none⟩ = some (.int .i64 tt) ∧ W'.cell? ⟨gA, i * 5 + 4, none⟩ = some (.slice Bi mi li))
          (first
            | exact ⟨o0, o1, o2, o3, o4, c0, c1, c2, c3, c4⟩
            | exact ⟨bcell HBg.out zox o0, bcell HBg.out zox o1, bcell HBg.out zox o2, bcell HBg.out zox o3, bcell HBg.out zox o4, bcell HBg.out zgx c0, bcell HBg.out zgx c1, bcell HBg.out zgx c2, bcell HBg.out zgx c3, bcell HBg.out zgx c4⟩
            | exact ⟨bcell HB0.out zox o0, bcell HB0.out zox o1, bcell HB0.out zox o2, bcell HB0.out zox o3, bcell HB0.out zox o4, bcell HB0.out zgx c0, bcell HB0.out zgx c1, bcell HB0.out zgx c2, bcell HB0.out zgx c3, bcell HB0.out zgx c4⟩
            | go_keep)
          (first
            | (go_at_call 29; (with_reducible refine (HSL.out _ HB0.out).mono ?_); rintro e wg ⟨rfl, hbwg⟩; have HBg := Lib.hid (HB0.out.trans (hbwg.mono HB0.out.size))))
        all_goals
          go_wp2_with fail
          go_meet
          exact ⟨rfl, HBg⟩
      case rest =>
        obtain ⟨rfl, HBc⟩ := hcut
        clear o0 o1 o2 o3 o4 c0 c1 c2 c3 c4
        have HWc := Lib.hid (HW.out.trans ((HL10.out.bel.trans (HBc.out.mono HL10.out.bel.size)).mono zWr))
        go_wp2_with fail
        exact ⟨⟨i + 1, by omega, by go_num, HWc⟩, by simp [intOf]; omega⟩
    · obtain rfl : i = 3 := by omega
      go_wp2_with fail
      refine (ready_any Unit _).mono ?_
      rintro e w8 ⟨rfl, hb8⟩
      have HB8 := Lib.hid (HBA.out.trans ((HW.out.trans (hb8.mono zWr)).mono HBA.out.size))
      clear hb8
      go_wp2_with fail
      go_ret
      exact ⟨rfl, HB8.out⟩
end Go.Proofs.Ythhajbgddifenaa
