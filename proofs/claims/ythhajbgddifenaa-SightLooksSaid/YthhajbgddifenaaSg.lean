/- The laws' helpers: Wrap; all lines of a law. · SightFits's walk. -/
import Derived.Test.YthhajbgddifenaaSd
import Derived.Test.YthhajbgddifenaaRi
import Derived.Test.YthhajbgddifenaaSp
import Derived.Test.YthhajbgddifenaaV
import Derived.Test.YthhajbgddifenaaYn
import Derived.Test.YthhajbgddifenaaIw
import Derived.Deep.DeepCutAuto
namespace Go.Proofs.Ythhajbgddifenaa
section
open Go.RowKit Go.Shelf

set_option maxHeartbeats 1000000 in
theorem wrap_any (a : Int) (n : Nat) (w : World) (h1 : 1 ≤ n) (hn : n ≤ 100) (ha : -9223372036854775808 ≤ a ∧ a ≤ 9223372036854775807) :
    Calls Try.prog 18 #[.int .i64 a, .int .i64 n] w fun e w' => (∃ k : Nat, k < n ∧ e = .returned (.int .i64 k)) ∧ w = w' := by
  obtain ⟨a1, a2⟩ := ha
  by_cases h2 : n < 2
  · go_enter Try.func18, Try.ntmps18
    go_wp2
    go_ret
    exact ⟨⟨0, by omega, rfl⟩, rfl⟩
  · have n0 : (0 : Int) < (n : Int) := by omega
    have b1 := Int.tmod_lt_of_pos a n0
    have b2 := Int.lt_tmod_of_pos a n0
    obtain ⟨r, hr⟩ : ∃ r, r = a.tmod n := ⟨_, rfl⟩
    rw [← hr] at b1 b2
    have e1 : (r + (n : Int)).tmod n = (r + (n : Int)) % n := Int.tmod_eq_emod_of_nonneg (by omega)
    have e2 := Int.emod_nonneg (r + (n : Int)) (show (n : Int) ≠ 0 by omega)
    have e3 := Int.emod_lt_of_pos (r + (n : Int)) n0
    have HR := Lib.hid hr
    have HE := Lib.hid e1
    obtain ⟨k, hk⟩ : ∃ k : Nat, (k : Int) = (r + (n : Int)) % n := ⟨((r + (n : Int)) % n).toNat, by omega⟩
    have hkn : k < n := by omega
    have HK := Lib.hid hk
    have t0 : ((n : Int) == 0) = false := by rw [beq_eq_false_iff_ne]; omega
    have t1 : ((n : Int) == -1) = false := by rw [beq_eq_false_iff_ne]; omega
    clear hr e1 e2 e3 hk
    go_enter Try.func18, Try.ntmps18
    go_wp2
    go_ret
    refine ⟨⟨k, hkn, ?_⟩, rfl⟩
    have hw : wrap64 (a.tmod n + n) = a.tmod n + n := by rw [← HR.out]; exact IntWalk.wrap64_in _ (by omega)
    show Ending.returned (.int .i64 ((wrap64 (a.tmod n + n)).tmod n)) = _
    rw [hw, ← HR.out, HE.out, ← HK.out]
end
section
open Go.RowKit Go.Shelf

/-- Within a round: the copy of the line, in a box. -/
structure LawI (wr wx : World) (ob : Nat) (ov : List Value) (R : RLine) : Prop where
  own : Blok wx ob 25 ov
  line : OLine wx (.agg ov.toArray) R
  bel : Below wr.heap.size wr wx
theorem LawI.below {wr wx wy : World} {ob : Nat} {ov : List Value} {R : RLine} (h : LawI wr wx ob ov R) (hb : Below wx.heap.size wx wy) : LawI wr wy ob ov R :=
  ⟨h.own.below hb h.own.size, h.line.keep hb, h.bel.trans (hb.mono h.bel.size)⟩
theorem LawI.alloc {wr wx : World} {ob : Nat} {ov : List Value} {R : RLine} (h : LawI wr wx ob ov R) (o : Obj) : LawI wr (wx.alloc o) ob ov R := h.below ((Below.refl _ _).alloc (Nat.le_refl _) _)
theorem Texts.keep {w w' : World} {B B' : Nat} {v : Value} {l : List ByteArray} (h : Texts w B v l) (hs : Same B w w') (hB : B ≤ B') : Texts w' B' v l :=
  Sl.mono h hB fun b o hb hr k s hk => by rw [hs b _ hb]; exact hr k s hk
theorem hList_len (R : RLine) : (hList R).length ≤ 100 := by
  unfold hList
  split
  · simp
  · rename_i h
    exact hands_le _ (line_of (Decidable.of_not_not h)).1
theorem tList_len (R : RLine) : (tList R).length ≤ 100 := by
  unfold tList
  split
  · simp
  · rename_i h
    have h1 : lineErr R = 0 := Decidable.of_not_not fun e => h (.inl e)
    have := (line_of h1).1.2.2.2.2.2.2.2.1
    rw [lettersOf_len]
    omega
theorem sameTexts_yes {va vb : Value} {xs : List ByteArray} (w : World) (hn : xs.length ≤ 100) (ha : Texts w w.heap.size va xs) (hb : Texts w w.heap.size vb xs) :
    Calls Try.prog 28 #[va, vb] w fun e w' => e = .returned (.bool true) ∧ Below w.heap.size w w' :=
  (sameTexts_any va vb xs xs _ w (Nat.le_refl _) hn hn ha hb).mono fun e w' ⟨he, hb⟩ => ⟨by rw [he, decide_eq_true rfl], hb⟩
theorem small_ok {L : Line} (h : L.ok) : RSmall L.raw := by
  obtain ⟨h1, h2, h3, h4, h5, h6, h7, h8, h9⟩ := h
  refine ⟨by simp [Line.raw]; omega, fun r hr => ?_, by simp [Line.raw]; omega, fun q hq => ?_⟩
  · obtain ⟨y, hy, rfl⟩ := List.mem_map.1 hr
    have := (h3 y hy).2.2.2.2.1
    simp [Hand.raw]
    omega
  · obtain ⟨y, hy, rfl⟩ := List.mem_map.1 hq
    have := (h9 y hy).1
    simp
    omega
theorem small_light {L : Line} (h : L.ok) {k : Nat} {q : List RLight} (hq : L.raw.squares[k]? = some q) (x : RLight) : RSmall (L.raw.withSquare k (q ++ [x])) := by
  have hs := small_ok h
  refine ⟨hs.hands, hs.shapes, by show (L.raw.squares.set k _).length ≤ 100; rw [List.length_set]; exact hs.squares, fun y hy => ?_⟩
  rcases List.mem_or_eq_of_mem_set hy with hy | rfl
  · exact hs.lights y hy
  · obtain ⟨y0, hy0, rfl⟩ := List.mem_map.1 (List.mem_of_getElem? hq)
    have := (h.2.2.2.2.2.2.2.2 y0 hy0).1
    simp
    omega
set_option maxRecDepth 100000 in
set_option maxHeartbeats 4000000 in
theorem fits_walk (v : Value) (R : RLine) (x : RLight) (at_ : Int) (a0 : Option Addr) (len0 cap0 : Nat) (w : World) (hv : RLineAt w w.heap.size v R) (hat : -9223372036854775808 ≤ at_ ∧ at_ ≤ 9223372036854775807) (hr : NumRow w a0 len0) :
    Calls Try.prog 3 #[v, .agg #[.int .i64 x.shows, .int .i64 x.seen], .int .i64 at_, .slice a0 len0 cap0] w (EnoughPost w) := by
  have HV := Lib.hid hv
  obtain ⟨vh, vs, rfl, ⟨AH, nh, ch, rfl⟩, AQ, m, cq, rfl⟩ := hv.form
  obtain ⟨wn, hwn⟩ : ∃ wn, wn = R.worn := ⟨_, rfl⟩
  obtain ⟨sc, hsc⟩ : ∃ sc, sc = R.scr := ⟨_, rfl⟩
  obtain ⟨tt, htt⟩ : ∃ tt, tt = R.total := ⟨_, rfl⟩
  obtain ⟨xs, hxs⟩ : ∃ xs, xs = x.shows := ⟨_, rfl⟩
  obtain ⟨xe, hxe⟩ : ∃ xe, xe = x.seen := ⟨_, rfl⟩
  rw [← hwn, ← hsc, ← htt] at HV ⊢
  rw [← hxs, ← hxe]
  have HXS := Lib.hid hxs
  have HXE := Lib.hid hxe
  have HR0 := Lib.hid hr
  clear hv hwn hsc htt hxs hxe hr
  go_enter Try.func3, Try.ntmps3
  go_wp2_with fail
  obtain ⟨W0, hW0⟩ : ∃ W0, W0 = (w.alloc (.cells #[.slice AH nh ch, .int .i64 wn, .int .i64 sc, .int .i64 tt, .slice AQ m cq] 25)).alloc (.cells #[.int .i64 xs, .int .i64 xe] 27) := ⟨_, rfl⟩
  have hb0 : Below w.heap.size w W0 := by rw [hW0]; exact ((Below.refl _ _).alloc (Nat.le_refl _) _).alloc (by simp) _
  have bl0 : Blok W0 w.heap.size 25 [.slice AH nh ch, .int .i64 wn, .int .i64 sc, .int .i64 tt, .slice AQ m cq] := by rw [hW0]; exact (Blok.new w _ _).alloc _
  have bm0 : Blok W0 (w.heap.size + 1) 27 [.int .i64 xs, .int .i64 xe] := by
    rw [hW0]
    have b := Blok.new (w.alloc (.cells #[.slice AH nh ch, .int .i64 wn, .int .i64 sc, .int .i64 tt, .slice AQ m cq] 25)) 27 [.int .i64 xs, .int .i64 xe]
    rw [World.size_alloc] at b
    exact b
  have HB0 := Lib.hid hb0
  have BL0 := Lib.hid bl0
  have BM0 := Lib.hid bm0
  have z0 := bm0.size
  rw [← hW0]
  clear hW0 hb0 bl0 bm0
  refine (large_any _ R W0 (HV.out.keep (SameA.of_below HB0.out) HB0.out.size)).mono ?_
  rintro e w1 ⟨lg, rfl, hlg, hb1⟩
  have HB1 := Lib.hid (HB0.out.trans (hb1.mono HB0.out.size))
  have BL1 := Lib.hid (BL0.out.below hb1 BL0.out.size)
  have BM1 := Lib.hid (BM0.out.below hb1 BM0.out.size)
  have z1 : w.heap.size + 1 < w1.heap.size := BM1.out.size
  clear hb1
  cases lg with
  | true =>
    clear hlg HV HB0 BL0 BM0
    go_wp2_with fail
    refine (ready_any Unit _).mono ?_
    rintro e w8 ⟨rfl, hb8⟩
    have HB8 := Lib.hid (HB1.out.trans (hb8.mono HB1.out.size))
    clear hb8
    go_wp2_with fail
    go_ret
    exact ⟨rfl, HB8.out⟩
  | false =>
  have HSM := Lib.hid (hlg rfl)
  have HRW := Lib.hid (show NumRow w1 a0 len0 from ⟨HR0.out.1, fun h => by
    obtain ⟨y, e, hy⟩ := HR0.out.2 h
    refine ⟨y, e, fun i hi => ?_⟩
    obtain ⟨n, hn⟩ := hy i hi
    exact ⟨n, (HB1.out.cell (p := y.add i) (World.block_lt_of_cell? w _ hn)).trans hn⟩⟩)
  clear hlg HB0 BL0 BM0
  go_wp2_with fail
  refine (newUrn_any _ _ _ _ HRW.out).mono ?_
  rintro e w2 ⟨rfl, hu2, hb2⟩
  have HB2 := Lib.hid (HB1.out.trans (hb2.mono HB1.out.size))
  have BL2 := Lib.hid (BL1.out.below hb2 BL1.out.size)
  have BM2 := Lib.hid (BM1.out.below hb2 BM1.out.size)
  have HU2 := Lib.hid hu2
  have hz2 := hb2.size
  clear hb2 hu2
  go_wp2_with fail
  refine (lineOf_any _ 3 4 5 _ (by omega) (by omega) (by omega) (by omega) (by omega) (by omega) HU2.out).mono ?_
  rintro e w3 ⟨L, lv, vv, hand, ks, vis, lts, H, rfl, hlb, hok, -, -, -, -, -, -, -, hvv, -, -, hk3⟩
  obtain ⟨vb, vc, vcur, rfl, -⟩ := hvv
  have hne : w1.heap.size ≠ w.heap.size := by omega
  have hne1 : w1.heap.size ≠ w.heap.size + 1 := by omega
  have HB3 := Lib.hid (HB2.out.trans (hk3.below HB2.out.size (show w.heap.size ≤ w1.heap.size by omega)))
  have BL3 := Lib.hid (BL2.out.kg hk3 (fun e => hne e.symm))
  have BM3 := Lib.hid (BM2.out.kg hk3 (fun e => hne1 e.symm))
  have HLB := Lib.hid hlb
  have HOK := Lib.hid hok
  have z3 : w.heap.size + 1 < w3.heap.size := BM3.out.size
  obtain ⟨vh3, vs3, rfl, hhb, hsb⟩ := hlb
  obtain ⟨hb, hc, hcur, hsvs, rfl, -⟩ := id hhb
  obtain ⟨sb, sc3, scur, slvs, rfl, -⟩ := id hsb
  clear hhb hsb hok hk3 HB2 BL2 BM2
  go_wp2_with fail
  obtain ⟨W4, hW4⟩ : ∃ W4, W4 = (w3.alloc (.cells #[.slice (some ⟨hb, 0, none⟩) L.hands.length hc, .int .i64 L.worn, .int .i64 L.scr, .int .i64 L.total, .slice (some ⟨sb, 0, none⟩) L.squares.length sc3] 25)).alloc (.cells #[.int .i64 hand, .string lts, .slice (some ⟨vb, 0, none⟩) vis.length vc] 32) := ⟨_, rfl⟩
  have hb34 : Below w3.heap.size w3 W4 := by rw [hW4]; exact ((Below.refl _ _).alloc (Nat.le_refl _) _).alloc (by simp) _
  have HQ4 := Lib.hid (show Blok W4 w3.heap.size 25 [.slice (some ⟨hb, 0, none⟩) L.hands.length hc, .int .i64 L.worn, .int .i64 L.scr, .int .i64 L.total, .slice (some ⟨sb, 0, none⟩) L.squares.length sc3] by rw [hW4]; exact (Blok.new w3 _ _).alloc _)
  have HB4 := Lib.hid (HB3.out.trans (hb34.mono HB3.out.size))
  have BL4 := Lib.hid (BL3.out.below hb34 BL3.out.size)
  have BM4 := Lib.hid (BM3.out.below hb34 BM3.out.size)
  have HM4 := Lib.hid (show RLineAt W4 W4.heap.size (.agg #[.slice (some ⟨hb, 0, none⟩) L.hands.length hc, .int .i64 L.worn, .int .i64 L.scr, .int .i64 L.total, .slice (some ⟨sb, 0, none⟩) L.squares.length sc3]) L.raw from HLB.out.raw.keep (SameA.of_below hb34) hb34.size)
  have HSL := Lib.hid (small_ok HOK.out)
  have z4 := HQ4.out.size
  have z34 : w3.heap.size ≤ W4.heap.size := hb34.size
  rw [← hW4]
  clear hW4 hb34 HLB HB3 BL3 BM3
  refine (rcopy_any _ L.raw W4 HM4.out HSL.out).mono ?_
  rintro e w5 ⟨vh5, vq5, svs, lvs, rfl, ho5, hb5⟩
  obtain ⟨A5, c5, rfl⟩ := own_slice ho5.hands
  obtain ⟨Q5, d5, rfl⟩ := own_slice ho5.squares
  have HB5 := Lib.hid (HB4.out.trans (hb5.mono HB4.out.size))
  have BL5 := Lib.hid (BL4.out.below hb5 BL4.out.size)
  have BM5 := Lib.hid (BM4.out.below hb5 BM4.out.size)
  have HQ5 := Lib.hid (HQ4.out.below hb5 HQ4.out.size)
  have HM5 := Lib.hid (HM4.out.keep (SameA.of_below hb5) (Nat.le_refl W4.heap.size))
  have HO5 := Lib.hid ho5
  have z45 : W4.heap.size ≤ w5.heap.size := hb5.size
  have hm8 : L.squares.length ≤ 8 := HOK.out.2.2.2.2.2.2.2.1
  have hm1 : 1 ≤ L.squares.length := HOK.out.2.2.2.2.2.2.1
  have hl1 : L.raw.hands.length = L.hands.length := by simp [Line.raw]
  have hl2 : L.raw.squares.length = L.squares.length := by simp [Line.raw]
  have e1 : L.raw.worn = (L.worn : Int) := rfl
  have e2 : L.raw.scr = (L.scr : Int) := rfl
  have e3 : L.raw.total = (L.total : Int) := rfl
  unfold rlineV
  rw [hl1, hl2, e1, e2, e3]
  rw [hl1, hl2] at HO5
  clear hb5 ho5 HB4 BL4 BM4 HQ4 HM4 e1 e2 e3
  go_wp2_with fail
  refine (wrap_any at_ L.squares.length _ hm1 (by omega) hat).mono ?_
  rintro e w6 ⟨⟨k, hk, rfl⟩, rfl⟩
  obtain ⟨W6, hW6⟩ : ∃ W6, W6 = w5.alloc (.cells #[.slice A5 L.hands.length c5, .int .i64 L.worn, .int .i64 L.scr, .int .i64 L.total, .slice Q5 L.squares.length d5] 25) := ⟨_, rfl⟩
  have hb56 : Below w5.heap.size w5 W6 := by rw [hW6]; exact (Below.refl _ _).alloc (Nat.le_refl _) _
  have HX6 := Lib.hid (show Blok W6 w5.heap.size 25 [.slice A5 L.hands.length c5, .int .i64 L.worn, .int .i64 L.scr, .int .i64 L.total, .slice Q5 L.squares.length d5] by rw [hW6]; exact Blok.new w5 _ _)
  have HB6 := Lib.hid (HB5.out.trans (hb56.mono HB5.out.size))
  have BL6 := Lib.hid (BL5.out.below hb56 BL5.out.size)
  have BM6 := Lib.hid (BM5.out.below hb56 BM5.out.size)
  have HQ6 := Lib.hid (HQ5.out.below hb56 HQ5.out.size)
  have HM6 := Lib.hid (HM5.out.keep (SameA.of_below (hb56.mono z45)) (Nat.le_refl W4.heap.size))
  have HO6 := Lib.hid (HO5.out.below hb56)
  have z56 : w5.heap.size < W6.heap.size := HX6.out.size
  rw [← hW6]
  clear hW6 hb56 HB5 BL5 BM5 HQ5 HM5 HO5
  obtain ⟨gq, cap0q, hQe, hgq1, hgq2⟩ := HO6.out.squares.form (by rw [hl2]; omega)
  injection hQe with hQe1 hQe2 hQe3
  subst hQe1
  clear hQe2 hQe3 cap0q
  have hkv : k < lvs.length := by rw [HO6.out.lights.1, hl2]; exact hk
  have hkr : k < L.raw.squares.length := by rw [hl2]; exact hk
  obtain ⟨q, hqe⟩ : ∃ q, q = L.raw.squares[k] := ⟨_, rfl⟩
  have hqk : L.raw.squares[k]? = some q := by rw [hqe]; exact List.getElem?_eq_getElem hkr
  have hol := HO6.out.lights.2.1 k q lvs[k] hqk (List.getElem?_eq_getElem hkv)
  obtain ⟨Aq, cq2, hAq⟩ := own_slice hol
  rw [hAq] at hol
  have hq4 : q.length ≤ 100 := HSL.out.lights q (List.mem_of_getElem? hqk)
  obtain ⟨nq, hnq⟩ : ∃ nq, nq = q.length := ⟨_, rfl⟩
  rw [← hnq] at hol hq4 hAq
  have HNQ := Lib.hid hnq
  have HLV := Lib.hid (show lvs[k]? = some (.slice Aq nq cq2) by rw [List.getElem?_eq_getElem hkv, hAq])
  have HQK := Lib.hid hqk
  have HOL := Lib.hid (show W6.drew.ownsRow (W4.heap.size + 2) 27 2 (.slice Aq nq cq2) nq (rltCells q) from hol)
  have HOQ := Lib.hid (show W6.drew.ownsRow (W4.heap.size + 2) 39 1 (.slice (some ⟨gq, 0, none⟩) L.squares.length d5) L.squares.length lvs by have h := HO6.out.squares; rw [hl2] at h; exact h)
  have HXD := Lib.hid (show Blok W6.drew w5.heap.size 25 [.slice A5 L.hands.length c5, .int .i64 L.worn, .int .i64 L.scr, .int .i64 L.total, .slice (some ⟨gq, 0, none⟩) L.squares.length d5] from HX6.out)
  have HL2 := Lib.hid hl2
  have HL1 := Lib.hid hl1
  have s4 : W6.cell? ⟨w5.heap.size, 4, none⟩ = some (.slice (some ⟨gq, 0, none⟩) L.squares.length d5) := HX6.out.cell 4
  have sq : W6.cell? ⟨gq, k, none⟩ = some (.slice Aq nq cq2) := by
    rw [(show W6.ownsRow (W4.heap.size + 2) 39 1 (.slice (some ⟨gq, 0, none⟩) L.squares.length d5) L.squares.length lvs from HOQ.out).cellAt k (by omega)]
    exact HLV.out
  have sm0 : W6.cell? ⟨w.heap.size + 1, 0, none⟩ = some (.int .i64 xs) := BM6.out.cell 0
  have sm1 : W6.cell? ⟨w.heap.size + 1, 1, none⟩ = some (.int .i64 xe) := BM6.out.cell 1
  have zo : w5.heap.size < W6.heap.size := z56
  have zg : gq < W6.heap.size := hgq2
  have zm : w.heap.size + 1 < W6.heap.size := by omega
  have zmb : w.heap.size + 1 < W4.heap.size + 2 := by omega
  have zb : W4.heap.size + 2 ≤ W6.drew.heap.size := by show W4.heap.size + 2 ≤ W6.heap.size; omega
  have k0 : (0 : Int) ≤ (k : Int) := by omega
  have k1 : (k : Int) < (L.squares.length : Int) := by omega
  obtain ⟨il, hil, hil0, hil1, hil2⟩ := info_parts info_cplight
  have HIL := Lib.hid hil
  have HIL0 := Lib.hid hil0
  have HIL1 := Lib.hid hil1
  have HIL2 := Lib.hid hil2
  clear hol hqk hqe hAq hnq hil hil0 hil1 hil2 hl2 hl1 hkv hkr
  go_wp2_with fail
  have hS : (fun W' => W'.cell? ⟨w5.heap.size, 4, none⟩ = some (.slice (some ⟨gq, 0, none⟩) L.squares.length d5) ∧ W'.cell? ⟨gq, k, none⟩ = some (.slice Aq nq cq2) ∧ W'.cell? ⟨w.heap.size + 1, 0, none⟩ = some (.int .i64 xs) ∧ W'.cell? ⟨w.heap.size + 1, 1, none⟩ = some (.int .i64 xe)) W6.drew := ⟨s4, sq, sm0, sm1⟩
  refine wp_region_t (fun W' => W'.cell? ⟨w5.heap.size, 4, none⟩ = some (.slice (some ⟨gq, 0, none⟩) L.squares.length d5) ∧ W'.cell? ⟨gq, k, none⟩ = some (.slice Aq nq cq2) ∧ W'.cell? ⟨w.heap.size + 1, 0, none⟩ = some (.int .i64 xs) ∧ W'.cell? ⟨w.heap.size + 1, 1, none⟩ = some (.int .i64 xe)) (fun j => j == 12) (by kernel_rfl) ?_
  refine wpAnyT_take (i := 0) (v := ?_) (by simp only [List.getElem?_toArray, List.getElem?_cons_zero]; rfl) (by kernel_rfl) (by kernel_rfl) (by kernel_rfl) (by kernel_rfl) (by exact fun _ _ _ h => h) (Or.inl ⟨by rfl, ?hya0⟩) hS ?resta0
  case hya0 => (intro W' hSW; obtain ⟨x1, x2, x3, x4⟩ := hSW; go_simp; try with_reducible rfl)
  try simp only [Act.put, List.setIfInBounds_toArray, List.set_cons_zero, List.set_cons_succ]
  refine wpAnyT_take (i := 1) (v := ?_) (by simp only [List.getElem?_toArray, List.getElem?_cons_zero, List.getElem?_cons_succ]; rfl) (by kernel_rfl) (by kernel_rfl) (by kernel_rfl) (by kernel_rfl) (by exact fun _ _ _ h => h) (Or.inl ⟨by rfl, ?hya1⟩) hS ?resta1
  case hya1 => (intro W' hSW; obtain ⟨x1, x2, x3, x4⟩ := hSW; go_simp; try with_reducible rfl)
  try simp only [Act.put, List.setIfInBounds_toArray, List.set_cons_zero, List.set_cons_succ]
  refine wpAnyT_take (i := 2) (v := ?_) (by simp only [List.getElem?_toArray, List.getElem?_cons_zero, List.getElem?_cons_succ]; rfl) (by kernel_rfl) (by kernel_rfl) (by kernel_rfl) (by kernel_rfl) (by exact fun _ _ _ h => h) (Or.inl ⟨by rfl, ?hya2⟩) hS ?resta2
  case hya2 => (intro W' hSW; obtain ⟨x1, x2, x3, x4⟩ := hSW; go_simp; try with_reducible rfl)
  try simp only [Act.put, List.setIfInBounds_toArray, List.set_cons_zero, List.set_cons_succ]
  refine wpAnyT_take (i := 3) (v := ?_) (by simp only [List.getElem?_toArray, List.getElem?_cons_zero, List.getElem?_cons_succ]; rfl) (by kernel_rfl) (by kernel_rfl) (by kernel_rfl) (by kernel_rfl) (by exact fun _ _ _ h => h) (Or.inl ⟨by rfl, ?hya3⟩) hS ?resta3
  case hya3 => (intro W' hSW; obtain ⟨x1, x2, x3, x4⟩ := hSW; go_simp; try with_reducible rfl)
  try simp only [Act.put, List.setIfInBounds_toArray, List.set_cons_zero, List.set_cons_succ]
  refine wpAnyT_take (i := 4) (v := ?_) (by simp only [List.getElem?_toArray, List.getElem?_cons_zero, List.getElem?_cons_succ]; rfl) (by kernel_rfl) (by kernel_rfl) (by kernel_rfl) (by kernel_rfl) (by exact fun _ _ _ h => h) (Or.inl ⟨by rfl, ?hya4⟩) hS ?resta4
  case hya4 => (intro W' hSW; obtain ⟨x1, x2, x3, x4⟩ := hSW; go_simp; try with_reducible rfl)
  try simp only [Act.put, List.setIfInBounds_toArray, List.set_cons_zero, List.set_cons_succ]
  refine wpAnyT_take (i := 5) (v := ?_) (by simp only [List.getElem?_toArray, List.getElem?_cons_zero, List.getElem?_cons_succ]; rfl) (by kernel_rfl) (by kernel_rfl) (by kernel_rfl) (by kernel_rfl) (by exact fun _ _ _ h => h) (Or.inl ⟨by rfl, ?hya5⟩) hS ?resta5
  case hya5 => (intro W' hSW; obtain ⟨x1, x2, x3, x4⟩ := hSW; go_simp; try with_reducible rfl)
  try simp only [Act.put, List.setIfInBounds_toArray, List.set_cons_zero, List.set_cons_succ]
  refine wpAnyT_take (i := 6) (v := ?_) (by simp only [List.getElem?_toArray, List.getElem?_cons_zero, List.getElem?_cons_succ]; rfl) (by kernel_rfl) (by kernel_rfl) (by kernel_rfl) (by kernel_rfl) (by exact fun _ _ _ h => h) (Or.inl ⟨by rfl, ?hya6⟩) hS ?resta6
  case hya6 => (intro W' hSW; obtain ⟨x1, x2, x3, x4⟩ := hSW; go_simp; try with_reducible rfl)
  try simp only [Act.put, List.setIfInBounds_toArray, List.set_cons_zero, List.set_cons_succ]
  refine wpAnyT_take (i := 7) (v := ?_) (by simp only [List.getElem?_toArray, List.getElem?_cons_zero, List.getElem?_cons_succ]; rfl) (by kernel_rfl) (by kernel_rfl) (by kernel_rfl) (by kernel_rfl) (by exact fun _ _ _ h => h) (Or.inl ⟨by rfl, ?hya7⟩) hS ?resta7
  case hya7 => (intro W' hSW; obtain ⟨x1, x2, x3, x4⟩ := hSW; go_simp; try with_reducible rfl)
  try simp only [Act.put, List.setIfInBounds_toArray, List.set_cons_zero, List.set_cons_succ]
  refine wpAnyT_take (i := 8) (v := ?_) (by simp only [List.getElem?_toArray, List.getElem?_cons_zero, List.getElem?_cons_succ]; rfl) (by kernel_rfl) (by kernel_rfl) (by kernel_rfl) (by kernel_rfl) (by exact fun _ _ _ h => h) (Or.inl ⟨by rfl, ?hya8⟩) hS ?resta8
  case hya8 => (intro W' hSW; obtain ⟨x1, x2, x3, x4⟩ := hSW; go_simp; try with_reducible rfl)
  try simp only [Act.put, List.setIfInBounds_toArray, List.set_cons_zero, List.set_cons_succ]
  refine wpAnyT_ready (rs := [9]) (by kernel_rfl) (by simp) ?_
  refine AllReadyT.cons (by simp only [List.getElem?_toArray, List.getElem?_cons_zero, List.getElem?_cons_succ]; rfl) (fun K hK => ?_) AllReadyT.nil
  go_simp
  have hbO := (Below.refl W6.heap.size W6.drew).alloc (Nat.le_refl _) (.cells #[.int .i64 xs, .int .i64 xe] 27)
  refine hK.out _ _ (fun _ => ⟨bcell hbO zo s4, bcell hbO zg sq, bcell hbO zm sm0, bcell hbO zm sm1⟩) ?_
  clear hK K
  try simp only [Act.put, List.setIfInBounds_toArray, List.set_cons_zero, List.set_cons_succ]
  refine wpAnyT_ready (rs := [10]) (by kernel_rfl) (by simp) ?_
  refine AllReadyT.cons (by simp only [List.getElem?_toArray, List.getElem?_cons_zero, List.getElem?_cons_succ]; rfl) (fun K hK => ?_) AllReadyT.nil
  refine step_append_lies (W6.drew.alloc (.cells #[.int .i64 xs, .int .i64 xe] 27)) (by rfl) (.tmp 51) (.tmp 53) 39 (by rfl) (W4.heap.size + 2) 27 il (.agg #[.int .i64 0, .int .i64 0]) 2 16 Try.underlying39 HIL.out HIL0.out HIL1.out HIL2.out rfl (by decide) (.slice Aq nq cq2) nq (rltCells q) (by rfl) (HOL.out.alloc (.cells #[.int .i64 xs, .int .i64 xe] 27)) ⟨W6.heap.size, 0, none⟩ 1 1 [.int .i64 xs, .int .i64 xe] (by rfl) (by rfl) (World.news_of_block (heap_alloc_new W6.drew (.cells #[.int .i64 xs, .int .i64 xe] 27))) (by simp [Value.oneCell']) (by omega) (by unfold maxLen; omega) (by omega) (by simp; omega) _ rfl ?_
  intro g8 c8 w8 hown8 hgrow8 hat8 hlt8
  have hq8 := (HOQ.out.alloc (.cells #[.int .i64 xs, .int .i64 xe] 27)).kept hgrow8 (own_own_ne (HOQ.out.alloc (.cells #[.int .i64 xs, .int .i64 xe] 27)) (HOL.out.alloc (.cells #[.int .i64 xs, .int .i64 xe] 27)) (by decide))
  have s8 : w8.cell? ⟨gq, k, none⟩ = some (.slice Aq nq cq2) := by rw [hq8.cellAt k (by omega)]; exact HLV.out
  have f8 := hq8.frozenAt k
  have hx8 := (HXD.out.alloc (.cells #[.int .i64 xs, .int .i64 xe] 27)).grown hgrow8 (own_ne_row (HOL.out.alloc (.cells #[.int .i64 xs, .int .i64 xe] 27)) (HXD.out.alloc (.cells #[.int .i64 xs, .int .i64 xe] 27)) (by decide))
  have x8 := hx8.cell 4
  have hbw8 := ((Below.refl (W4.heap.size + 2) W6.drew).alloc zb (.cells #[.int .i64 xs, .int .i64 xe] 27)).grown hgrow8 (by simp; omega) (fun j e => (HOL.out.lt j e).1)
  have m80 := bcell hbw8 zmb sm0
  have m81 := bcell hbw8 zmb sm1
  have hS8 : (fun W' => W'.cell? ⟨w5.heap.size, 4, none⟩ = some (.slice (some ⟨gq, 0, none⟩) L.squares.length d5) ∧ W'.cell? ⟨gq, k, none⟩ = some (.slice Aq nq cq2) ∧ W'.cell? ⟨w.heap.size + 1, 0, none⟩ = some (.int .i64 xs) ∧ W'.cell? ⟨w.heap.size + 1, 1, none⟩ = some (.int .i64 xe)) w8 := ⟨x8, s8, m80, m81⟩
  try go_simp
  refine hK.out _ _ (fun _ => hS8) ?_
  have HX8 := Lib.hid hx8
  have HQ8 := Lib.hid hq8
  have HBW8 := Lib.hid hbw8
  clear hK K hS hbO x8 m80 m81 hq8 hx8 hbw8
  try simp only [Act.put, List.setIfInBounds_toArray, List.set_cons_zero, List.set_cons_succ]
  refine wpAnyT_take (i := 11) (v := ?_) (by simp only [List.getElem?_toArray, List.getElem?_cons_zero, List.getElem?_cons_succ]; rfl) (by kernel_rfl) (by kernel_rfl) (by kernel_rfl) (by kernel_rfl) (by exact fun _ _ _ h => h) (Or.inl ⟨by rfl, ?hya11⟩) hS8 ?resta11
  case hya11 => (intro W' hSW; obtain ⟨x1, x2, x3, x4⟩ := hSW; go_simp; try with_reducible rfl)
  try simp only [Act.put, List.setIfInBounds_toArray, List.set_cons_zero, List.set_cons_succ]
  refine wpAnyT_ready (rs := [12]) (by kernel_rfl) (by simp) ?_
  refine AllReadyT.cons (by simp only [List.getElem?_toArray, List.getElem?_cons_zero, List.getElem?_cons_succ]; rfl) (fun K hK => ?_) AllReadyT.nil
  go_simp
  refine hK.out _ _ (fun h => by simp at h) ?_
  clear hK K hS8
  try simp only [Act.put, List.setIfInBounds_toArray, List.set_cons_zero, List.set_cons_succ]
  refine wpAnyT_done (by kernel_rfl) ?_ _
  have hnq := HNQ.out
  subst hnq
  have hlr := ROwn.light (show ROwn (W4.heap.size + 2) W6.drew _ (.slice (some ⟨gq, 0, none⟩) L.raw.squares.length d5) L.raw svs lvs by have h := HO6.out.below (Below.refl _ _).drew; rw [← HL2.out] at h; exact h) (by rw [HL2.out]; exact hk) HQK.out HLV.out x hgrow8 (by rw [← HXS.out, ← HXE.out]; exact hown8)
  obtain ⟨W9, hW9⟩ : ∃ W9, W9 = w8.setCell ⟨gq, k, none⟩ (.slice (some ⟨g8, 0, none⟩) (q.length + 1) c8) := ⟨_, rfl⟩
  have hbw9 : Below (W4.heap.size + 2) W6.drew W9 := by rw [hW9]; exact HBW8.out.setCell (p := ⟨gq, k, none⟩) hgq1 _
  have bq8 := own_blok HQ8.out rfl
  obtain ⟨qcs, hbq8⟩ := bq8
  have hx9 : Blok W9 w5.heap.size 25 [.slice A5 L.hands.length c5, .int .i64 L.worn, .int .i64 L.scr, .int .i64 L.total, .slice (some ⟨gq, 0, none⟩) L.squares.length d5] := by rw [hW9]; exact HX8.out.far (p := ⟨gq, k, none⟩) (blok_ne HX8.out hbq8 (by decide)) _
  have HX9 := Lib.hid hx9
  have HL9 := Lib.hid (show RLineAt W9 W9.heap.size (.agg #[.slice A5 L.hands.length c5, .int .i64 L.worn, .int .i64 L.scr, .int .i64 L.total, .slice (some ⟨gq, 0, none⟩) L.squares.length d5]) (L.raw.withSquare k (q ++ [x])) by
    have h := hlr.line
    rw [← hW9, HL2.out] at h
    exact h)
  have hz9 := hbw9.size
  have HB9 := Lib.hid (HB6.out.drew.trans (hbw9.mono (by omega)))
  have HV9 := Lib.hid (HV.out.keep (SameA.of_below HB9.out) HB9.out.size)
  have HM9 := Lib.hid ((HM6.out.keep (SameA.of_below ((Below.refl W4.heap.size W6).drew.trans (hbw9.mono (by omega)))) (Nat.le_refl W4.heap.size)).keep (SameA.of_below (Below.refl W4.heap.size W9)) (show W4.heap.size ≤ W9.heap.size by have h : W6.heap.size ≤ W9.heap.size := hz9; omega))
  have HBL9 := Lib.hid ((show Blok W6.drew _ _ _ from BL6.out).below hbw9 (by omega))
  have HBQ9 := Lib.hid ((show Blok W6.drew _ _ _ from HQ6.out).below hbw9 (by omega))
  rw [← hW9]
  clear hW9 hbw9 hlr hx9 HBW8 HX8 HQ8 hbq8 HXD HOL HOQ HLV HIL HIL0 HIL1 HIL2 BL6 BM6 HM6 HX6 HO6 HQ6 HB6 s4 sq sm0 sm1 hown8 hgrow8 hat8 s8 f8
  have a0 : W9.cell? ⟨w.heap.size, 0, none⟩ = some (.slice AH nh ch) := HBL9.out.cell 0
  have a1 : W9.cell? ⟨w.heap.size, 1, none⟩ = some (.int .i64 wn) := HBL9.out.cell 1
  have a2 : W9.cell? ⟨w.heap.size, 2, none⟩ = some (.int .i64 sc) := HBL9.out.cell 2
  have a3 : W9.cell? ⟨w.heap.size, 3, none⟩ = some (.int .i64 tt) := HBL9.out.cell 3
  have a4 : W9.cell? ⟨w.heap.size, 4, none⟩ = some (.slice AQ m cq) := HBL9.out.cell 4
  have b0 : W9.cell? ⟨w3.heap.size, 0, none⟩ = some (.slice (some ⟨hb, 0, none⟩) L.hands.length hc) := HBQ9.out.cell 0
  have b1 : W9.cell? ⟨w3.heap.size, 1, none⟩ = some (.int .i64 L.worn) := HBQ9.out.cell 1
  have b2 : W9.cell? ⟨w3.heap.size, 2, none⟩ = some (.int .i64 L.scr) := HBQ9.out.cell 2
  have b3 : W9.cell? ⟨w3.heap.size, 3, none⟩ = some (.int .i64 L.total) := HBQ9.out.cell 3
  have b4 : W9.cell? ⟨w3.heap.size, 4, none⟩ = some (.slice (some ⟨sb, 0, none⟩) L.squares.length sc3) := HBQ9.out.cell 4
  have d0 : W9.cell? ⟨w5.heap.size, 0, none⟩ = some (.slice A5 L.hands.length c5) := HX9.out.cell 0
  have d1 : W9.cell? ⟨w5.heap.size, 1, none⟩ = some (.int .i64 L.worn) := HX9.out.cell 1
  have d2 : W9.cell? ⟨w5.heap.size, 2, none⟩ = some (.int .i64 L.scr) := HX9.out.cell 2
  have d3 : W9.cell? ⟨w5.heap.size, 3, none⟩ = some (.int .i64 L.total) := HX9.out.cell 3
  have d4 : W9.cell? ⟨w5.heap.size, 4, none⟩ = some (.slice (some ⟨gq, 0, none⟩) L.squares.length d5) := HX9.out.cell 4
  have hbA : Below W9.heap.size W9 (W9.alloc (.cells #[.slice AH nh ch, .int .i64 wn, .int .i64 sc, .int .i64 tt, .slice AQ m cq, .slice (some ⟨hb, 0, none⟩) L.hands.length hc, .int .i64 L.worn, .int .i64 L.scr, .int .i64 L.total, .slice (some ⟨sb, 0, none⟩) L.squares.length sc3, .slice A5 L.hands.length c5, .int .i64 L.worn, .int .i64 L.scr, .int .i64 L.total, .slice (some ⟨gq, 0, none⟩) L.squares.length d5] 25)) := (Below.refl _ _).alloc (Nat.le_refl _) _
  have hba := Blok.new W9 25 [.slice AH nh ch, .int .i64 wn, .int .i64 sc, .int .i64 tt, .slice AQ m cq, .slice (some ⟨hb, 0, none⟩) L.hands.length hc, .int .i64 L.worn, .int .i64 L.scr, .int .i64 L.total, .slice (some ⟨sb, 0, none⟩) L.squares.length sc3, .slice A5 L.hands.length c5, .int .i64 L.worn, .int .i64 L.scr, .int .i64 L.total, .slice (some ⟨gq, 0, none⟩) L.squares.length d5]
  have HALL := Lib.hid (show AllL (W9.alloc (.cells #[.slice AH nh ch, .int .i64 wn, .int .i64 sc, .int .i64 tt, .slice AQ m cq, .slice (some ⟨hb, 0, none⟩) L.hands.length hc, .int .i64 L.worn, .int .i64 L.scr, .int .i64 L.total, .slice (some ⟨sb, 0, none⟩) L.squares.length sc3, .slice A5 L.hands.length c5, .int .i64 L.worn, .int .i64 L.scr, .int .i64 L.total, .slice (some ⟨gq, 0, none⟩) L.squares.length d5] 25)) (W9.heap.size + 1) W9.heap.size [R, L.raw, L.raw.withSquare k (q ++ [x])] by
    intro i Ri hRi
    match i, hRi with
    | 0, hRi =>
      injection hRi with hRi
      subst hRi
      exact ⟨_, _, _, _, _, hba.cell 0, hba.cell 1, hba.cell 2, hba.cell 3, hba.cell 4, HV9.out.keep (SameA.of_below hbA) (Nat.le_succ _), HSM.out.small⟩
    | 1, hRi =>
      injection hRi with hRi
      subst hRi
      exact ⟨_, _, _, _, _, hba.cell 5, hba.cell 6, hba.cell 7, hba.cell 8, hba.cell 9, (HM9.out.keep (SameA.of_below hbA) (Nat.le_succ _)), HSL.out⟩
    | 2, hRi =>
      injection hRi with hRi
      subst hRi
      exact ⟨_, _, _, _, _, hba.cell 10, hba.cell 11, hba.cell 12, hba.cell 13, hba.cell 14, HL9.out.keep (SameA.of_below hbA) (Nat.le_succ _), small_light HOK.out HQK.out x⟩
    | _ + 3, hRi => exact absurd hRi (by simp))
  have HBA := Lib.hid (HB9.out.trans (hbA.mono HB9.out.size))
  clear hbA hba
  go_wp2_with fail
  obtain ⟨WA, hWA⟩ : ∃ WA, WA = W9.alloc (.cells #[.slice AH nh ch, .int .i64 wn, .int .i64 sc, .int .i64 tt, .slice AQ m cq, .slice (some ⟨hb, 0, none⟩) L.hands.length hc, .int .i64 L.worn, .int .i64 L.scr, .int .i64 L.total, .slice (some ⟨sb, 0, none⟩) L.squares.length sc3, .slice A5 L.hands.length c5, .int .i64 L.worn, .int .i64 L.scr, .int .i64 L.total, .slice (some ⟨gq, 0, none⟩) L.squares.length d5] 25) := ⟨_, rfl⟩
  have hsA : WA.heap.size = W9.heap.size + 1 := by rw [hWA, World.size_alloc]
  rw [← hWA] at HALL HBA ⊢
  obtain ⟨Rs, hRs⟩ : ∃ Rs, Rs = [R, L.raw, L.raw.withSquare k (q ++ [x])] := ⟨_, rfl⟩
  have hRl : Rs.length = 3 := by rw [hRs]; rfl
  rw [← hRs] at HALL
  obtain ⟨gA, hgA⟩ : ∃ gA, gA = W9.heap.size := ⟨_, rfl⟩
  rw [← hgA] at HALL hsA ⊢
  rw [← hsA] at HALL
  have HRL := Lib.hid hRl
  have zA : gA < WA.heap.size := by omega
  clear hWA hRs hRl hgA hsA a0 a1 a2 a3 a4 b0 b1 b2 b3 b4 d0 d1 d2 d3 d4 HV HV9 HM9 HL9 HX9 HBL9 HBQ9 HB9 HXS HXE HSM HSL HOK HQK HNQ HR0 HRW HU2 HB1 BL1 BM1 HL1 HL2 hgq1 hgq2 hz9 hm8 hm1 zo zg zm zmb zb k0 k1 hk hq4 z56 z45 z34 z4 z3 hz2 z1 z0
  go_loopw [14] (fun si wr => ∃ i : Nat, i ≤ 3 ∧ si = .int .i64 i ∧ Hid (Below WA.heap.size WA wr)) (fun si _ => 3 - (intOf si).toNat)
  case atStart => exact ⟨0, by omega, rfl, Lib.hid (Below.refl _ _)⟩
  case round =>
    obtain ⟨i, hi, rfl, HW⟩ := hrel
    have zWr := HW.out.size
    by_cases hin : i < 3
    · obtain ⟨Ri, hRi⟩ : ∃ Ri, Rs[i]? = some Ri := ⟨_, List.getElem?_eq_getElem (by rw [HRL.out]; exact hin)⟩
      obtain ⟨x0, x1, x2, x3, x4, p0, p1, p2, p3, p4, hRL, hRS⟩ := HALL.out i Ri hRi
      obtain ⟨vhi, vsi, hform, ⟨Ai, ni, ki, rfl⟩, Bi, mi, li, rfl⟩ := hRL.form
      injection hform with hform
      simp only [Array.mk.injEq, List.cons.injEq, and_true] at hform
      obtain ⟨rfl, rfl, rfl, rfl, rfl⟩ := hform
      have HRA := Lib.hid (hRL.keep (SameA.of_below HW.out) zWr)
      have HRS := Lib.hid hRS.1
      have HSM := Lib.hid hRS
      obtain ⟨wn, hwn⟩ : ∃ wn, wn = Ri.worn := ⟨_, rfl⟩
      obtain ⟨sc, hsc⟩ : ∃ sc, sc = Ri.scr := ⟨_, rfl⟩
      obtain ⟨tt, htt⟩ : ∃ tt, tt = Ri.total := ⟨_, rfl⟩
      rw [← hwn] at p1 HRA
      rw [← hsc] at p2 HRA
      rw [← htt] at p3 HRA
      have HWN := Lib.hid hwn
      have HSC := Lib.hid hsc
      have HTT := Lib.hid htt
      have C0 := Lib.hid (bcell HW.out zA p0)
      have C1 := Lib.hid (bcell HW.out zA p1)
      have C2 := Lib.hid (bcell HW.out zA p2)
      have C3 := Lib.hid (bcell HW.out zA p3)
      have C4 := Lib.hid (bcell HW.out zA p4)
      have zAr : gA < wr.heap.size := by omega
      have i0 : (0 : Int) ≤ (i : Int) := by omega
      have i1 : (i : Int) < 3 := by omega
      clear hRi p0 p1 p2 p3 p4 hRL hRS hwn hsc htt
      have c0 := C0.out
      have c1 := C1.out
      have c2 := C2.out
      have c3 := C3.out
      have c4 := C4.out
      go_wp2_with fail
      refine (rcopy_any _ Ri wr HRA.out HSM.out).mono ?_
      rintro e w5 ⟨vh5, vq5, svs, lvs, rfl, ho5, hb5⟩
      have hol := OLine.of_own ho5
      obtain ⟨A5, c5, rfl⟩ := own_slice ho5.hands
      obtain ⟨Q5, d5, rfl⟩ := own_slice ho5.squares
      unfold rlineV at hol ⊢
      rw [← HWN.out, ← HSC.out, ← HTT.out] at hol ⊢
      obtain ⟨n5, hn5⟩ : ∃ n5, n5 = Ri.hands.length := ⟨_, rfl⟩
      obtain ⟨m5, hm5⟩ : ∃ m5, m5 = Ri.squares.length := ⟨_, rfl⟩
      rw [← hn5, ← hm5] at hol ⊢
      obtain ⟨W6, hW6⟩ : ∃ W6, W6 = w5.alloc (.cells #[.slice A5 n5 c5, .int .i64 wn, .int .i64 sc, .int .i64 tt, .slice Q5 m5 d5] 25) := ⟨_, rfl⟩
      have HL6 := Lib.hid (show LawI wr W6 w5.heap.size [.slice A5 n5 c5, .int .i64 wn, .int .i64 sc, .int .i64 tt, .slice Q5 m5 d5] Ri by rw [hW6]; exact ⟨Blok.new w5 _ _, hol.keep ((Below.refl _ _).alloc (Nat.le_refl _) _), hb5.alloc hb5.size _⟩)
      clear hol ho5 hb5 hn5 hm5 c0 c1 c2 c3 c4
      go_wp2_with fail
      rw [← hW6]
      clear hW6
      have o0 : W6.cell? ⟨w5.heap.size, 0, none⟩ = some (.slice A5 n5 c5) := HL6.out.own.cell 0
      have o1 : W6.cell? ⟨w5.heap.size, 1, none⟩ = some (.int .i64 wn) := HL6.out.own.cell 1
      have o2 : W6.cell? ⟨w5.heap.size, 2, none⟩ = some (.int .i64 sc) := HL6.out.own.cell 2
      have o3 : W6.cell? ⟨w5.heap.size, 3, none⟩ = some (.int .i64 tt) := HL6.out.own.cell 3
      have o4 : W6.cell? ⟨w5.heap.size, 4, none⟩ = some (.slice Q5 m5 d5) := HL6.out.own.cell 4
      have c0 := bcell HL6.out.bel zAr C0.out
      have c1 := bcell HL6.out.bel zAr C1.out
      have c2 := bcell HL6.out.bel zAr C2.out
      have c3 := bcell HL6.out.bel zAr C3.out
      have c4 := bcell HL6.out.bel zAr C4.out
      go_wp2_with fail
      refine (sHands_u HL6.out.line).mono ?_
      rintro e W7 ⟨u7, rfl, hi7, hb7⟩
      have HL7 := Lib.hid (HL6.out.below hb7)
      obtain ⟨aA, ac, rfl⟩ : ∃ A c, u7 = .slice A _ c := by obtain ⟨A, c, e, _⟩ := hi7; exact ⟨A, c, e⟩
      have HIa := Lib.hid hi7
      clear hi7
      clear o0 o1 o2 o3 o4 c0 c1 c2 c3 c4
      clear hb7 HL6
      have o0 : W7.cell? ⟨w5.heap.size, 0, none⟩ = some (.slice A5 n5 c5) := HL7.out.own.cell 0
      have o1 : W7.cell? ⟨w5.heap.size, 1, none⟩ = some (.int .i64 wn) := HL7.out.own.cell 1
      have o2 : W7.cell? ⟨w5.heap.size, 2, none⟩ = some (.int .i64 sc) := HL7.out.own.cell 2
      have o3 : W7.cell? ⟨w5.heap.size, 3, none⟩ = some (.int .i64 tt) := HL7.out.own.cell 3
      have o4 : W7.cell? ⟨w5.heap.size, 4, none⟩ = some (.slice Q5 m5 d5) := HL7.out.own.cell 4
      have c0 := bcell HL7.out.bel zAr C0.out
      have c1 := bcell HL7.out.bel zAr C1.out
      have c2 := bcell HL7.out.bel zAr C2.out
      have c3 := bcell HL7.out.bel zAr C3.out
      have c4 := bcell HL7.out.bel zAr C4.out
      go_wp2_with fail
      refine (rHands_u (HRA.out.keep (SameA.of_below HL7.out.bel) HL7.out.bel.size)).mono ?_
      rintro e W8 ⟨u8, rfl, hi8, hb8⟩
      have HL8 := Lib.hid (HL7.out.below hb8)
      obtain ⟨bA, bc, rfl⟩ : ∃ A c, u8 = .slice A _ c := by obtain ⟨A, c, e, _⟩ := hi8; exact ⟨A, c, e⟩
      have HIb := Lib.hid hi8
      clear hi8
      have HIa' := Lib.hid (HIa.out.keep (Same.of_below hb8) hb8.size); clear HIa; have HIa := HIa'; clear HIa'
      clear o0 o1 o2 o3 o4 c0 c1 c2 c3 c4
      clear hb8 HL7
      have o0 : W8.cell? ⟨w5.heap.size, 0, none⟩ = some (.slice A5 n5 c5) := HL8.out.own.cell 0
      have o1 : W8.cell? ⟨w5.heap.size, 1, none⟩ = some (.int .i64 wn) := HL8.out.own.cell 1
      have o2 : W8.cell? ⟨w5.heap.size, 2, none⟩ = some (.int .i64 sc) := HL8.out.own.cell 2
      have o3 : W8.cell? ⟨w5.heap.size, 3, none⟩ = some (.int .i64 tt) := HL8.out.own.cell 3
      have o4 : W8.cell? ⟨w5.heap.size, 4, none⟩ = some (.slice Q5 m5 d5) := HL8.out.own.cell 4
      have c0 := bcell HL8.out.bel zAr C0.out
      have c1 := bcell HL8.out.bel zAr C1.out
      have c2 := bcell HL8.out.bel zAr C2.out
      have c3 := bcell HL8.out.bel zAr C3.out
      have c4 := bcell HL8.out.bel zAr C4.out
      go_wp2_with fail
      refine (sLetters_u HL8.out.line).mono ?_
      rintro e W9 ⟨u9, rfl, hi9, hb9⟩
      have HL9 := Lib.hid (HL8.out.below hb9)
      obtain ⟨cA, cc, rfl⟩ : ∃ A c, u9 = .slice A _ c := by obtain ⟨A, c, e, _⟩ := hi9; exact ⟨A, c, e⟩
      have HIc := Lib.hid hi9
      clear hi9
      have HIa' := Lib.hid (HIa.out.keep (Same.of_below hb9) hb9.size); clear HIa; have HIa := HIa'; clear HIa'
      have HIb' := Lib.hid (HIb.out.keep (Same.of_below hb9) hb9.size); clear HIb; have HIb := HIb'; clear HIb'
      clear o0 o1 o2 o3 o4 c0 c1 c2 c3 c4
      clear hb9 HL8
      have o0 : W9.cell? ⟨w5.heap.size, 0, none⟩ = some (.slice A5 n5 c5) := HL9.out.own.cell 0
      have o1 : W9.cell? ⟨w5.heap.size, 1, none⟩ = some (.int .i64 wn) := HL9.out.own.cell 1
      have o2 : W9.cell? ⟨w5.heap.size, 2, none⟩ = some (.int .i64 sc) := HL9.out.own.cell 2
      have o3 : W9.cell? ⟨w5.heap.size, 3, none⟩ = some (.int .i64 tt) := HL9.out.own.cell 3
      have o4 : W9.cell? ⟨w5.heap.size, 4, none⟩ = some (.slice Q5 m5 d5) := HL9.out.own.cell 4
      have c0 := bcell HL9.out.bel zAr C0.out
      have c1 := bcell HL9.out.bel zAr C1.out
      have c2 := bcell HL9.out.bel zAr C2.out
      have c3 := bcell HL9.out.bel zAr C3.out
      have c4 := bcell HL9.out.bel zAr C4.out
      go_wp2_with fail
      refine (rLetters_u (HRA.out.keep (SameA.of_below HL9.out.bel) HL9.out.bel.size)).mono ?_
      rintro e W10 ⟨u10, rfl, hi10, hb10⟩
      have HL10 := Lib.hid (HL9.out.below hb10)
      obtain ⟨dA, dc, rfl⟩ : ∃ A c, u10 = .slice A _ c := by obtain ⟨A, c, e, _⟩ := hi10; exact ⟨A, c, e⟩
      have HId := Lib.hid hi10
      clear hi10
      have HIa' := Lib.hid (HIa.out.keep (Same.of_below hb10) hb10.size); clear HIa; have HIa := HIa'; clear HIa'
      have HIb' := Lib.hid (HIb.out.keep (Same.of_below hb10) hb10.size); clear HIb; have HIb := HIb'; clear HIb'
      have HIc' := Lib.hid (HIc.out.keep (Same.of_below hb10) hb10.size); clear HIc; have HIc := HIc'; clear HIc'
      clear o0 o1 o2 o3 o4 c0 c1 c2 c3 c4
      clear hb10 HL9
      have o0 : W10.cell? ⟨w5.heap.size, 0, none⟩ = some (.slice A5 n5 c5) := HL10.out.own.cell 0
      have o1 : W10.cell? ⟨w5.heap.size, 1, none⟩ = some (.int .i64 wn) := HL10.out.own.cell 1
      have o2 : W10.cell? ⟨w5.heap.size, 2, none⟩ = some (.int .i64 sc) := HL10.out.own.cell 2
      have o3 : W10.cell? ⟨w5.heap.size, 3, none⟩ = some (.int .i64 tt) := HL10.out.own.cell 3
      have o4 : W10.cell? ⟨w5.heap.size, 4, none⟩ = some (.slice Q5 m5 d5) := HL10.out.own.cell 4
      have c0 := bcell HL10.out.bel zAr C0.out
      have c1 := bcell HL10.out.bel zAr C1.out
      have c2 := bcell HL10.out.bel zAr C2.out
      have c3 := bcell HL10.out.bel zAr C3.out
      have c4 := bcell HL10.out.bel zAr C4.out
      go_wp2_with fail
      refine (sYears_u HL10.out.line).mono ?_
      rintro e W11 ⟨rfl, hb11⟩
      have HIa' := Lib.hid (HIa.out.keep (Same.of_below hb11) hb11.size); clear HIa; have HIa := HIa'; clear HIa'
      have HIb' := Lib.hid (HIb.out.keep (Same.of_below hb11) hb11.size); clear HIb; have HIb := HIb'; clear HIb'
      have HIc' := Lib.hid (HIc.out.keep (Same.of_below hb11) hb11.size); clear HIc; have HIc := HIc'; clear HIc'
      have HId' := Lib.hid (HId.out.keep (Same.of_below hb11) hb11.size); clear HId; have HId := HId'; clear HId'
      have HL11 := Lib.hid (HL10.out.below hb11)
      have zo11 := HL11.out.own.size
      have zg11 : gA < W11.heap.size := Nat.lt_of_lt_of_le zAr HL11.out.bel.size
      clear o0 o1 o2 o3 o4 c0 c1 c2 c3 c4
      clear hb11 HL10
      have c0 := bcell HL11.out.bel zAr C0.out
      have c1 := bcell HL11.out.bel zAr C1.out
      have c2 := bcell HL11.out.bel zAr C2.out
      have c3 := bcell HL11.out.bel zAr C3.out
      have c4 := bcell HL11.out.bel zAr C4.out
      have HL11' := Lib.hid (HL11.out.alloc (.cells #[.int .i64 (yVal Ri).1, .int .i64 (yVal Ri).2] 48))
      have HY11 := Lib.hid (Blok.new W11 48 [.int .i64 (yVal Ri).1, .int .i64 (yVal Ri).2])
      go_wp2_with fail
      refine (rYears_u (HRA.out.keep (SameA.of_below HL11'.out.bel) HL11'.out.bel.size)).mono ?_
      rintro e W12 ⟨rfl, hb12⟩
      have hb11a : Below W11.heap.size W11 W12 := ((Below.refl W11.heap.size W11).alloc (Nat.le_refl _) (.cells #[.int .i64 (yVal Ri).1, .int .i64 (yVal Ri).2] 48)).trans (hb12.mono (by simp))
      have HIa' := Lib.hid (HIa.out.keep (Same.of_below hb11a) hb11a.size); clear HIa; have HIa := HIa'; clear HIa'
      have HIb' := Lib.hid (HIb.out.keep (Same.of_below hb11a) hb11a.size); clear HIb; have HIb := HIb'; clear HIb'
      have HIc' := Lib.hid (HIc.out.keep (Same.of_below hb11a) hb11a.size); clear HIc; have HIc := HIc'; clear HIc'
      have HId' := Lib.hid (HId.out.keep (Same.of_below hb11a) hb11a.size); clear HId; have HId := HId'; clear HId'
      have HL12 := Lib.hid (HL11'.out.below hb12)
      have HY12 := Lib.hid (HY11.out.below hb12 HY11.out.size)
      have zy1 := HY12.out.size
      obtain ⟨WX, hWX⟩ : ∃ WX, WX = W12.alloc (.cells #[.int .i64 (yVal Ri).1, .int .i64 (yVal Ri).2] 48) := ⟨_, rfl⟩
      have hbx : Below W12.heap.size W12 WX := by rw [hWX]; exact (Below.refl _ _).alloc (Nat.le_refl _) _
      have HLX := Lib.hid (HL12.out.below hbx)
      have HY1 := Lib.hid (HY12.out.below hbx HY12.out.size)
      have HY2 := Lib.hid (show Blok WX W12.heap.size 48 [.int .i64 (yVal Ri).1, .int .i64 (yVal Ri).2] by rw [hWX]; exact Blok.new W12 _ _)
      have HIa' := Lib.hid (HIa.out.keep (Same.of_below hbx) hbx.size); clear HIa; have HIa := HIa'; clear HIa'
      have HIb' := Lib.hid (HIb.out.keep (Same.of_below hbx) hbx.size); clear HIb; have HIb := HIb'; clear HIb'
      have HIc' := Lib.hid (HIc.out.keep (Same.of_below hbx) hbx.size); clear HIc; have HIc := HIc'; clear HIc'
      have HId' := Lib.hid (HId.out.keep (Same.of_below hbx) hbx.size); clear HId; have HId := HId'; clear HId'
      clear c0 c1 c2 c3 c4 zo11 zg11 HL11 HL11' HY11 hb12 hb11a HL12 HY12 hbx
      go_upto_region 18 with fail
      rw [← hWX]
      clear hWX
      have zox := HLX.out.own.size
      have zgx : gA < WX.heap.size := Nat.lt_of_lt_of_le zAr HLX.out.bel.size
      have zy2 := HY2.out.size
      have zy1x := HY1.out.size
      have o0 : WX.cell? ⟨w5.heap.size, 0, none⟩ = some (.slice A5 n5 c5) := HLX.out.own.cell 0
      have o1 : WX.cell? ⟨w5.heap.size, 1, none⟩ = some (.int .i64 wn) := HLX.out.own.cell 1
      have o2 : WX.cell? ⟨w5.heap.size, 2, none⟩ = some (.int .i64 sc) := HLX.out.own.cell 2
      have o3 : WX.cell? ⟨w5.heap.size, 3, none⟩ = some (.int .i64 tt) := HLX.out.own.cell 3
      have o4 : WX.cell? ⟨w5.heap.size, 4, none⟩ = some (.slice Q5 m5 d5) := HLX.out.own.cell 4
      have c0 := bcell HLX.out.bel zAr C0.out
      have c1 := bcell HLX.out.bel zAr C1.out
      have c2 := bcell HLX.out.bel zAr C2.out
      have c3 := bcell HLX.out.bel zAr C3.out
      have c4 := bcell HLX.out.bel zAr C4.out
      have y0 : WX.cell? ⟨W11.heap.size, 0, none⟩ = some (.int .i64 (yVal Ri).1) := HY1.out.cell 0
      have y1 : WX.cell? ⟨W11.heap.size, 1, none⟩ = some (.int .i64 (yVal Ri).2) := HY1.out.cell 1
      have y2 : WX.cell? ⟨W12.heap.size, 0, none⟩ = some (.int .i64 (yVal Ri).1) := HY2.out.cell 0
      have y3 : WX.cell? ⟨W12.heap.size, 1, none⟩ = some (.int .i64 (yVal Ri).2) := HY2.out.cell 1
      have HSC := Lib.hid (fun (W : World) (hW : Below WX.heap.size WX W) => sCheck_u (HLX.out.line.keep hW))
      have HRC := Lib.hid (fun (W : World) (hW : Below WX.heap.size WX W) => fcheck_any _ Ri W (HRA.out.keep (SameA.of_below (HLX.out.bel.trans (hW.mono HLX.out.bel.size))) (HLX.out.bel.trans (hW.mono HLX.out.bel.size)).size))
      have HSI := Lib.hid (fun (W : World) (hW : Below WX.heap.size WX W) => sameInts_yes _ _ (hList Ri) _ _ W (hList_len Ri) (HIa.out.keep (Same.of_below hW) hW.size) (HIb.out.keep (Same.of_below hW) hW.size))
      have HST := Lib.hid (fun (W : World) (hW : Below WX.heap.size WX W) => sameTexts_yes W (tList_len Ri) (HIc.out.keep (Same.of_below hW) hW.size) (HId.out.keep (Same.of_below hW) hW.size))
      have HSL := Lib.hid (fun (W : World) (hW : Below WX.heap.size WX W) => rsame_any _ _ Ri W (HLX.out.line.keep hW).1 (HRA.out.keep (SameA.of_below (HLX.out.bel.trans (hW.mono HLX.out.bel.size))) (HLX.out.bel.trans (hW.mono HLX.out.bel.size)).size) HSM.out)
      have HB0 := Lib.hid ((Below.refl WX.heap.size WX).drew)
      go_cut [158] (fun s158 wc => s158 = .bool false ∧ Hid (Below WX.heap.size WX wc))
      case first =>
        go_region_held3 (fun W' => W'.cell? ⟨w5.heap.size, 0, none⟩ = some (.slice A5 n5 c5) ∧ W'.cell? ⟨w5.heap.size, 1, none⟩ = some (.int .i64 wn) ∧ W'.cell? ⟨w5.heap.size, 2, none⟩ = some (.int .i64 sc) ∧ W'.cell? ⟨w5.heap.size, 3, none⟩ = some (.int .i64 tt) ∧ W'.cell? ⟨w5.heap.size, 4, none⟩ = some (.slice Q5 m5 d5) ∧ W'.cell? ⟨gA, i * 5, none⟩ = some (.slice Ai ni ki) ∧ W'.cell? ⟨gA, i * 5 + 1, none⟩ = some (.int .i64 wn) ∧ W'.cell? ⟨gA, i * 5 + 2, none⟩ = some (.int .i64 sc) ∧ W'.cell? ⟨gA, i * 5 + 3, none⟩ = some (.int .i64 tt) ∧ W'.cell? ⟨gA, i * 5 + 4, none⟩ = some (.slice Bi mi li) ∧ W'.cell? ⟨W11.heap.size, 0, none⟩ = some (.int .i64 (yVal Ri).1) ∧ W'.cell? ⟨W11.heap.size, 1, none⟩ = some (.int .i64 (yVal Ri).2) ∧ W'.cell? ⟨W12.heap.size, 0, none⟩ = some (.int .i64 (yVal Ri).1) ∧ W'.cell? ⟨W12.heap.size, 1, none⟩ = some (.int .i64 (yVal Ri).2))
          (first
            | exact ⟨o0, o1, o2, o3, o4, c0, c1, c2, c3, c4, y0, y1, y2, y3⟩
            | exact ⟨bcell HBg.out zox o0, bcell HBg.out zox o1, bcell HBg.out zox o2, bcell HBg.out zox o3, bcell HBg.out zox o4, bcell HBg.out zgx c0, bcell HBg.out zgx c1, bcell HBg.out zgx c2, bcell HBg.out zgx c3, bcell HBg.out zgx c4, bcell HBg.out zy1x y0, bcell HBg.out zy1x y1, bcell HBg.out zy2 y2, bcell HBg.out zy2 y3⟩
            | exact ⟨bcell HBf.out zox o0, bcell HBf.out zox o1, bcell HBf.out zox o2, bcell HBf.out zox o3, bcell HBf.out zox o4, bcell HBf.out zgx c0, bcell HBf.out zgx c1, bcell HBf.out zgx c2, bcell HBf.out zgx c3, bcell HBf.out zgx c4, bcell HBf.out zy1x y0, bcell HBf.out zy1x y1, bcell HBf.out zy2 y2, bcell HBf.out zy2 y3⟩
            | exact ⟨bcell HBd.out zox o0, bcell HBd.out zox o1, bcell HBd.out zox o2, bcell HBd.out zox o3, bcell HBd.out zox o4, bcell HBd.out zgx c0, bcell HBd.out zgx c1, bcell HBd.out zgx c2, bcell HBd.out zgx c3, bcell HBd.out zgx c4, bcell HBd.out zy1x y0, bcell HBd.out zy1x y1, bcell HBd.out zy2 y2, bcell HBd.out zy2 y3⟩
            | exact ⟨bcell HBb.out zox o0, bcell HBb.out zox o1, bcell HBb.out zox o2, bcell HBb.out zox o3, bcell HBb.out zox o4, bcell HBb.out zgx c0, bcell HBb.out zgx c1, bcell HBb.out zgx c2, bcell HBb.out zgx c3, bcell HBb.out zgx c4, bcell HBb.out zy1x y0, bcell HBb.out zy1x y1, bcell HBb.out zy2 y2, bcell HBb.out zy2 y3⟩
            | exact ⟨bcell HBa.out zox o0, bcell HBa.out zox o1, bcell HBa.out zox o2, bcell HBa.out zox o3, bcell HBa.out zox o4, bcell HBa.out zgx c0, bcell HBa.out zgx c1, bcell HBa.out zgx c2, bcell HBa.out zgx c3, bcell HBa.out zgx c4, bcell HBa.out zy1x y0, bcell HBa.out zy1x y1, bcell HBa.out zy2 y2, bcell HBa.out zy2 y3⟩
            | exact ⟨bcell HB0.out zox o0, bcell HB0.out zox o1, bcell HB0.out zox o2, bcell HB0.out zox o3, bcell HB0.out zox o4, bcell HB0.out zgx c0, bcell HB0.out zgx c1, bcell HB0.out zgx c2, bcell HB0.out zgx c3, bcell HB0.out zgx c4, bcell HB0.out zy1x y0, bcell HB0.out zy1x y1, bcell HB0.out zy2 y2, bcell HB0.out zy2 y3⟩
            | go_keep)
          (first
            | (go_at_call 25; (with_reducible refine (HSC.out _ HB0.out).mono ?_); rintro e wa ⟨rfl, hbwa⟩; have HBa := Lib.hid (HB0.out.trans (hbwa.mono HB0.out.size)))
            | (go_at_call 26; (with_reducible refine (HRC.out _ HB0.out).mono ?_); rintro e wa ⟨rfl, hbwa⟩; have HBa := Lib.hid (HB0.out.trans (hbwa.mono HB0.out.size)))
            | (go_at_call 25; (with_reducible refine (HSC.out _ HBa.out).mono ?_); rintro e wb ⟨rfl, hbwb⟩; have HBb := Lib.hid (HBa.out.trans (hbwb.mono HBa.out.size)))
            | (go_at_call 26; (with_reducible refine (HRC.out _ HBa.out).mono ?_); rintro e wb ⟨rfl, hbwb⟩; have HBb := Lib.hid (HBa.out.trans (hbwb.mono HBa.out.size)))
            | (go_at_call 27; (with_reducible refine (HSI.out _ HBb.out).mono ?_); rintro e wd ⟨rfl, hbwd⟩; have HBd := Lib.hid (HBb.out.trans (hbwd.mono HBb.out.size)))
            | (go_at_call 28; (with_reducible refine (HST.out _ HBd.out).mono ?_); rintro e wf ⟨rfl, hbwf⟩; have HBf := Lib.hid (HBd.out.trans (hbwf.mono HBd.out.size)))
            | (go_at_call 29; (with_reducible refine (HSL.out _ HBf.out).mono ?_); rintro e wg ⟨rfl, hbwg⟩; have HBg := Lib.hid (HBf.out.trans (hbwg.mono HBf.out.size))))
        all_goals
          go_wp2_with fail
          go_meet
          exact ⟨rfl, HBg⟩
      case rest =>
        obtain ⟨rfl, HBc⟩ := hcut
        clear o0 o1 o2 o3 o4 c0 c1 c2 c3 c4
        clear y0 y1 y2 y3
        have HWc := Lib.hid (HW.out.trans ((HLX.out.bel.trans (HBc.out.mono HLX.out.bel.size)).mono zWr))
        go_wp2_with fail
        exact ⟨⟨i + 1, by omega, by go_num, HWc⟩, by simp [intOf]; omega⟩
    · obtain rfl : i = 3 := by omega
      go_wp2_with fail
      refine (ready_any Unit _).mono ?_
      rintro e w8 ⟨rfl, hb8⟩
      have HB8 := Lib.hid (HBA.out.trans ((HW.out.trans (hb8.mono zWr)).mono HBA.out.size))
      clear hb8
      go_wp2_with fail
      go_ret
      exact ⟨rfl, HB8.out⟩
end
end Go.Proofs.Ythhajbgddifenaa
