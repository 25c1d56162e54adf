/- TopLettered, walked. -/
import Derived.Test.YtmfjfjahemlhkaaGreatQb
namespace Go.Proofs.YtmfjfjahemlhkaaGreat
open Go.RowKit Dt

/-- kg for sight's texts. -/
theorem kgS {g : Nat} {a b : World} (h : Kg g a b) : Sg.Kg g a b := ⟨h.os, h.tape, h.output, h.size, h.block⟩
theorem kgD {g : Nat} {a b : World} (h : Sg.Kg g a b) : Kg g a b := ⟨h.os, h.tape, h.output, h.size, h.block⟩
/-- The dating with its truth, and the line. -/
structure LL (w : World) (g bd : Nat) (d : Dat) (ys fs : List Int) (ve vn vy vf : Value) (bl hand : Nat) (lts : ByteArray) (vv : Value) (L : Sg.Line) (vh vs : Value) (W : World) : Prop where
  lc : LC w g bd d ys fs ve vn vy vf W
  kl : Blok W bl 51 [vh, .int .i64 L.worn, .int .i64 L.scr, .int .i64 L.total, vs]
  kc : Blok W (bl + 1) 53 [.int .i64 hand, .string lts, vv]
  hb : Sg.HandsB W vh L.hands
  sb : Sg.SquaresB W vs L.squares
section
variable {w W W' : World} {g bd bl hand : Nat} {d : Dat} {ys fs : List Int} {ve vn vy vf vv vh vs : Value} {lts : ByteArray} {L : Sg.Line}
theorem LL.calls (h : LL w g bd d ys fs ve vn vy vf bl hand lts vv L vh vs W) (hu : UrnAt W' g) (hk : Kg g W W') : LL w g bd d ys fs ve vn vy vf bl hand lts vv L vh vs W' :=
  ⟨h.lc.calls hu hk, h.kl.kg hk (h.lc.urn.ne h.kl (by decide)), h.kc.kg hk (h.lc.urn.ne h.kc (by decide)), h.hb.kg (show Sg.UrnAt W g from h.lc.urn) (kgS hk), h.sb.kg (show Sg.UrnAt W g from h.lc.urn) (kgS hk)⟩
theorem LL.to (h : LL w g bd d ys fs ve vn vy vf bl hand lts vv L vh vs W) (hk : Below W.heap.size W W') : LL w g bd d ys fs ve vn vy vf bl hand lts vv L vh vs W' := h.calls (h.lc.urn.keep hk h.lc.urn.size) (Kg.of_below hk)
theorem LL.drew (h : LL w g bd d ys fs ve vn vy vf bl hand lts vv L vh vs W) : LL w g bd d ys fs ve vn vy vf bl hand lts vv L vh vs W.drew := h.to (Below.refl _ W).drew
theorem LL.years {hb hc : Nat} {H : Sg.Hand} {a b : Int} (h : LL w g bd d ys fs ve vn vy vf bl hand lts vv L (.slice (some ⟨hb, 0, none⟩) L.hands.length hc) vs W) (hn : w.heap.size ≤ hb) (hH : L.hands[hand]? = some H) :
    LC w g bd d ys fs ve vn vy vf ((W.setCell ⟨hb, hand * 3, none⟩ (.int .i64 a)).setCell ⟨hb, hand * 3 + 1, none⟩ (.int .i64 b)) ∧
    Blok ((W.setCell ⟨hb, hand * 3, none⟩ (.int .i64 a)).setCell ⟨hb, hand * 3 + 1, none⟩ (.int .i64 b)) bl 51 [.slice (some ⟨hb, 0, none⟩) L.hands.length hc, .int .i64 L.worn, .int .i64 L.scr, .int .i64 L.total, vs] ∧
    Sg.LineB ((W.setCell ⟨hb, hand * 3, none⟩ (.int .i64 a)).setCell ⟨hb, hand * 3 + 1, none⟩ (.int .i64 b)) (.agg #[.slice (some ⟨hb, 0, none⟩) L.hands.length hc, .int .i64 L.worn, .int .i64 L.scr, .int .i64 L.total, vs]) (putY L hand H a b) := by
  obtain ⟨cs, hbk⟩ : ∃ cs, Blok W hb 59 cs := by
    obtain ⟨b', c', cur, svs, e, hbl, -⟩ := h.hb
    injection e with e1
    injection e1 with e1
    injection e1 with e1
    subst e1
    exact ⟨_, hbl⟩
  refine ⟨(h.lc.hand hbk hn).hand (hbk.put (hand * 3) (.int .i64 a)) hn, ?_, ⟨_, _, rfl, ?_, SquaresB.years h.sb hbk⟩⟩
  · exact (h.kl.far (blok_ne h.kl hbk (by decide)) _).far (blok_ne h.kl hbk (by decide)) _
  · have := HandsB.years (a := a) (b := b) h.hb hH
    simpa [putY] using this
theorem LL.hcell {hb hc : Nat} {H : Sg.Hand} (h : LL w g bd d ys fs ve vn vy vf bl hand lts vv L (.slice (some ⟨hb, 0, none⟩) L.hands.length hc) vs W) (hH : L.hands[hand]? = some H) :
    W.cell? ⟨hb, hand * 3, none⟩ = some (.int .i64 H.low) ∧ W.cell? ⟨hb, hand * 3 + 1, none⟩ = some (.int .i64 H.high) ∧ ∀ j, W.frozen? ⟨hb, j, none⟩ = false := by
  have hfz : ∀ j, W.frozen? ⟨hb, j, none⟩ = false := by
    obtain ⟨b', c', cur, svs, e, hbl, -⟩ := h.hb
    injection e with e1
    injection e1 with e1
    injection e1 with e1
    subst e1
    exact fun j => Blok.free hbl j
  obtain ⟨bh, ch, hhc, hat⟩ := h.hb.at_
  injection hhc with e1
  injection e1 with e1
  injection e1 with e1
  subst e1
  obtain ⟨sv, -, x0, x1, -⟩ := hat hand H hH
  exact ⟨x0, x1, hfz⟩
end
theorem LL.sz {w W : World} {g bd bl hand : Nat} {d : Dat} {ys fs : List Int} {ve vn vy vf vv vh vs : Value} {lts : ByteArray} {L : Sg.Line} (h : LL w g bd d ys fs ve vn vy vf bl hand lts vv L vh vs W) : w.heap.size ≤ W.heap.size := h.lc.below.size
set_option maxRecDepth 100000 in
set_option maxHeartbeats 8000000 in
theorem lettered_walk (a0 : Option Addr) (len cap : Nat) (w : World) (hr : NumRow w a0 len) :
    Calls Tryz.prog 4 #[.slice a0 len cap] w fun e w' => e = .returned (.bool true) ∧ Below w.heap.size w w' := by
  obtain ⟨kI, hi, hz0, hz1, hz2⟩ := info_parts info_napi
  have HQ := Lib.hid hi
  have HQ0 := Lib.hid hz0
  have HQ1 := Lib.hid hz1
  have HQ2 := Lib.hid hz2
  clear hi hz0 hz1 hz2
  go_enter Tryz.func4, Tryz.ntmps4
  go_wp2_with fail
  refine (newUrn_any a0 len cap _ hr).mono ?_
  rintro e w0 ⟨rfl, hu1, hb1⟩
  have HU0 := Lib.hid hu1
  have HB0 := Lib.hid hb1
  have hg0 := hu1.size
  clear hu1 hb1 hr
  go_wp2_with fail
  obtain ⟨w1, rfl⟩ : ∃ w1 : World, w1 = w0 := ⟨_, rfl⟩
  have HU1 := HU0
  have HB1 := HB0
  clear HU0 HB0
  refine (datingOf_any w.heap.size 4 5 12 w1 (by omega) (by omega) (by omega) (by omega) (by omega) HU1.out).mono ?_
  rintro e w2 ⟨d, ys, fs, vd, vy, vf, rfl, hm, hD, hY, hF, hu2, hk2⟩
  obtain ⟨Ae, ce, An, cn, rfl⟩ := hD.slices
  obtain ⟨Ay, cy, rfl⟩ := own_slice hY
  obtain ⟨Af, cf, rfl⟩ := own_slice hF
  have hst := hm.ok.stones
  obtain ⟨gy, rfl⟩ := own_addr hY (by have := hm.ny; omega)
  have HG := Lib.hid (LG.of (LC.start (smax := 0) HB1.out (Nat.le_refl _) hD hY hF hu2 hk2 rfl))
  have HM := Lib.hid hm
  have hn7 := hm.notes
  have he2 := hm.eras
  have hs6 := hm.stones
  have HNY := Lib.hid hm.ny
  have HNF := Lib.hid hm.nf
  have hyes := (may_iff hm.ok).1 ⟨_, hm.is⟩
  have HYES := Lib.hid hyes
  have HD := Lib.hid hm.ok
  have hlen : ∀ (d : Dat) (p n : Nat), (spanList d p n).length = n := fun d p n => by simp [spanList]
  have HLEN := Lib.hid hlen
  clear hD hY hF hu2 hk2 hm HU1 HB1 hyes hlen
  go_wp2_with fail
  refine (Sg.lineOf_any w.heap.size 3 4 4 _ (by omega) (by omega) (by omega) (by omega) (by omega) (by omega) (show Sg.UrnAt _ _ from HG.out.lc.urn)).mono ?_
  rintro e w3 ⟨L, lv, vv, hand, ks, vs, lts, H, rfl, hLB, hLok, -, -, -, hT, hH, hmk, -, hIB, hN, hu3, hk3⟩
  obtain ⟨vh, vsq, rfl, hHB, hSB⟩ := hLB
  obtain ⟨hb, hc, rfl⟩ : ∃ b c, vh = .slice (some ⟨b, 0, none⟩) L.hands.length c := by
    obtain ⟨b, c, _, _, e, _⟩ := hHB
    exact ⟨b, c, e⟩
  obtain ⟨sb, sc, rfl⟩ : ∃ b c, vsq = .slice (some ⟨b, 0, none⟩) L.squares.length c := by
    obtain ⟨b, c, _, _, e, _⟩ := hSB
    exact ⟨b, c, e⟩
  obtain ⟨ib, ic, rfl⟩ : ∃ b c, vv = .slice (some ⟨b, 0, none⟩) vs.length c := by
    obtain ⟨b, c, _, e, _⟩ := hIB
    exact ⟨b, c, e⟩
  have hhb : w.heap.size ≤ hb := by
    obtain ⟨_, _, hHN, _⟩ := hN sb _ _ _ _ _ _ rfl
    obtain ⟨b, c, _, _, e, _, _, _, hB⟩ := hHN
    injection e with e1
    injection e1 with e1
    injection e1 with e1
    subst e1
    exact Nat.le_trans HG.out.lc.below.size hB
  have hll : LL w w.heap.size w2.heap.size d ys fs (.slice Ae d.eras.length ce) (.slice An d.notes.length cn) (.slice (some ⟨gy, 0, none⟩) ys.length cy) (.slice Af fs.length cf) w3.heap.size hand lts (.slice (some ⟨ib, 0, none⟩) vs.length ic) L (.slice (some ⟨hb, 0, none⟩) L.hands.length hc) (.slice (some ⟨sb, 0, none⟩) L.squares.length sc) ((w3.alloc (.cells #[.slice (some ⟨hb, 0, none⟩) L.hands.length hc, .int .i64 L.worn, .int .i64 L.scr, .int .i64 L.total, .slice (some ⟨sb, 0, none⟩) L.squares.length sc] 51)).alloc (.cells #[.int .i64 hand, .string lts, .slice (some ⟨ib, 0, none⟩) vs.length ic] 53)) := by
    have h3 := HG.out.lc.calls (show UrnAt w3 w.heap.size from hu3) (kgD hk3)
    have hbel := ((Below.refl w3.heap.size w3).alloc (Nat.le_refl _) (.cells #[.slice (some ⟨hb, 0, none⟩) L.hands.length hc, .int .i64 L.worn, .int .i64 L.scr, .int .i64 L.total, .slice (some ⟨sb, 0, none⟩) L.squares.length sc] 51)).alloc (by simp) (.cells #[.int .i64 hand, .string lts, .slice (some ⟨ib, 0, none⟩) vs.length ic] 53)
    have bl := (Blok.new w3 51 [.slice (some ⟨hb, 0, none⟩) L.hands.length hc, .int .i64 L.worn, .int .i64 L.scr, .int .i64 L.total, .slice (some ⟨sb, 0, none⟩) L.squares.length sc]).alloc (.cells #[.int .i64 hand, .string lts, .slice (some ⟨ib, 0, none⟩) vs.length ic] 53)
    have bc := Blok.new (w3.alloc (.cells #[.slice (some ⟨hb, 0, none⟩) L.hands.length hc, .int .i64 L.worn, .int .i64 L.scr, .int .i64 L.total, .slice (some ⟨sb, 0, none⟩) L.squares.length sc] 51)) 53 [.int .i64 hand, .string lts, .slice (some ⟨ib, 0, none⟩) vs.length ic]
    rw [World.size_alloc] at bc
    exact ⟨h3.to hbel, bl, bc, hHB.below hbel, hSB.below hbel⟩
  have HLL := Lib.hid hll
  have HLOK := Lib.hid hLok
  have HT := Lib.hid hT
  have HH := Lib.hid hH
  have HMK := Lib.hid hmk
  have hhl : hand < L.hands.length := hT.hand_lt
  have hL4 : L.hands.length ≤ 4 := hLok.2.1
  clear hll hLok hT hH hmk hIB hN hu3 hk3 hHB hSB HG
  go_upto_region 4 with fail
  obtain ⟨w4, hw4⟩ : ∃ w4, w4 = ((w3.alloc (.cells #[.slice (some ⟨hb, 0, none⟩) L.hands.length hc, .int .i64 L.worn, .int .i64 L.scr, .int .i64 L.total, .slice (some ⟨sb, 0, none⟩) L.squares.length sc] 51)).alloc (.cells #[.int .i64 hand, .string lts, .slice (some ⟨ib, 0, none⟩) vs.length ic] 53)) := ⟨_, rfl⟩
  rw [← hw4] at HLL ⊢
  clear hw4
  have d0 := HLL.out.lc.kd.cell 0
  simp at d0
  go_wp2_with fail
  refine (up_any _ _ _ (by omega) HLL.out.lc.urn).mono ?_
  rintro e w5 ⟨k, rfl, hk, hu, hkg⟩
  have hk : k < d.stones := by omega
  have HL5 := Lib.hid (HLL.out.calls hu hkg)
  clear hu hkg d0 HLL
  have l0 := HL5.out.kl.cell 0
  have c0 := HL5.out.kc.cell 0
  simp at l0 c0
  have hky : k < ys.length := by have := HNY.out; omega
  obtain ⟨y, hy⟩ : ∃ y, ys[k]? = some y := ⟨_, List.getElem?_eq_getElem hky⟩
  obtain ⟨yb1, yb2⟩ := HM.out.years y (List.mem_of_getElem? hy)
  have HCY := Lib.hid (fun (W : World) (oy : IntsO W w.heap.size (.slice (some ⟨gy, 0, none⟩) ys.length cy) ys) => (show W.cell? ⟨gy, k, none⟩ = some (.int .i64 y) by
    rw [oy.cellAt k (by omega)]
    simp [intCells, hy]))
  have HYK := Lib.hid hy
  clear hy
  go_wp2_with fail
  refine wp_region_v [(fun j => j == 2 || j == 4 || j == 5 || j == 7 || j == 8 || j == 10 || j == 12 || j == 13 || j == 15 || j == 16 || j == 17 || j == 19, fun W => W.cell? ⟨w2.heap.size + 1, 0, none⟩ = some (.slice (some ⟨gy, 0, none⟩) ys.length cy)), (fun j => j == 5 || j == 7 || j == 8 || j == 13 || j == 15 || j == 16 || j == 17 || j == 19, fun W => W.cell? ⟨gy, k, none⟩ = some (.int .i64 y))] (by kernel_rfl) ?_
  refine wpAnyV_world (fun W => LL w w.heap.size w2.heap.size d ys fs (.slice Ae d.eras.length ce) (.slice An d.notes.length cn) (.slice (some ⟨gy, 0, none⟩) ys.length cy) (.slice Af fs.length cf) w3.heap.size hand lts (.slice (some ⟨ib, 0, none⟩) vs.length ic) L (.slice (some ⟨hb, 0, none⟩) L.hands.length hc) (.slice (some ⟨sb, 0, none⟩) L.squares.length sc) W) HL5.out.drew (fun V hV => ?_)
  have HV := Lib.hid hV
  clear hV
  refine wpAnyV_free (i := 0) (v := ?_) (by simp only [List.getElem?_toArray, List.getElem?_cons_zero]; rfl) (by kernel_rfl) (by kernel_rfl) (by kernel_rfl) (by kernel_rfl) (by exact fun _ _ _ h => h) (Or.inl ⟨by rfl, ?hya2⟩) (behind_cons (fun h => by simp at h) (behind_cons (fun h => by simp at h) (fun p hp => by cases hp))) ?resta2
  case hya2 => (intro W' _; go_simp; try with_reducible rfl)
  try simp only [Act.put, List.setIfInBounds_toArray, List.set_cons_zero, List.set_cons_succ]
  refine wpAnyV_free (i := 1) (v := ?_) (by simp only [List.getElem?_toArray, List.getElem?_cons_zero, List.getElem?_cons_succ]; rfl) (by kernel_rfl) (by kernel_rfl) (by kernel_rfl) (by kernel_rfl) (by exact fun _ _ _ h => h) (Or.inl ⟨by rfl, ?hya3⟩) (behind_cons (fun h => by simp at h) (behind_cons (fun h => by simp at h) (fun p hp => by cases hp))) ?resta3
  case hya3 => (intro W' _; go_simp; try with_reducible rfl)
  try simp only [Act.put, List.setIfInBounds_toArray, List.set_cons_zero, List.set_cons_succ]
  refine wpAnyV_free (i := 3) (v := ?_) (by simp only [List.getElem?_toArray, List.getElem?_cons_zero, List.getElem?_cons_succ]; rfl) (by kernel_rfl) (by kernel_rfl) (by kernel_rfl) (by kernel_rfl) (by exact fun _ _ _ h => h) (Or.inl ⟨by rfl, ?hya4⟩) (behind_cons (fun h => by simp at h) (behind_cons (fun h => by simp at h) (fun p hp => by cases hp))) ?resta4
  case hya4 => (intro W' _; go_simp; try with_reducible rfl)
  try simp only [Act.put, List.setIfInBounds_toArray, List.set_cons_zero, List.set_cons_succ]
  refine wpAnyV_free (i := 6) (v := ?_) (by simp only [List.getElem?_toArray, List.getElem?_cons_zero, List.getElem?_cons_succ]; rfl) (by kernel_rfl) (by kernel_rfl) (by kernel_rfl) (by kernel_rfl) (by exact fun _ _ _ h => h) (Or.inl ⟨by rfl, ?hya5⟩) (behind_cons (fun h => by simp at h) (behind_cons (fun h => by simp at h) (fun p hp => by cases hp))) ?resta5
  case hya5 => (intro W' _; go_simp; try with_reducible rfl)
  try simp only [Act.put, List.setIfInBounds_toArray, List.set_cons_zero, List.set_cons_succ]
  refine wpAnyV_free (i := 9) (v := ?_) (by simp only [List.getElem?_toArray, List.getElem?_cons_zero, List.getElem?_cons_succ]; rfl) (by kernel_rfl) (by kernel_rfl) (by kernel_rfl) (by kernel_rfl) (by exact fun _ _ _ h => h) (Or.inl ⟨by rfl, ?hya6⟩) (behind_cons (fun h => by simp at h) (behind_cons (fun h => by simp at h) (fun p hp => by cases hp))) ?resta6
  case hya6 => (intro W' _; go_simp; try with_reducible rfl)
  try simp only [Act.put, List.setIfInBounds_toArray, List.set_cons_zero, List.set_cons_succ]
  refine wpAnyV_free (i := 11) (v := ?_) (by simp only [List.getElem?_toArray, List.getElem?_cons_zero, List.getElem?_cons_succ]; rfl) (by kernel_rfl) (by kernel_rfl) (by kernel_rfl) (by kernel_rfl) (by exact fun _ _ _ h => h) (Or.inl ⟨by rfl, ?hya7⟩) (behind_cons (fun h => by simp at h) (behind_cons (fun h => by simp at h) (fun p hp => by cases hp))) ?resta7
  case hya7 => (intro W' _; go_simp; try with_reducible rfl)
  try simp only [Act.put, List.setIfInBounds_toArray, List.set_cons_zero, List.set_cons_succ]
  refine wpAnyV_free (i := 14) (v := ?_) (by simp only [List.getElem?_toArray, List.getElem?_cons_zero, List.getElem?_cons_succ]; rfl) (by kernel_rfl) (by kernel_rfl) (by kernel_rfl) (by kernel_rfl) (by exact fun _ _ _ h => h) (Or.inl ⟨by rfl, ?hya8⟩) (behind_cons (fun h => by simp at h) (behind_cons (fun h => by simp at h) (fun p hp => by cases hp))) ?resta8
  case hya8 => (intro W' _; go_simp; try with_reducible rfl)
  try simp only [Act.put, List.setIfInBounds_toArray, List.set_cons_zero, List.set_cons_succ]
  refine wpAnyV_take (i := 2) (m := 0) (v := ?_) (by simp only [List.getElem?_toArray, List.getElem?_cons_zero, List.getElem?_cons_succ]; rfl) (by rfl) (by kernel_rfl) (by kernel_rfl) (by kernel_rfl) (by kernel_rfl) (by exact fun _ _ _ h => h) (Or.inl ⟨by rfl, ?hya9⟩) ((HV.out.lc.kw.cell 0)) (behind_cons (fun _ => (HV.out.lc.kw.cell 0)) (behind_cons (fun h => by simp at h) (fun p hp => by cases hp))) ?resta9
  case hya9 => (intro W' hSW; go_simp; try with_reducible rfl)
  try simp only [Act.put, List.setIfInBounds_toArray, List.set_cons_zero, List.set_cons_succ]
  refine wpAnyV_free (i := 4) (v := ?_) (by simp only [List.getElem?_toArray, List.getElem?_cons_zero, List.getElem?_cons_succ]; rfl) (by kernel_rfl) (by kernel_rfl) (by kernel_rfl) (by kernel_rfl) (by exact fun _ _ _ h => h) (Or.inl ⟨by rfl, ?hya10⟩) (behind_cons (fun _ => (HV.out.lc.kw.cell 0)) (behind_cons (fun h => by simp at h) (fun p hp => by cases hp))) ?resta10
  case hya10 => (intro W' _; go_simp; try with_reducible rfl)
  try simp only [Act.put, List.setIfInBounds_toArray, List.set_cons_zero, List.set_cons_succ]
  refine wpAnyV_take (i := 10) (m := 0) (v := ?_) (by simp only [List.getElem?_toArray, List.getElem?_cons_zero, List.getElem?_cons_succ]; rfl) (by rfl) (by kernel_rfl) (by kernel_rfl) (by kernel_rfl) (by kernel_rfl) (by exact fun _ _ _ h => h) (Or.inl ⟨by rfl, ?hya11⟩) ((HV.out.lc.kw.cell 0)) (behind_cons (fun _ => (HV.out.lc.kw.cell 0)) (behind_cons (fun h => by simp at h) (fun p hp => by cases hp))) ?resta11
  case hya11 => (intro W' hSW; go_simp; try with_reducible rfl)
  try simp only [Act.put, List.setIfInBounds_toArray, List.set_cons_zero, List.set_cons_succ]
  refine wpAnyV_free (i := 12) (v := ?_) (by simp only [List.getElem?_toArray, List.getElem?_cons_zero, List.getElem?_cons_succ]; rfl) (by kernel_rfl) (by kernel_rfl) (by kernel_rfl) (by kernel_rfl) (by exact fun _ _ _ h => h) (Or.inl ⟨by rfl, ?hya12⟩) (behind_cons (fun _ => (HV.out.lc.kw.cell 0)) (behind_cons (fun h => by simp at h) (fun p hp => by cases hp))) ?resta12
  case hya12 => (intro W' _; go_simp; try with_reducible rfl)
  try simp only [Act.put, List.setIfInBounds_toArray, List.set_cons_zero, List.set_cons_succ]
  refine wpAnyV_take (i := 5) (m := 1) (v := ?_) (by simp only [List.getElem?_toArray, List.getElem?_cons_zero, List.getElem?_cons_succ]; rfl) (by rfl) (by kernel_rfl) (by kernel_rfl) (by kernel_rfl) (by kernel_rfl) (by exact fun _ _ _ h => h) (Or.inl ⟨by rfl, ?hya13⟩) ((HCY.out _ HV.out.lc.oy)) (behind_cons (fun _ => (HV.out.lc.kw.cell 0)) (behind_cons (fun _ => (HCY.out _ HV.out.lc.oy)) (fun p hp => by cases hp))) ?resta13
  case hya13 => (intro W' hSW; go_simp; try with_reducible rfl)
  try simp only [Act.put, List.setIfInBounds_toArray, List.set_cons_zero, List.set_cons_succ]
  refine wpAnyV_take (i := 13) (m := 1) (v := ?_) (by simp only [List.getElem?_toArray, List.getElem?_cons_zero, List.getElem?_cons_succ]; rfl) (by rfl) (by kernel_rfl) (by kernel_rfl) (by kernel_rfl) (by kernel_rfl) (by exact fun _ _ _ h => h) (Or.inl ⟨by rfl, ?hya14⟩) ((HCY.out _ HV.out.lc.oy)) (behind_cons (fun _ => (HV.out.lc.kw.cell 0)) (behind_cons (fun _ => (HCY.out _ HV.out.lc.oy)) (fun p hp => by cases hp))) ?resta14
  case hya14 => (intro W' hSW; go_simp; try with_reducible rfl)
  try simp only [Act.put, List.setIfInBounds_toArray, List.set_cons_zero, List.set_cons_succ]
  refine wpAnyV_ready (rs := [7]) (by kernel_rfl) (by simp) ?_
  refine AllReadyV.cons (by simp only [List.getElem?_toArray, List.getElem?_cons_zero, List.getElem?_cons_succ]; rfl) (fun K hK => ?_) AllReadyV.nil
  go_simp
  go_at_call 12
  refine (up_any _ _ _ (by omega) HV.out.lc.urn).mono ?_
  rintro e w501 ⟨ua, rfl, hua, hu, hk⟩
  have HC501 := Lib.hid (HV.out.calls hu hk)
  have hua : (ua : Int) ≤ 8 := by omega
  have q5 : IntKind.i64.wrap (y - (ua : Int)) = y - ua := IntWalk.i64_in _ (by omega)
  clear hu hk
  refine hK.out _ _ (behind_cons (fun _ => (HC501.out.lc.kw.cell 0)) (behind_cons (fun _ => (HCY.out _ HC501.out.lc.oy)) (fun p hp => by cases hp))) ?_
  clear hK K
  try simp only [Act.put, List.setIfInBounds_toArray, List.set_cons_zero, List.set_cons_succ]
  refine wpAnyV_free (i := 8) (v := ?_) (by simp only [List.getElem?_toArray, List.getElem?_cons_zero, List.getElem?_cons_succ]; rfl) (by kernel_rfl) (by kernel_rfl) (by kernel_rfl) (by kernel_rfl) (by exact fun _ _ _ h => h) (Or.inl ⟨by rfl, ?hya16⟩) (behind_cons (fun _ => (HC501.out.lc.kw.cell 0)) (behind_cons (fun _ => (HCY.out _ HC501.out.lc.oy)) (fun p hp => by cases hp))) ?resta16
  case hya16 => (intro W' _; go_simp; try with_reducible rfl)
  try simp only [Act.put, List.setIfInBounds_toArray, List.set_cons_zero, List.set_cons_succ]
  refine wpAnyV_ready (rs := [15]) (by kernel_rfl) (by simp) ?_
  refine AllReadyV.cons (by simp only [List.getElem?_toArray, List.getElem?_cons_zero, List.getElem?_cons_succ]; rfl) (fun K hK => ?_) AllReadyV.nil
  go_simp
  go_at_call 12
  refine (up_any _ _ _ (by omega) HC501.out.lc.urn).mono ?_
  rintro e w502 ⟨ub, rfl, hub, hu, hk⟩
  have HC502 := Lib.hid (HC501.out.calls hu hk)
  have hub : (ub : Int) ≤ 8 := by omega
  have q6 : IntKind.i64.wrap (y + (ub : Int)) = y + ub := IntWalk.i64_in _ (by omega)
  clear hu hk
  refine hK.out _ _ (behind_cons (fun _ => (HC502.out.lc.kw.cell 0)) (behind_cons (fun _ => (HCY.out _ HC502.out.lc.oy)) (fun p hp => by cases hp))) ?_
  clear hK K
  try simp only [Act.put, List.setIfInBounds_toArray, List.set_cons_zero, List.set_cons_succ]
  refine wpAnyV_free (i := 16) (v := ?_) (by simp only [List.getElem?_toArray, List.getElem?_cons_zero, List.getElem?_cons_succ]; rfl) (by kernel_rfl) (by kernel_rfl) (by kernel_rfl) (by kernel_rfl) (by exact fun _ _ _ h => h) (Or.inl ⟨by rfl, ?hya18⟩) (behind_cons (fun _ => (HC502.out.lc.kw.cell 0)) (behind_cons (fun _ => (HCY.out _ HC502.out.lc.oy)) (fun p hp => by cases hp))) ?resta18
  case hya18 => (intro W' _; go_simp; try with_reducible rfl)
  try simp only [Act.put, List.setIfInBounds_toArray, List.set_cons_zero, List.set_cons_succ]
  refine wpAnyV_free (i := 17) (v := ?_) (by simp only [List.getElem?_toArray, List.getElem?_cons_zero, List.getElem?_cons_succ]; rfl) (by kernel_rfl) (by kernel_rfl) (by kernel_rfl) (by kernel_rfl) (by exact fun _ _ _ h => h) (Or.inl ⟨by rfl, ?hya19⟩) (behind_cons (fun _ => (HC502.out.lc.kw.cell 0)) (behind_cons (fun _ => (HCY.out _ HC502.out.lc.oy)) (fun p hp => by cases hp))) ?resta19
  case hya19 => (intro W' _; go_simp; try with_reducible rfl)
  try simp only [Act.put, List.setIfInBounds_toArray, List.set_cons_zero, List.set_cons_succ]
  refine wpAnyV_free (i := 18) (v := ?_) (by simp only [List.getElem?_toArray, List.getElem?_cons_zero, List.getElem?_cons_succ]; rfl) (by kernel_rfl) (by kernel_rfl) (by kernel_rfl) (by kernel_rfl) (by exact fun _ _ _ h => h) (Or.inl ⟨by rfl, ?hya20⟩) (behind_cons (fun h => by simp at h) (behind_cons (fun h => by simp at h) (fun p hp => by cases hp))) ?resta20
  case hya20 => (intro W' _; go_simp; try with_reducible rfl)
  try simp only [Act.put, List.setIfInBounds_toArray, List.set_cons_zero, List.set_cons_succ]
  refine wpAnyV_free (i := 19) (v := ?_) (by simp only [List.getElem?_toArray, List.getElem?_cons_zero, List.getElem?_cons_succ]; rfl) (by kernel_rfl) (by kernel_rfl) (by kernel_rfl) (by kernel_rfl) (by exact fun _ _ _ h => h) (Or.inl ⟨by rfl, ?hya21⟩) (behind_cons (fun _ => (HC502.out.lc.kw.cell 0)) (behind_cons (fun _ => (HCY.out _ HC502.out.lc.oy)) (fun p hp => by cases hp))) ?resta21
  case hya21 => (intro W' _; go_simp; try with_reducible rfl)
  try simp only [Act.put, List.setIfInBounds_toArray, List.set_cons_zero, List.set_cons_succ]
  refine wpAnyV_ready (rs := [20]) (by kernel_rfl) (by simp) ?_
  refine AllReadyV.cons (by simp only [List.getElem?_toArray, List.getElem?_cons_zero, List.getElem?_cons_succ]; rfl) (fun K hK => ?_) AllReadyV.nil
  obtain ⟨x0, x1, hfz⟩ := HC502.out.hcell HH.out
  have y0 := hfz (hand * 3)
  have y1 := hfz (hand * 3 + 1)
  clear hfz
  go_simp
  clear x0 x1 y0 y1
  have hyy := HC502.out.years (a := y - (ua : Int)) (b := y + (ub : Int)) hhb HH.out
  have HYY := Lib.hid hyy
  clear hyy
  refine hK.out _ _ (behind_cons (fun h => by simp at h) (behind_cons (fun h => by simp at h) (fun p hp => by cases hp))) ?_
  clear hK K
  try simp only [Act.put, List.setIfInBounds_toArray, List.set_cons_zero, List.set_cons_succ]
  refine wpAnyV_done (by kernel_rfl) ?_ _
  obtain ⟨w7, hw7⟩ : ∃ w7, w7 = (w502.setCell ⟨hb, hand * 3, none⟩ (.int .i64 (y - (ua : Int)))).setCell ⟨hb, hand * 3 + 1, none⟩ (.int .i64 (y + (ub : Int))) := ⟨_, rfl⟩
  rw [← hw7] at HYY ⊢
  clear hw7
  obtain ⟨L', hL'⟩ : ∃ L', L' = putY L hand H (y - (ua : Int)) (y + (ub : Int)) := ⟨_, rfl⟩
  have hok' : L'.ok := by rw [hL']; exact putY_ok HLOK.out HH.out (by omega) (by omega) (by omega)
  have hha' : hand ∈ Sg.handsOf L' := by
    rw [hL']
    exact Sg.truth_hand (putY_truth HT.out HH.out) _ (putY_hand HH.out) HMK.out
  have hlo' : Sg.lowOf L' hand = y - (ua : Int) := by rw [hL', Sg.low_at (putY_hand HH.out)]
  have hhi' : Sg.highOf L' hand = y + (ub : Int) := by rw [hL', Sg.high_at (putY_hand HH.out)]
  have hyh := Sg.years_hand hha'
  rw [hlo', hhi'] at hyh
  have hsp := years_span hok' (List.ne_nil_of_mem hha')
  have HYL := Lib.hid (Sg.years_yes _ L' w7 hok' (by rw [hL']; exact HYY.out.2.2.line) (List.ne_nil_of_mem hha'))
  obtain ⟨lo, hlo⟩ : ∃ x, x = (Sg.yearsOf L').1 := ⟨_, rfl⟩
  obtain ⟨hi, hhi⟩ : ∃ x, x = (Sg.yearsOf L').2 := ⟨_, rfl⟩
  unfold Sg.YearsPost at HYL
  rw [← hlo, ← hhi] at hyh hsp HYL
  have hloy : lo ≤ y := by omega
  have hyhi : y ≤ hi := by omega
  have HSP := Lib.hid hsp
  have HC7 := Lib.hid HYY.out.1
  have l0 := HYY.out.2.1.cell 0
  have l1 := HYY.out.2.1.cell 1
  have l2 := HYY.out.2.1.cell 2
  have l3 := HYY.out.2.1.cell 3
  have l4 := HYY.out.2.1.cell 4
  simp at l0 l1 l2 l3 l4
  clear hok' hha' hlo' hhi' hyh hlo hhi hsp HYY HL5 HLOK HT HH HMK q5 q6 hL'
  go_wp2_with fail
  refine HYL.out.mono ?_
  rintro e w8 ⟨rfl, hb8⟩
  have HC8 := Lib.hid (HC7.out.to hb8)
  clear hb8 l0 l1 l2 l3 l4 HYL HC7 hhl hL4 hhb
  go_upto_region 8 with fail
  obtain ⟨by_, hby⟩ : ∃ b, b = w8.heap.size := ⟨_, rfl⟩
  obtain ⟨w9, hw9⟩ : ∃ w9, w9 = w8.alloc (.cells #[.int .i64 lo, .int .i64 hi] 33) := ⟨_, rfl⟩
  have HC9 := Lib.hid (HC8.out.alloc (.cells #[.int .i64 lo, .int .i64 hi] 33))
  have HKY := Lib.hid (Blok.new w8 33 [.int .i64 lo, .int .i64 hi])
  rw [← hw9] at HC9 HKY ⊢
  rw [← hby] at HKY ⊢
  clear hw9 hby HC8
  have d0 := HC9.out.kd.cell 0
  have d1 := HC9.out.kd.cell 1
  have d2 := HC9.out.kd.cell 2
  simp at d0 d1 d2
  go_wp2_with fail
  refine (years_yes d HD.out HYES.out _ _ w9 (Nat.le_refl _) HC9.out.dat.dat).mono ?_
  rintro e w10 ⟨va, rfl, ha, hb⟩
  have HC10 := Lib.hid (HC9.out.to hb)
  have HKY10 := Lib.hid (HKY.out.below hb HKY.out.size)
  have HA10 := Lib.hid (show SpansO w10 w.heap.size va (spanList d 1 d.stones) from ha.mono HC9.out.below.size)
  rw [HLEN.out] at ha
  obtain ⟨Aa, ca, rfl⟩ := own_slice ha
  obtain ⟨ga, rfl⟩ := own_addr ha (by omega)
  clear ha hb d0 d1 d2 HC9 HKY
  have d0 := HC10.out.kd.cell 0
  have d1 := HC10.out.kd.cell 1
  have d2 := HC10.out.kd.cell 2
  simp at d0 d1 d2
  go_wp2_with fail
  refine (copyDating_any d HD.out _ _ w10 HC10.out.dat).mono ?_
  rintro e w11 ⟨vx, rfl, hX, hb⟩
  obtain ⟨Ax, cx, Bn, bn, rfl⟩ := hX.slices
  obtain ⟨bx, hbx⟩ : ∃ b, b = w11.heap.size := ⟨_, rfl⟩
  have ht12 : TL w w.heap.size [⟨w2.heap.size + 1, 36, [.slice (some ⟨gy, 0, none⟩) ys.length cy, .slice Af fs.length cf]⟩, ⟨by_, 33, [.int .i64 lo, .int .i64 hi]⟩] (.slice (some ⟨gy, 0, none⟩) ys.length cy) ys bx d (.slice Ax d.eras.length cx) (.slice Bn d.notes.length bn) [(.slice (some ⟨ga, 0, none⟩) d.stones ca, spanList d 1 d.stones)] (w11.alloc (.cells #[.int .i64 d.stones, .slice Ax d.eras.length cx, .slice Bn d.notes.length bn] 28)) := by
    have hc := HC10.out.to hb
    have hal := (Below.refl w11.heap.size w11).alloc (Nat.le_refl _) (.cells #[.int .i64 d.stones, .slice Ax d.eras.length cx, .slice Bn d.notes.length bn] 28)
    have hky := HKY10.out.below hb HKY10.out.size
    obtain ⟨ve', vn', e, h1, h2⟩ := (hX.mono HC10.out.below.size).below hal
    injection e with e
    simp at e
    obtain ⟨rfl, rfl⟩ := e
    have hc' := hc.to hal
    refine ⟨hc'.urn, hc'.hg, hc'.below, fun p hp => ?_, hc'.oy, by rw [hbx]; exact Blok.new w11 _ _, by rw [hbx]; exact hc.below.size, h1, h2, fun r hr => ?_⟩
    · simp only [List.mem_cons, List.not_mem_nil, or_false] at hp
      rcases hp with rfl | rfl
      · exact ⟨by show (36 : TypeId) ≠ _; decide, by show (36 : TypeId) ≠ _; decide, by have := hc.kw.size; show w2.heap.size + 1 ≠ bx; omega, hc'.kw⟩
      · exact ⟨by show (33 : TypeId) ≠ _; decide, by show (33 : TypeId) ≠ _; decide, by have := hky.size; show by_ ≠ bx; omega, hky.below hal hky.size⟩
    · rw [List.mem_singleton.1 hr]
      exact own_fx (own_fx HA10.out (Fx.of_all hb) (fun _ _ _ _ => trivial)) (Fx.of_all hal) (fun _ _ _ _ => trivial)
  have HT12 := Lib.hid ht12
  clear ht12 hX hb d0 d1 d2 HC10 HKY10 HA10
  go_upto_region 12 with fail
  rw [← hbx]
  obtain ⟨w12, hw12⟩ : ∃ w12, w12 = w11.alloc (.cells #[.int .i64 d.stones, .slice Ax d.eras.length cx, .slice Bn d.notes.length bn] 28) := ⟨_, rfl⟩
  rw [← hw12] at HT12 ⊢
  clear hw12 hbx
  obtain ⟨xs9, hxs, hon, hyr⟩ := HT12.out.no
  have HXS := Lib.hid hxs
  have HON := Lib.hid (show w12.ownsRow w.heap.size 64 6 (.slice Bn d.notes.length bn) d.notes.length (cellsN xs9) from by have h := hon; exact h)
  have HYR := Lib.hid hyr
  have e2 := HT12.out.kx.cell 2
  have p0 := (HT12.out.blok 1 rfl).cell 0
  have p1 := (HT12.out.blok 1 rfl).cell 1
  simp at e2 p0 p1
  have hbxl := HT12.out.kx.size
  have hbyl := (HT12.out.blok 1 rfl).size
  clear hxs hon hyr
  go_upto_region 13 with (at_builtin; refine wpList_append_lies _ rfl _ _ 26 rfl w.heap.size 64 kI _ 6 64 Tryz.underlying26 HQ.out HQ0.out HQ1.out HQ2.out rfl (by decide) (.slice Bn d.notes.length bn) d.notes.length (cellsN xs9) (by rfl) (HON.out.alloc _) ⟨w12.heap.size, 0, none⟩ 1 1 [.int .i64 2, .int .i64 k, .int .i64 0, .slice none 0 0, .int .i64 lo, .int .i64 hi] (by rfl) (by rfl) (World.news_of_block (cs := #[.int .i64 2, .int .i64 k, .int .i64 0, .slice none 0 0, .int .i64 lo, .int .i64 hi]) (t := 64) (fr := (0, 0)) (heap_alloc_new w12 _)) (by simp [Value.oneCell']) (by omega) (by unfold maxLen; omega) (by omega) (by have := HT12.out.below.size; simp; omega) _ rfl ?_; intro g8 c8 wq hown8 hgrow8 hat8 hlt8; have hkx8 := (HT12.out.kx.alloc (.cells #[.int .i64 2, .int .i64 k, .int .i64 0, .slice none 0 0, .int .i64 lo, .int .i64 hi] 64)).grown hgrow8 (own_ne (HON.out.alloc (.cells #[.int .i64 2, .int .i64 k, .int .i64 0, .slice none 0 0, .int .i64 lo, .int .i64 hi] 64)) (HT12.out.kx.alloc (.cells #[.int .i64 2, .int .i64 k, .int .i64 0, .slice none 0 0, .int .i64 lo, .int .i64 hi] 64)) (by decide)); have h8 := (HT12.out.alloc (.cells #[.int .i64 2, .int .i64 k, .int .i64 0, .slice none 0 0, .int .i64 lo, .int .i64 hi] 64)).note (n := spanN k lo hi) (vyx := .slice none 0 0) (xn' := .slice (some ⟨g8, 0, none⟩) (d.notes.length + 1) c8) HXS.out (by exact HON.out.alloc _) (fun p hp => (HYR.out p hp).alloc _) hgrow8 (by exact hown8) (World.ownsRow_nil _ _ _ _); have H8 := Lib.hid h8; have q2 := hkx8.cell 2; have f2 := hkx8.free 2; simp at q2; clear hown8 hgrow8 hat8 hlt8 h8 hkx8)
  obtain ⟨x1, hx1⟩ : ∃ x, x = d.plus (spanN k lo hi) := ⟨_, rfl⟩
  obtain ⟨w13, hw13⟩ : ∃ w13, w13 = wq.setCell ⟨bx, 2, none⟩ (.slice (some ⟨g8, 0, none⟩) (d.notes.length + 1) c8) := ⟨_, rfl⟩
  have HT13 := H8
  rw [← hw13, ← hx1] at HT13
  rw [← hw13]
  have hok1 : x1.Ok := by rw [hx1]; exact plus_ok HD.out (spanN_ok hk HSP.out) (by omega)
  have hmay1 : x1.may := by rw [hx1]; exact ⟨_, (plus_is _).2 ⟨HM.out.is, span_right (by omega) HYK.out hloy hyhi⟩⟩
  have hsub1 : ∀ z, x1.Is z → d.Is z := fun z hz => by rw [hx1] at hz; exact ((plus_is z).1 hz).1
  have hst1 : x1.stones = d.stones := by rw [hx1]; rfl
  have hnl1 : x1.notes.length = d.notes.length + 1 := by rw [hx1]; simp [Dat.plus]
  have hwi1 : lo ≤ (x1.span (1 + k)).1 ∧ (x1.span (1 + k)).2 ≤ hi := by rw [hx1] at hok1 hmay1 ⊢; exact span_within hok1 hmay1 (by omega)
  have hha1 : (x1.span (1 + k)).1 ≤ y ∧ y ≤ (x1.span (1 + k)).2 := by
    have h3 := (span_spec hok1 hmay1 (1 + k) (by omega)).2.2 (xOf ys fs) (by rw [hx1]; exact (plus_is _).2 ⟨HM.out.is, span_right (by omega) HYK.out hloy hyhi⟩)
    rw [xOf_stone ys fs k y (by omega) HYK.out] at h3
    exact h3
  have HOK1 := Lib.hid hok1
  have HMY1 := Lib.hid hmay1
  have HYE1 := Lib.hid ((may_iff hok1).1 hmay1)
  have HSB1 := Lib.hid hsub1
  have HST1 := Lib.hid hst1
  have HNL1 := Lib.hid hnl1
  have HWI1 := Lib.hid hwi1
  have HHA1 := Lib.hid hha1
  clear hx1 hw13 hok1 hmay1 hsub1 hst1 hnl1 hwi1 hha1 e2 p0 p1 q2 f2 hbxl hbyl H8 HXS HON HYR HT12
  have d0 := HT13.out.kx.cell 0
  have d1 := HT13.out.kx.cell 1
  have d2 := HT13.out.kx.cell 2
  simp at d0 d1 d2
  go_wp2_with fail
  refine (years_yes x1 HOK1.out HYE1.out _ _ w13 (Nat.le_refl _) HT13.out.dat.dat).mono ?_
  rintro e w14 ⟨vb, rfl, hb', hb⟩
  have HT14 := Lib.hid ((HT13.out.to hb).addR (vb, spanList x1 1 x1.stones) (hb'.mono HT13.out.below.size))
  rw [HLEN.out, HST1.out] at hb'
  obtain ⟨Ab, cb, rfl⟩ := own_slice hb'
  obtain ⟨gb, rfl⟩ := own_addr hb' (by omega)
  have HT14 : Hid (TL w w.heap.size [⟨w2.heap.size + 1, 36, [.slice (some ⟨gy, 0, none⟩) ys.length cy, .slice Af fs.length cf]⟩, ⟨by_, 33, [.int .i64 lo, .int .i64 hi]⟩] (.slice (some ⟨gy, 0, none⟩) ys.length cy) ys bx x1 (.slice Ax d.eras.length cx) (.slice (some ⟨g8, 0, none⟩) (d.notes.length + 1) c8) [(.slice (some ⟨ga, 0, none⟩) d.stones ca, spanList d 1 d.stones), (.slice (some ⟨gb, 0, none⟩) d.stones cb, spanList x1 1 x1.stones)] w14) := HT14
  clear hb' hb d0 d1 d2 HT13
  have HB := Lib.hid (fun (i : Nat) (hil : i < d.stones) (W : World) (h : TL w w.heap.size [⟨w2.heap.size + 1, 36, [.slice (some ⟨gy, 0, none⟩) ys.length cy, .slice Af fs.length cf]⟩, ⟨by_, 33, [.int .i64 lo, .int .i64 hi]⟩] (.slice (some ⟨gy, 0, none⟩) ys.length cy) ys bx x1 (.slice Ax d.eras.length cx) (.slice (some ⟨g8, 0, none⟩) (d.notes.length + 1) c8) [(.slice (some ⟨ga, 0, none⟩) d.stones ca, spanList d 1 d.stones), (.slice (some ⟨gb, 0, none⟩) d.stones cb, spanList x1 1 x1.stones)] W) => (show W.cell? ⟨gb, i * 2, none⟩ = some (.int .i64 (x1.span (1 + i)).1) ∧ W.cell? ⟨gb, i * 2 + 1, none⟩ = some (.int .i64 (x1.span (1 + i)).2) from by
    have hr : W.ownsRow w.heap.size 33 2 (.slice (some ⟨gb, 0, none⟩) d.stones cb) (spanList x1 1 x1.stones).length (flatS (spanList x1 1 x1.stones)) := h.row 1 rfl
    rw [HLEN.out, HST1.out] at hr
    obtain ⟨u1, u2⟩ := flatS_at (spanList x1 1 d.stones) i (x1.span (1 + i)) (by simp [spanList, hil])
    exact ⟨(hr.cellAt (i * 2) (by omega)).trans u1, (hr.cellAt (i * 2 + 1) (by omega)).trans u2⟩))
  have HA := Lib.hid (fun (i : Nat) (hil : i < d.stones) (W : World) (h : TL w w.heap.size [⟨w2.heap.size + 1, 36, [.slice (some ⟨gy, 0, none⟩) ys.length cy, .slice Af fs.length cf]⟩, ⟨by_, 33, [.int .i64 lo, .int .i64 hi]⟩] (.slice (some ⟨gy, 0, none⟩) ys.length cy) ys bx x1 (.slice Ax d.eras.length cx) (.slice (some ⟨g8, 0, none⟩) (d.notes.length + 1) c8) [(.slice (some ⟨ga, 0, none⟩) d.stones ca, spanList d 1 d.stones), (.slice (some ⟨gb, 0, none⟩) d.stones cb, spanList x1 1 x1.stones)] W) => (show W.cell? ⟨ga, i * 2, none⟩ = some (.int .i64 (d.span (1 + i)).1) ∧ W.cell? ⟨ga, i * 2 + 1, none⟩ = some (.int .i64 (d.span (1 + i)).2) from by
    have hr : W.ownsRow w.heap.size 33 2 (.slice (some ⟨ga, 0, none⟩) d.stones ca) (spanList d 1 d.stones).length (flatS (spanList d 1 d.stones)) := h.row 0 rfl
    rw [HLEN.out] at hr
    obtain ⟨u1, u2⟩ := flatS_at (spanList d 1 d.stones) i (d.span (1 + i)) (by simp [spanList, hil])
    exact ⟨(hr.cellAt (i * 2) (by omega)).trans u1, (hr.cellAt (i * 2 + 1) (by omega)).trans u2⟩))
  have HWW := Lib.hid (fun (p q : Int × Int) (h1 : q.1 ≤ p.1) (h2 : p.2 ≤ q.2) (w : World) => (show Calls Tryz.prog 20 #[.agg #[.int .i64 p.1, .int .i64 p.2], .agg #[.int .i64 q.1, .int .i64 q.2]] w fun e w' => e = .returned (.bool true) ∧ Below w.heap.size w w' from by
    have h := withinS_any p.1 p.2 q.1 q.2 w
    rwa [show withinB p.1 p.2 q.1 q.2 = true by simp [withinB, h1, h2]] at h))
  obtain ⟨p, hp⟩ : ∃ p, p = x1.span (1 + k) := ⟨_, rfl⟩
  have hBk := HB.out k hk
  have hwi1 := HWI1.out
  have hha1 := HHA1.out
  rw [← hp] at hBk hwi1 hha1
  have HBk := Lib.hid hBk
  have HW1 := Lib.hid (HWW.out p (lo, hi) hwi1.1 hwi1.2)
  have HH1 : Hid (∀ w : World, Calls Tryz.prog 21 #[.agg #[.int .i64 p.1, .int .i64 p.2], .int .i64 y] w fun e w' => e = .returned (.bool true) ∧ Below w.heap.size w w') := Lib.hid fun w => by
    have h := hasIn_any p.1 p.2 y w
    rwa [show hasB p.1 p.2 y = true by simp [hasB, hha1.1, hha1.2]] at h
  clear hBk hwi1 hha1 hp HWI1 HHA1
  go_wp2_with fail
  refine wp_region_v [(fun j => j == 13 || j == 14 || j == 15 || j == 16 || j == 17 || j == 18 || j == 19 || j == 20 || j == 21 || j == 22 || j == 23 || j == 24 || j == 25 || j == 26 || j == 27 || j == 28 || j == 29 || j == 30, fun W => W.cell? ⟨gb, k * 2, none⟩ = some (.int .i64 p.1) ∧ W.cell? ⟨gb, k * 2 + 1, none⟩ = some (.int .i64 p.2)), (fun j => j == 14 || j == 15 || j == 16 || j == 17 || j == 18 || j == 19 || j == 20 || j == 21 || j == 22 || j == 23 || j == 24 || j == 25 || j == 26 || j == 27 || j == 28 || j == 29 || j == 30, fun W => W.cell? ⟨by_, 0, none⟩ = some (.int .i64 lo) ∧ W.cell? ⟨by_, 1, none⟩ = some (.int .i64 hi)), (fun j => j == 15 || j == 16 || j == 17 || j == 18 || j == 19 || j == 20 || j == 21 || j == 22 || j == 23 || j == 24 || j == 25 || j == 26 || j == 27 || j == 28 || j == 29 || j == 30, fun W => W.cell? ⟨w2.heap.size + 1, 0, none⟩ = some (.slice (some ⟨gy, 0, none⟩) ys.length cy)), (fun j => j == 15 || j == 16 || j == 17 || j == 18 || j == 19 || j == 20 || j == 21 || j == 22 || j == 23 || j == 24 || j == 25 || j == 26 || j == 27 || j == 28 || j == 29 || j == 30, fun W => W.cell? ⟨gy, k, none⟩ = some (.int .i64 y))] (by kernel_rfl) ?_
  refine wpAnyV_world (fun W => TL w w.heap.size [⟨w2.heap.size + 1, 36, [.slice (some ⟨gy, 0, none⟩) ys.length cy, .slice Af fs.length cf]⟩, ⟨by_, 33, [.int .i64 lo, .int .i64 hi]⟩] (.slice (some ⟨gy, 0, none⟩) ys.length cy) ys bx x1 (.slice Ax d.eras.length cx) (.slice (some ⟨g8, 0, none⟩) (d.notes.length + 1) c8) [(.slice (some ⟨ga, 0, none⟩) d.stones ca, spanList d 1 d.stones), (.slice (some ⟨gb, 0, none⟩) d.stones cb, spanList x1 1 x1.stones)] W) HT14.out.drew (fun V hV => ?_)
  have HV := Lib.hid hV
  clear hV
  refine wpAnyV_free (i := 0) (v := ?_) (by simp only [List.getElem?_toArray, List.getElem?_cons_zero]; rfl) (by kernel_rfl) (by kernel_rfl) (by kernel_rfl) (by kernel_rfl) (by exact fun _ _ _ h => h) (Or.inl ⟨by rfl, ?hyb2⟩) (behind_cons (fun h => by simp at h) (behind_cons (fun h => by simp at h) (behind_cons (fun h => by simp at h) (behind_cons (fun h => by simp at h) (fun p hp => by cases hp))))) ?restb2
  case hyb2 => (intro W' _; go_simp; try with_reducible rfl)
  try simp only [Act.put, List.setIfInBounds_toArray, List.set_cons_zero, List.set_cons_succ]
  refine wpAnyV_free (i := 1) (v := ?_) (by simp only [List.getElem?_toArray, List.getElem?_cons_zero, List.getElem?_cons_succ]; rfl) (by kernel_rfl) (by kernel_rfl) (by kernel_rfl) (by kernel_rfl) (by exact fun _ _ _ h => h) (Or.inl ⟨by rfl, ?hyb3⟩) (behind_cons (fun h => by simp at h) (behind_cons (fun h => by simp at h) (behind_cons (fun h => by simp at h) (behind_cons (fun h => by simp at h) (fun p hp => by cases hp))))) ?restb3
  case hyb3 => (intro W' _; go_simp; try with_reducible rfl)
  try simp only [Act.put, List.setIfInBounds_toArray, List.set_cons_zero, List.set_cons_succ]
  refine wpAnyV_free (i := 2) (v := ?_) (by simp only [List.getElem?_toArray, List.getElem?_cons_zero, List.getElem?_cons_succ]; rfl) (by kernel_rfl) (by kernel_rfl) (by kernel_rfl) (by kernel_rfl) (by exact fun _ _ _ h => h) (Or.inl ⟨by rfl, ?hyb4⟩) (behind_cons (fun h => by simp at h) (behind_cons (fun h => by simp at h) (behind_cons (fun h => by simp at h) (behind_cons (fun h => by simp at h) (fun p hp => by cases hp))))) ?restb4
  case hyb4 => (intro W' _; go_simp; try with_reducible rfl)
  try simp only [Act.put, List.setIfInBounds_toArray, List.set_cons_zero, List.set_cons_succ]
  refine wpAnyV_free (i := 3) (v := ?_) (by simp only [List.getElem?_toArray, List.getElem?_cons_zero, List.getElem?_cons_succ]; rfl) (by kernel_rfl) (by kernel_rfl) (by kernel_rfl) (by kernel_rfl) (by exact fun _ _ _ h => h) (Or.inl ⟨by rfl, ?hyb5⟩) (behind_cons (fun h => by simp at h) (behind_cons (fun h => by simp at h) (behind_cons (fun h => by simp at h) (behind_cons (fun h => by simp at h) (fun p hp => by cases hp))))) ?restb5
  case hyb5 => (intro W' _; go_simp; try with_reducible rfl)
  try simp only [Act.put, List.setIfInBounds_toArray, List.set_cons_zero, List.set_cons_succ]
  refine wpAnyV_free (i := 4) (v := ?_) (by simp only [List.getElem?_toArray, List.getElem?_cons_zero, List.getElem?_cons_succ]; rfl) (by kernel_rfl) (by kernel_rfl) (by kernel_rfl) (by kernel_rfl) (by exact fun _ _ _ h => h) (Or.inl ⟨by rfl, ?hyb6⟩) (behind_cons (fun h => by simp at h) (behind_cons (fun h => by simp at h) (behind_cons (fun h => by simp at h) (behind_cons (fun h => by simp at h) (fun p hp => by cases hp))))) ?restb6
  case hyb6 => (intro W' _; go_simp; try with_reducible rfl)
  try simp only [Act.put, List.setIfInBounds_toArray, List.set_cons_zero, List.set_cons_succ]
  refine wpAnyV_free (i := 5) (v := ?_) (by simp only [List.getElem?_toArray, List.getElem?_cons_zero, List.getElem?_cons_succ]; rfl) (by kernel_rfl) (by kernel_rfl) (by kernel_rfl) (by kernel_rfl) (by exact fun _ _ _ h => h) (Or.inl ⟨by rfl, ?hyb7⟩) (behind_cons (fun h => by simp at h) (behind_cons (fun h => by simp at h) (behind_cons (fun h => by simp at h) (behind_cons (fun h => by simp at h) (fun p hp => by cases hp))))) ?restb7
  case hyb7 => (intro W' _; go_simp; try with_reducible rfl)
  try simp only [Act.put, List.setIfInBounds_toArray, List.set_cons_zero, List.set_cons_succ]
  refine wpAnyV_free (i := 6) (v := ?_) (by simp only [List.getElem?_toArray, List.getElem?_cons_zero, List.getElem?_cons_succ]; rfl) (by kernel_rfl) (by kernel_rfl) (by kernel_rfl) (by kernel_rfl) (by exact fun _ _ _ h => h) (Or.inl ⟨by rfl, ?hyb8⟩) (behind_cons (fun h => by simp at h) (behind_cons (fun h => by simp at h) (behind_cons (fun h => by simp at h) (behind_cons (fun h => by simp at h) (fun p hp => by cases hp))))) ?restb8
  case hyb8 => (intro W' _; go_simp; try with_reducible rfl)
  try simp only [Act.put, List.setIfInBounds_toArray, List.set_cons_zero, List.set_cons_succ]
  refine wpAnyV_free (i := 7) (v := ?_) (by simp only [List.getElem?_toArray, List.getElem?_cons_zero, List.getElem?_cons_succ]; rfl) (by kernel_rfl) (by kernel_rfl) (by kernel_rfl) (by kernel_rfl) (by exact fun _ _ _ h => h) (Or.inl ⟨by rfl, ?hyb9⟩) (behind_cons (fun h => by simp at h) (behind_cons (fun h => by simp at h) (behind_cons (fun h => by simp at h) (behind_cons (fun h => by simp at h) (fun p hp => by cases hp))))) ?restb9
  case hyb9 => (intro W' _; go_simp; try with_reducible rfl)
  try simp only [Act.put, List.setIfInBounds_toArray, List.set_cons_zero, List.set_cons_succ]
  refine wpAnyV_free (i := 8) (v := ?_) (by simp only [List.getElem?_toArray, List.getElem?_cons_zero, List.getElem?_cons_succ]; rfl) (by kernel_rfl) (by kernel_rfl) (by kernel_rfl) (by kernel_rfl) (by exact fun _ _ _ h => h) (Or.inl ⟨by rfl, ?hyb10⟩) (behind_cons (fun h => by simp at h) (behind_cons (fun h => by simp at h) (behind_cons (fun h => by simp at h) (behind_cons (fun h => by simp at h) (fun p hp => by cases hp))))) ?restb10
  case hyb10 => (intro W' _; go_simp; try with_reducible rfl)
  try simp only [Act.put, List.setIfInBounds_toArray, List.set_cons_zero, List.set_cons_succ]
  refine wpAnyV_free (i := 9) (v := ?_) (by simp only [List.getElem?_toArray, List.getElem?_cons_zero, List.getElem?_cons_succ]; rfl) (by kernel_rfl) (by kernel_rfl) (by kernel_rfl) (by kernel_rfl) (by exact fun _ _ _ h => h) (Or.inl ⟨by rfl, ?hyb11⟩) (behind_cons (fun h => by simp at h) (behind_cons (fun h => by simp at h) (behind_cons (fun h => by simp at h) (behind_cons (fun h => by simp at h) (fun p hp => by cases hp))))) ?restb11
  case hyb11 => (intro W' _; go_simp; try with_reducible rfl)
  try simp only [Act.put, List.setIfInBounds_toArray, List.set_cons_zero, List.set_cons_succ]
  refine wpAnyV_free (i := 10) (v := ?_) (by simp only [List.getElem?_toArray, List.getElem?_cons_zero, List.getElem?_cons_succ]; rfl) (by kernel_rfl) (by kernel_rfl) (by kernel_rfl) (by kernel_rfl) (by exact fun _ _ _ h => h) (Or.inl ⟨by rfl, ?hyb12⟩) (behind_cons (fun h => by simp at h) (behind_cons (fun h => by simp at h) (behind_cons (fun h => by simp at h) (behind_cons (fun h => by simp at h) (fun p hp => by cases hp))))) ?restb12
  case hyb12 => (intro W' _; go_simp; try with_reducible rfl)
  try simp only [Act.put, List.setIfInBounds_toArray, List.set_cons_zero, List.set_cons_succ]
  refine wpAnyV_free (i := 11) (v := ?_) (by simp only [List.getElem?_toArray, List.getElem?_cons_zero, List.getElem?_cons_succ]; rfl) (by kernel_rfl) (by kernel_rfl) (by kernel_rfl) (by kernel_rfl) (by exact fun _ _ _ h => h) (Or.inl ⟨by rfl, ?hyb13⟩) (behind_cons (fun h => by simp at h) (behind_cons (fun h => by simp at h) (behind_cons (fun h => by simp at h) (behind_cons (fun h => by simp at h) (fun p hp => by cases hp))))) ?restb13
  case hyb13 => (intro W' _; go_simp; try with_reducible rfl)
  try simp only [Act.put, List.setIfInBounds_toArray, List.set_cons_zero, List.set_cons_succ]
  refine wpAnyV_free (i := 12) (v := ?_) (by simp only [List.getElem?_toArray, List.getElem?_cons_zero, List.getElem?_cons_succ]; rfl) (by kernel_rfl) (by kernel_rfl) (by kernel_rfl) (by kernel_rfl) (by exact fun _ _ _ h => h) (Or.inl ⟨by rfl, ?hyb14⟩) (behind_cons (fun h => by simp at h) (behind_cons (fun h => by simp at h) (behind_cons (fun h => by simp at h) (behind_cons (fun h => by simp at h) (fun p hp => by cases hp))))) ?restb14
  case hyb14 => (intro W' _; go_simp; try with_reducible rfl)
  try simp only [Act.put, List.setIfInBounds_toArray, List.set_cons_zero, List.set_cons_succ]
  refine wpAnyV_take (i := 13) (m := 0) (v := ?_) (by simp only [List.getElem?_toArray, List.getElem?_cons_zero, List.getElem?_cons_succ]; rfl) (by rfl) (by kernel_rfl) (by kernel_rfl) (by kernel_rfl) (by kernel_rfl) (by exact fun _ _ _ h => h) (Or.inl ⟨by rfl, ?hyb15⟩) ((HBk.out _ HV.out)) (behind_cons (fun _ => (HBk.out _ HV.out)) (behind_cons (fun h => by simp at h) (behind_cons (fun h => by simp at h) (behind_cons (fun h => by simp at h) (fun p hp => by cases hp))))) ?restb15
  case hyb15 => (intro W' hSW; obtain ⟨hSW1, hSW2⟩ := hSW; go_simp; try with_reducible rfl)
  try simp only [Act.put, List.setIfInBounds_toArray, List.set_cons_zero, List.set_cons_succ]
  refine wpAnyV_take (i := 14) (m := 1) (v := ?_) (by simp only [List.getElem?_toArray, List.getElem?_cons_zero, List.getElem?_cons_succ]; rfl) (by rfl) (by kernel_rfl) (by kernel_rfl) (by kernel_rfl) (by kernel_rfl) (by exact fun _ _ _ h => h) (Or.inl ⟨by rfl, ?hyb16⟩) ((And.intro ((HV.out.blok 1 rfl).cell 0) ((HV.out.blok 1 rfl).cell 1))) (behind_cons (fun _ => (HBk.out _ HV.out)) (behind_cons (fun _ => (And.intro ((HV.out.blok 1 rfl).cell 0) ((HV.out.blok 1 rfl).cell 1))) (behind_cons (fun h => by simp at h) (behind_cons (fun h => by simp at h) (fun p hp => by cases hp))))) ?restb16
  case hyb16 => (intro W' hSW; obtain ⟨hSW1, hSW2⟩ := hSW; go_simp; try with_reducible rfl)
  try simp only [Act.put, List.setIfInBounds_toArray, List.set_cons_zero, List.set_cons_succ]
  refine wpAnyV_ready (rs := [15]) (by kernel_rfl) (by simp) ?_
  refine AllReadyV.cons (by simp only [List.getElem?_toArray, List.getElem?_cons_zero, List.getElem?_cons_succ]; rfl) (fun K hK => ?_) AllReadyV.nil
  go_simp
  go_at_call 20
  (with_reducible refine (HW1.out _).mono ?_)
  rintro e w503 ⟨rfl, hb⟩
  have HC503 := Lib.hid (HV.out.to hb)
  clear hb
  refine hK.out _ _ (behind_cons (fun _ => (HBk.out _ HC503.out)) (behind_cons (fun _ => (And.intro ((HC503.out.blok 1 rfl).cell 0) ((HC503.out.blok 1 rfl).cell 1))) (behind_cons (fun _ => ((HC503.out.blok 0 rfl).cell 0)) (behind_cons (fun _ => (HCY.out _ HC503.out.oy)) (fun p hp => by cases hp))))) ?_
  clear hK K
  try simp only [Act.put, List.setIfInBounds_toArray, List.set_cons_zero, List.set_cons_succ]
  refine wpAnyV_free (i := 16) (v := ?_) (by simp only [List.getElem?_toArray, List.getElem?_cons_zero, List.getElem?_cons_succ]; rfl) (by kernel_rfl) (by kernel_rfl) (by kernel_rfl) (by kernel_rfl) (by exact fun _ _ _ h => h) (Or.inl ⟨by rfl, ?hyb18⟩) (behind_cons (fun _ => (HBk.out _ HC503.out)) (behind_cons (fun _ => (And.intro ((HC503.out.blok 1 rfl).cell 0) ((HC503.out.blok 1 rfl).cell 1))) (behind_cons (fun _ => ((HC503.out.blok 0 rfl).cell 0)) (behind_cons (fun _ => (HCY.out _ HC503.out.oy)) (fun p hp => by cases hp))))) ?restb18
  case hyb18 => (intro W' _; go_simp; try with_reducible rfl)
  try simp only [Act.put, List.setIfInBounds_toArray, List.set_cons_zero, List.set_cons_succ]
  refine wpAnyV_free (i := 17) (v := ?_) (by simp only [List.getElem?_toArray, List.getElem?_cons_zero, List.getElem?_cons_succ]; rfl) (by kernel_rfl) (by kernel_rfl) (by kernel_rfl) (by kernel_rfl) (by exact fun _ _ _ h => h) (Or.inl ⟨by rfl, ?hyb19⟩) (behind_cons (fun _ => (HBk.out _ HC503.out)) (behind_cons (fun _ => (And.intro ((HC503.out.blok 1 rfl).cell 0) ((HC503.out.blok 1 rfl).cell 1))) (behind_cons (fun _ => ((HC503.out.blok 0 rfl).cell 0)) (behind_cons (fun _ => (HCY.out _ HC503.out.oy)) (fun p hp => by cases hp))))) ?restb19
  case hyb19 => (intro W' _; go_simp; try with_reducible rfl)
  try simp only [Act.put, List.setIfInBounds_toArray, List.set_cons_zero, List.set_cons_succ]
  refine wpAnyV_free (i := 18) (v := ?_) (by simp only [List.getElem?_toArray, List.getElem?_cons_zero, List.getElem?_cons_succ]; rfl) (by kernel_rfl) (by kernel_rfl) (by kernel_rfl) (by kernel_rfl) (by exact fun _ _ _ h => h) (Or.inl ⟨by rfl, ?hyb20⟩) (behind_cons (fun _ => (HBk.out _ HC503.out)) (behind_cons (fun _ => (And.intro ((HC503.out.blok 1 rfl).cell 0) ((HC503.out.blok 1 rfl).cell 1))) (behind_cons (fun _ => ((HC503.out.blok 0 rfl).cell 0)) (behind_cons (fun _ => (HCY.out _ HC503.out.oy)) (fun p hp => by cases hp))))) ?restb20
  case hyb20 => (intro W' _; go_simp; try with_reducible rfl)
  try simp only [Act.put, List.setIfInBounds_toArray, List.set_cons_zero, List.set_cons_succ]
  refine wpAnyV_free (i := 19) (v := ?_) (by simp only [List.getElem?_toArray, List.getElem?_cons_zero, List.getElem?_cons_succ]; rfl) (by kernel_rfl) (by kernel_rfl) (by kernel_rfl) (by kernel_rfl) (by exact fun _ _ _ h => h) (Or.inl ⟨by rfl, ?hyb21⟩) (behind_cons (fun _ => (HBk.out _ HC503.out)) (behind_cons (fun _ => (And.intro ((HC503.out.blok 1 rfl).cell 0) ((HC503.out.blok 1 rfl).cell 1))) (behind_cons (fun _ => ((HC503.out.blok 0 rfl).cell 0)) (behind_cons (fun _ => (HCY.out _ HC503.out.oy)) (fun p hp => by cases hp))))) ?restb21
  case hyb21 => (intro W' _; go_simp; try with_reducible rfl)
  try simp only [Act.put, List.setIfInBounds_toArray, List.set_cons_zero, List.set_cons_succ]
  refine wpAnyV_free (i := 20) (v := ?_) (by simp only [List.getElem?_toArray, List.getElem?_cons_zero, List.getElem?_cons_succ]; rfl) (by kernel_rfl) (by kernel_rfl) (by kernel_rfl) (by kernel_rfl) (by exact fun _ _ _ h => h) (Or.inl ⟨by rfl, ?hyb22⟩) (behind_cons (fun _ => (HBk.out _ HC503.out)) (behind_cons (fun _ => (And.intro ((HC503.out.blok 1 rfl).cell 0) ((HC503.out.blok 1 rfl).cell 1))) (behind_cons (fun _ => ((HC503.out.blok 0 rfl).cell 0)) (behind_cons (fun _ => (HCY.out _ HC503.out.oy)) (fun p hp => by cases hp))))) ?restb22
  case hyb22 => (intro W' _; go_simp; try with_reducible rfl)
  try simp only [Act.put, List.setIfInBounds_toArray, List.set_cons_zero, List.set_cons_succ]
  refine wpAnyV_free (i := 21) (v := ?_) (by simp only [List.getElem?_toArray, List.getElem?_cons_zero, List.getElem?_cons_succ]; rfl) (by kernel_rfl) (by kernel_rfl) (by kernel_rfl) (by kernel_rfl) (by exact fun _ _ _ h => h) (Or.inl ⟨by rfl, ?hyb23⟩) (behind_cons (fun _ => (HBk.out _ HC503.out)) (behind_cons (fun _ => (And.intro ((HC503.out.blok 1 rfl).cell 0) ((HC503.out.blok 1 rfl).cell 1))) (behind_cons (fun _ => ((HC503.out.blok 0 rfl).cell 0)) (behind_cons (fun _ => (HCY.out _ HC503.out.oy)) (fun p hp => by cases hp))))) ?restb23
  case hyb23 => (intro W' _; go_simp; try with_reducible rfl)
  try simp only [Act.put, List.setIfInBounds_toArray, List.set_cons_zero, List.set_cons_succ]
  refine wpAnyV_free (i := 23) (v := ?_) (by simp only [List.getElem?_toArray, List.getElem?_cons_zero, List.getElem?_cons_succ]; rfl) (by kernel_rfl) (by kernel_rfl) (by kernel_rfl) (by kernel_rfl) (by exact fun _ _ _ h => h) (Or.inl ⟨by rfl, ?hyb24⟩) (behind_cons (fun _ => (HBk.out _ HC503.out)) (behind_cons (fun _ => (And.intro ((HC503.out.blok 1 rfl).cell 0) ((HC503.out.blok 1 rfl).cell 1))) (behind_cons (fun _ => ((HC503.out.blok 0 rfl).cell 0)) (behind_cons (fun _ => (HCY.out _ HC503.out.oy)) (fun p hp => by cases hp))))) ?restb24
  case hyb24 => (intro W' _; go_simp; try with_reducible rfl)
  try simp only [Act.put, List.setIfInBounds_toArray, List.set_cons_zero, List.set_cons_succ]
  refine wpAnyV_free (i := 25) (v := ?_) (by simp only [List.getElem?_toArray, List.getElem?_cons_zero, List.getElem?_cons_succ]; rfl) (by kernel_rfl) (by kernel_rfl) (by kernel_rfl) (by kernel_rfl) (by exact fun _ _ _ h => h) (Or.inl ⟨by rfl, ?hyb25⟩) (behind_cons (fun _ => (HBk.out _ HC503.out)) (behind_cons (fun _ => (And.intro ((HC503.out.blok 1 rfl).cell 0) ((HC503.out.blok 1 rfl).cell 1))) (behind_cons (fun _ => ((HC503.out.blok 0 rfl).cell 0)) (behind_cons (fun _ => (HCY.out _ HC503.out.oy)) (fun p hp => by cases hp))))) ?restb25
  case hyb25 => (intro W' _; go_simp; try with_reducible rfl)
  try simp only [Act.put, List.setIfInBounds_toArray, List.set_cons_zero, List.set_cons_succ]
  refine wpAnyV_take (i := 22) (m := 0) (v := ?_) (by simp only [List.getElem?_toArray, List.getElem?_cons_zero, List.getElem?_cons_succ]; rfl) (by rfl) (by kernel_rfl) (by kernel_rfl) (by kernel_rfl) (by kernel_rfl) (by exact fun _ _ _ h => h) (Or.inl ⟨by rfl, ?hyb26⟩) ((HBk.out _ HC503.out)) (behind_cons (fun _ => (HBk.out _ HC503.out)) (behind_cons (fun _ => (And.intro ((HC503.out.blok 1 rfl).cell 0) ((HC503.out.blok 1 rfl).cell 1))) (behind_cons (fun _ => ((HC503.out.blok 0 rfl).cell 0)) (behind_cons (fun _ => (HCY.out _ HC503.out.oy)) (fun p hp => by cases hp))))) ?restb26
  case hyb26 => (intro W' hSW; obtain ⟨hSW1, hSW2⟩ := hSW; go_simp; try with_reducible rfl)
  try simp only [Act.put, List.setIfInBounds_toArray, List.set_cons_zero, List.set_cons_succ]
  refine wpAnyV_take (i := 24) (m := 2) (v := ?_) (by simp only [List.getElem?_toArray, List.getElem?_cons_zero, List.getElem?_cons_succ]; rfl) (by rfl) (by kernel_rfl) (by kernel_rfl) (by kernel_rfl) (by kernel_rfl) (by exact fun _ _ _ h => h) (Or.inl ⟨by rfl, ?hyb27⟩) (((HC503.out.blok 0 rfl).cell 0)) (behind_cons (fun _ => (HBk.out _ HC503.out)) (behind_cons (fun _ => (And.intro ((HC503.out.blok 1 rfl).cell 0) ((HC503.out.blok 1 rfl).cell 1))) (behind_cons (fun _ => ((HC503.out.blok 0 rfl).cell 0)) (behind_cons (fun _ => (HCY.out _ HC503.out.oy)) (fun p hp => by cases hp))))) ?restb27
  case hyb27 => (intro W' hSW; go_simp; try with_reducible rfl)
  try simp only [Act.put, List.setIfInBounds_toArray, List.set_cons_zero, List.set_cons_succ]
  refine wpAnyV_free (i := 26) (v := ?_) (by simp only [List.getElem?_toArray, List.getElem?_cons_zero, List.getElem?_cons_succ]; rfl) (by kernel_rfl) (by kernel_rfl) (by kernel_rfl) (by kernel_rfl) (by exact fun _ _ _ h => h) (Or.inl ⟨by rfl, ?hyb28⟩) (behind_cons (fun _ => (HBk.out _ HC503.out)) (behind_cons (fun _ => (And.intro ((HC503.out.blok 1 rfl).cell 0) ((HC503.out.blok 1 rfl).cell 1))) (behind_cons (fun _ => ((HC503.out.blok 0 rfl).cell 0)) (behind_cons (fun _ => (HCY.out _ HC503.out.oy)) (fun p hp => by cases hp))))) ?restb28
  case hyb28 => (intro W' _; go_simp; try with_reducible rfl)
  try simp only [Act.put, List.setIfInBounds_toArray, List.set_cons_zero, List.set_cons_succ]
  refine wpAnyV_take (i := 27) (m := 3) (v := ?_) (by simp only [List.getElem?_toArray, List.getElem?_cons_zero, List.getElem?_cons_succ]; rfl) (by rfl) (by kernel_rfl) (by kernel_rfl) (by kernel_rfl) (by kernel_rfl) (by exact fun _ _ _ h => h) (Or.inl ⟨by rfl, ?hyb29⟩) ((HCY.out _ HC503.out.oy)) (behind_cons (fun _ => (HBk.out _ HC503.out)) (behind_cons (fun _ => (And.intro ((HC503.out.blok 1 rfl).cell 0) ((HC503.out.blok 1 rfl).cell 1))) (behind_cons (fun _ => ((HC503.out.blok 0 rfl).cell 0)) (behind_cons (fun _ => (HCY.out _ HC503.out.oy)) (fun p hp => by cases hp))))) ?restb29
  case hyb29 => (intro W' hSW; go_simp; try with_reducible rfl)
  try simp only [Act.put, List.setIfInBounds_toArray, List.set_cons_zero, List.set_cons_succ]
  refine wpAnyV_ready (rs := [28]) (by kernel_rfl) (by simp) ?_
  refine AllReadyV.cons (by simp only [List.getElem?_toArray, List.getElem?_cons_zero, List.getElem?_cons_succ]; rfl) (fun K hK => ?_) AllReadyV.nil
  go_simp
  go_at_call 21
  (with_reducible refine (HH1.out _).mono ?_)
  rintro e w504 ⟨rfl, hb⟩
  have HC504 := Lib.hid (HC503.out.to hb)
  clear hb
  refine hK.out _ _ (behind_cons (fun _ => (HBk.out _ HC504.out)) (behind_cons (fun _ => (And.intro ((HC504.out.blok 1 rfl).cell 0) ((HC504.out.blok 1 rfl).cell 1))) (behind_cons (fun _ => ((HC504.out.blok 0 rfl).cell 0)) (behind_cons (fun _ => (HCY.out _ HC504.out.oy)) (fun p hp => by cases hp))))) ?_
  clear hK K
  try simp only [Act.put, List.setIfInBounds_toArray, List.set_cons_zero, List.set_cons_succ]
  refine wpAnyV_free (i := 29) (v := ?_) (by simp only [List.getElem?_toArray, List.getElem?_cons_zero, List.getElem?_cons_succ]; rfl) (by kernel_rfl) (by kernel_rfl) (by kernel_rfl) (by kernel_rfl) (by exact fun _ _ _ h => h) (Or.inl ⟨by rfl, ?hyb31⟩) (behind_cons (fun _ => (HBk.out _ HC504.out)) (behind_cons (fun _ => (And.intro ((HC504.out.blok 1 rfl).cell 0) ((HC504.out.blok 1 rfl).cell 1))) (behind_cons (fun _ => ((HC504.out.blok 0 rfl).cell 0)) (behind_cons (fun _ => (HCY.out _ HC504.out.oy)) (fun p hp => by cases hp))))) ?restb31
  case hyb31 => (intro W' _; go_simp; try with_reducible rfl)
  try simp only [Act.put, List.setIfInBounds_toArray, List.set_cons_zero, List.set_cons_succ]
  refine wpAnyV_free (i := 30) (v := ?_) (by simp only [List.getElem?_toArray, List.getElem?_cons_zero, List.getElem?_cons_succ]; rfl) (by kernel_rfl) (by kernel_rfl) (by kernel_rfl) (by kernel_rfl) (by exact fun _ _ _ h => h) (Or.inl ⟨by rfl, ?hyb32⟩) (behind_cons (fun _ => (HBk.out _ HC504.out)) (behind_cons (fun _ => (And.intro ((HC504.out.blok 1 rfl).cell 0) ((HC504.out.blok 1 rfl).cell 1))) (behind_cons (fun _ => ((HC504.out.blok 0 rfl).cell 0)) (behind_cons (fun _ => (HCY.out _ HC504.out.oy)) (fun p hp => by cases hp))))) ?restb32
  case hyb32 => (intro W' _; go_simp; try with_reducible rfl)
  try simp only [Act.put, List.setIfInBounds_toArray, List.set_cons_zero, List.set_cons_succ]
  refine wpAnyV_done (by kernel_rfl) ?_ _
  have HT15 := HC504
  obtain ⟨w15, hw15⟩ : ∃ w15, w15 = w504 := ⟨_, rfl⟩
  rw [← hw15] at HT15 ⊢
  clear hw15
  go_wp2_with fail
  go_loopg [17] d.stones (fun r vi wr => ∃ i : Nat, i + r = d.stones ∧ vi = .int .i64 (i : Nat) ∧ TL w w.heap.size [⟨w2.heap.size + 1, 36, [.slice (some ⟨gy, 0, none⟩) ys.length cy, .slice Af fs.length cf]⟩, ⟨by_, 33, [.int .i64 lo, .int .i64 hi]⟩] (.slice (some ⟨gy, 0, none⟩) ys.length cy) ys bx x1 (.slice Ax d.eras.length cx) (.slice (some ⟨g8, 0, none⟩) (d.notes.length + 1) c8) [(.slice (some ⟨ga, 0, none⟩) d.stones ca, spanList d 1 d.stones), (.slice (some ⟨gb, 0, none⟩) d.stones cb, spanList x1 1 x1.stones)] wr)
  case atStart => exact ⟨0, by omega, rfl, HT15.out⟩
  case round =>
    clear HT15 HT14
    obtain ⟨i, hir, rfl, hs⟩ := hrel
    have HT := Lib.hid hs
    clear hs
    by_cases hi' : i < d.stones
    · have hls := less_span HD.out HOK1.out HMY1.out HSB1.out (1 + i) (by omega)
      have hBi := HB.out i hi'
      have hAi := HA.out i hi'
      obtain ⟨pb, hpb⟩ : ∃ p, p = x1.span (1 + i) := ⟨_, rfl⟩
      obtain ⟨pa, hpa⟩ : ∃ p, p = d.span (1 + i) := ⟨_, rfl⟩
      rw [← hpb, ← hpa] at hls
      rw [← hpb] at hBi
      rw [← hpa] at hAi
      have HBi := Lib.hid hBi
      have HAi := Lib.hid hAi
      have HWi := Lib.hid (HWW.out pb pa hls.1 hls.2)
      clear hls hBi hAi hpb hpa
      go_wp2_with fail
      refine wp_region_v [(fun j => j == 3 || j == 7 || j == 8 || j == 9, fun W => W.cell? ⟨gb, i * 2, none⟩ = some (.int .i64 pb.1) ∧ W.cell? ⟨gb, i * 2 + 1, none⟩ = some (.int .i64 pb.2)), (fun j => j == 7 || j == 8 || j == 9, fun W => W.cell? ⟨ga, i * 2, none⟩ = some (.int .i64 pa.1) ∧ W.cell? ⟨ga, i * 2 + 1, none⟩ = some (.int .i64 pa.2))] (by kernel_rfl) ?_
      refine wpAnyV_world (fun W => TL w w.heap.size [⟨w2.heap.size + 1, 36, [.slice (some ⟨gy, 0, none⟩) ys.length cy, .slice Af fs.length cf]⟩, ⟨by_, 33, [.int .i64 lo, .int .i64 hi]⟩] (.slice (some ⟨gy, 0, none⟩) ys.length cy) ys bx x1 (.slice Ax d.eras.length cx) (.slice (some ⟨g8, 0, none⟩) (d.notes.length + 1) c8) [(.slice (some ⟨ga, 0, none⟩) d.stones ca, spanList d 1 d.stones), (.slice (some ⟨gb, 0, none⟩) d.stones cb, spanList x1 1 x1.stones)] W) HT.out.drew (fun V hV => ?_)
      have HV := Lib.hid hV
      clear hV
      refine wpAnyV_free (i := 0) (v := ?_) (by simp only [List.getElem?_toArray, List.getElem?_cons_zero]; rfl) (by kernel_rfl) (by kernel_rfl) (by kernel_rfl) (by kernel_rfl) (by exact fun _ _ _ h => h) (Or.inl ⟨by rfl, ?hyc2⟩) (behind_cons (fun h => by simp at h) (behind_cons (fun h => by simp at h) (fun p hp => by cases hp))) ?restc2
      case hyc2 => (intro W' _; go_simp; try with_reducible rfl)
      try simp only [Act.put, List.setIfInBounds_toArray, List.set_cons_zero, List.set_cons_succ]
      refine wpAnyV_free (i := 1) (v := ?_) (by simp only [List.getElem?_toArray, List.getElem?_cons_zero, List.getElem?_cons_succ]; rfl) (by kernel_rfl) (by kernel_rfl) (by kernel_rfl) (by kernel_rfl) (by exact fun _ _ _ h => h) (Or.inl ⟨by rfl, ?hyc3⟩) (behind_cons (fun h => by simp at h) (behind_cons (fun h => by simp at h) (fun p hp => by cases hp))) ?restc3
      case hyc3 => (intro W' _; go_simp; try with_reducible rfl)
      try simp only [Act.put, List.setIfInBounds_toArray, List.set_cons_zero, List.set_cons_succ]
      refine wpAnyV_free (i := 2) (v := ?_) (by simp only [List.getElem?_toArray, List.getElem?_cons_zero, List.getElem?_cons_succ]; rfl) (by kernel_rfl) (by kernel_rfl) (by kernel_rfl) (by kernel_rfl) (by exact fun _ _ _ h => h) (Or.inl ⟨by rfl, ?hyc4⟩) (behind_cons (fun h => by simp at h) (behind_cons (fun h => by simp at h) (fun p hp => by cases hp))) ?restc4
      case hyc4 => (intro W' _; go_simp; try with_reducible rfl)
      try simp only [Act.put, List.setIfInBounds_toArray, List.set_cons_zero, List.set_cons_succ]
      refine wpAnyV_free (i := 4) (v := ?_) (by simp only [List.getElem?_toArray, List.getElem?_cons_zero, List.getElem?_cons_succ]; rfl) (by kernel_rfl) (by kernel_rfl) (by kernel_rfl) (by kernel_rfl) (by exact fun _ _ _ h => h) (Or.inl ⟨by rfl, ?hyc5⟩) (behind_cons (fun h => by simp at h) (behind_cons (fun h => by simp at h) (fun p hp => by cases hp))) ?restc5
      case hyc5 => (intro W' _; go_simp; try with_reducible rfl)
      try simp only [Act.put, List.setIfInBounds_toArray, List.set_cons_zero, List.set_cons_succ]
      refine wpAnyV_free (i := 5) (v := ?_) (by simp only [List.getElem?_toArray, List.getElem?_cons_zero, List.getElem?_cons_succ]; rfl) (by kernel_rfl) (by kernel_rfl) (by kernel_rfl) (by kernel_rfl) (by exact fun _ _ _ h => h) (Or.inl ⟨by rfl, ?hyc6⟩) (behind_cons (fun h => by simp at h) (behind_cons (fun h => by simp at h) (fun p hp => by cases hp))) ?restc6
      case hyc6 => (intro W' _; go_simp; try with_reducible rfl)
      try simp only [Act.put, List.setIfInBounds_toArray, List.set_cons_zero, List.set_cons_succ]
      refine wpAnyV_free (i := 6) (v := ?_) (by simp only [List.getElem?_toArray, List.getElem?_cons_zero, List.getElem?_cons_succ]; rfl) (by kernel_rfl) (by kernel_rfl) (by kernel_rfl) (by kernel_rfl) (by exact fun _ _ _ h => h) (Or.inl ⟨by rfl, ?hyc7⟩) (behind_cons (fun h => by simp at h) (behind_cons (fun h => by simp at h) (fun p hp => by cases hp))) ?restc7
      case hyc7 => (intro W' _; go_simp; try with_reducible rfl)
      try simp only [Act.put, List.setIfInBounds_toArray, List.set_cons_zero, List.set_cons_succ]
      refine wpAnyV_take (i := 3) (m := 0) (v := ?_) (by simp only [List.getElem?_toArray, List.getElem?_cons_zero, List.getElem?_cons_succ]; rfl) (by rfl) (by kernel_rfl) (by kernel_rfl) (by kernel_rfl) (by kernel_rfl) (by exact fun _ _ _ h => h) (Or.inl ⟨by rfl, ?hyc8⟩) ((HBi.out _ HV.out)) (behind_cons (fun _ => (HBi.out _ HV.out)) (behind_cons (fun h => by simp at h) (fun p hp => by cases hp))) ?restc8
      case hyc8 => (intro W' hSW; obtain ⟨hSW1, hSW2⟩ := hSW; go_simp; try with_reducible rfl)
      try simp only [Act.put, List.setIfInBounds_toArray, List.set_cons_zero, List.set_cons_succ]
      refine wpAnyV_take (i := 7) (m := 1) (v := ?_) (by simp only [List.getElem?_toArray, List.getElem?_cons_zero, List.getElem?_cons_succ]; rfl) (by rfl) (by kernel_rfl) (by kernel_rfl) (by kernel_rfl) (by kernel_rfl) (by exact fun _ _ _ h => h) (Or.inl ⟨by rfl, ?hyc9⟩) ((HAi.out _ HV.out)) (behind_cons (fun _ => (HBi.out _ HV.out)) (behind_cons (fun _ => (HAi.out _ HV.out)) (fun p hp => by cases hp))) ?restc9
      case hyc9 => (intro W' hSW; obtain ⟨hSW1, hSW2⟩ := hSW; go_simp; try with_reducible rfl)
      try simp only [Act.put, List.setIfInBounds_toArray, List.set_cons_zero, List.set_cons_succ]
      refine wpAnyV_ready (rs := [8]) (by kernel_rfl) (by simp) ?_
      refine AllReadyV.cons (by simp only [List.getElem?_toArray, List.getElem?_cons_zero, List.getElem?_cons_succ]; rfl) (fun K hK => ?_) AllReadyV.nil
      go_simp
      go_at_call 20
      (with_reducible refine (HWi.out _).mono ?_)
      rintro e w505 ⟨rfl, hb⟩
      have HC505 := Lib.hid (HV.out.to hb)
      clear hb
      refine hK.out _ _ (behind_cons (fun _ => (HBi.out _ HC505.out)) (behind_cons (fun _ => (HAi.out _ HC505.out)) (fun p hp => by cases hp))) ?_
      clear hK K
      try simp only [Act.put, List.setIfInBounds_toArray, List.set_cons_zero, List.set_cons_succ]
      refine wpAnyV_free (i := 9) (v := ?_) (by simp only [List.getElem?_toArray, List.getElem?_cons_zero, List.getElem?_cons_succ]; rfl) (by kernel_rfl) (by kernel_rfl) (by kernel_rfl) (by kernel_rfl) (by exact fun _ _ _ h => h) (Or.inl ⟨by rfl, ?hyc11⟩) (behind_cons (fun _ => (HBi.out _ HC505.out)) (behind_cons (fun _ => (HAi.out _ HC505.out)) (fun p hp => by cases hp))) ?restc11
      case hyc11 => (intro W' _; go_simp; try with_reducible rfl)
      try simp only [Act.put, List.setIfInBounds_toArray, List.set_cons_zero, List.set_cons_succ]
      refine wpAnyV_done (by kernel_rfl) ?_ _
      have HT17 := HC505
      go_wp2_with fail
      go_roundg (gk - 1)
      case measure => omega
      case rel => exact ⟨i + 1, by omega, by go_num, HT17.out⟩
    · clear HB HA HWW HBk HW1 HH1
      go_wp2_with fail
      refine (Sg.lineOf_any w.heap.size 2 4 3 _ (by omega) (by omega) (by omega) (by omega) (by omega) (by omega) (show Sg.UrnAt _ _ from HT.out.urn)).mono ?_
      rintro e w20 ⟨L2, lv, vv, hand2, ks2, vs2, lts2, H2, rfl, hLB, hLok, -, -, -, hT, hH, hmk, -, hIB, -, hu3, hk3⟩
      obtain ⟨vh, vsq, rfl, hHB, hSB⟩ := hLB
      obtain ⟨hb2, hc2, rfl⟩ : ∃ b c, vh = .slice (some ⟨b, 0, none⟩) L2.hands.length c := by
        obtain ⟨b, c, _, _, e, _⟩ := hHB
        exact ⟨b, c, e⟩
      obtain ⟨sb2, sc2, rfl⟩ : ∃ b c, vsq = .slice (some ⟨b, 0, none⟩) L2.squares.length c := by
        obtain ⟨b, c, _, _, e, _⟩ := hSB
        exact ⟨b, c, e⟩
      obtain ⟨ib2, ic2, rfl⟩ : ∃ b c, vv = .slice (some ⟨b, 0, none⟩) vs2.length c := by
        obtain ⟨b, c, _, e, _⟩ := hIB
        exact ⟨b, c, e⟩
      have hbel := ((Below.refl w20.heap.size w20).alloc (Nat.le_refl _) (.cells #[.slice (some ⟨hb2, 0, none⟩) L2.hands.length hc2, .int .i64 L2.worn, .int .i64 L2.scr, .int .i64 L2.total, .slice (some ⟨sb2, 0, none⟩) L2.squares.length sc2] 51)).alloc (by simp) (.cells #[.int .i64 hand2, .string lts2, .slice (some ⟨ib2, 0, none⟩) vs2.length ic2] 53)
      have HT21 := Lib.hid ((HT.out.calls (show UrnAt w20 w.heap.size from hu3) (kgD hk3)).to hbel)
      have hbl := (Blok.new w20 51 [.slice (some ⟨hb2, 0, none⟩) L2.hands.length hc2, .int .i64 L2.worn, .int .i64 L2.scr, .int .i64 L2.total, .slice (some ⟨sb2, 0, none⟩) L2.squares.length sc2]).alloc (.cells #[.int .i64 hand2, .string lts2, .slice (some ⟨ib2, 0, none⟩) vs2.length ic2] 53)
      have hne2 : Sg.handsOf L2 ≠ [] := List.ne_nil_of_mem (Sg.truth_hand hT H2 hH hmk)
      have hsp2 := years_span hLok hne2
      have hyl2 := Sg.years_yes _ L2 _ hLok (Sg.LineB.line ⟨_, _, rfl, hHB.below hbel, hSB.below hbel⟩) hne2
      have HBL := Lib.hid hbl
      have HYL2 := Lib.hid hyl2
      clear hu3 hk3 hHB hSB hIB hT hH hmk hLok hne2 hbel hbl hyl2 HT
      go_upto_region 22 with fail
      obtain ⟨w21, hw21⟩ : ∃ w21, w21 = ((w20.alloc (.cells #[.slice (some ⟨hb2, 0, none⟩) L2.hands.length hc2, .int .i64 L2.worn, .int .i64 L2.scr, .int .i64 L2.total, .slice (some ⟨sb2, 0, none⟩) L2.squares.length sc2] 51)).alloc (.cells #[.int .i64 hand2, .string lts2, .slice (some ⟨ib2, 0, none⟩) vs2.length ic2] 53)) := ⟨_, rfl⟩
      rw [← hw21] at HT21 HBL HYL2 ⊢
      clear hw21
      obtain ⟨lo2, hlo2⟩ : ∃ x, x = (Sg.yearsOf L2).1 := ⟨_, rfl⟩
      obtain ⟨hi2, hhi2⟩ : ∃ x, x = (Sg.yearsOf L2).2 := ⟨_, rfl⟩
      unfold Sg.YearsPost at HYL2
      rw [← hlo2, ← hhi2] at hsp2 HYL2
      have HSP2 := Lib.hid hsp2
      have l0 := HBL.out.cell 0
      have l1 := HBL.out.cell 1
      have l2 := HBL.out.cell 2
      have l3 := HBL.out.cell 3
      have l4 := HBL.out.cell 4
      simp at l0 l1 l2 l3 l4
      clear hlo2 hhi2 hsp2
      go_wp2_with fail
      refine HYL2.out.mono ?_
      rintro e w22 ⟨rfl, hb22⟩
      have HT22 := Lib.hid (HT21.out.to hb22)
      clear hb22 l0 l1 l2 l3 l4 HYL2 HBL HT21
      go_upto_region 25 with fail
      obtain ⟨bz, hbz⟩ : ∃ b, b = w22.heap.size := ⟨_, rfl⟩
      obtain ⟨w23, hw23⟩ : ∃ w23, w23 = w22.alloc (.cells #[.int .i64 lo2, .int .i64 hi2] 33) := ⟨_, rfl⟩
      have HT23 := Lib.hid ((HT22.out.alloc (.cells #[.int .i64 lo2, .int .i64 hi2] 33)).addK ⟨w22.heap.size, 33, [.int .i64 lo2, .int .i64 hi2]⟩ (by show (33 : TypeId) ≠ _; decide) (by show (33 : TypeId) ≠ _; decide) (by have := HT22.out.kx.size; show w22.heap.size ≠ bx; omega) (Blok.new w22 _ _))
      rw [← hw23, ← hbz] at HT23
      rw [← hw23, ← hbz]
      have hnl1 := HNL1.out
      clear hw23 hbz HT22
      obtain ⟨xs9, hxs, hon, hyr⟩ := HT23.out.no
      have HXS := Lib.hid hxs
      have HON := Lib.hid (show w23.ownsRow w.heap.size 64 6 (.slice (some ⟨g8, 0, none⟩) (d.notes.length + 1) c8) (d.notes.length + 1) (cellsN xs9) from by have h := hon; rw [HNL1.out] at h; exact h)
      have HYR := Lib.hid hyr
      have e2 := HT23.out.kx.cell 2
      have p0 := (HT23.out.blok 2 rfl).cell 0
      have p1 := (HT23.out.blok 2 rfl).cell 1
      simp at e2 p0 p1
      have hbxl := HT23.out.kx.size
      have hbyl := (HT23.out.blok 2 rfl).size
      clear hxs hon hyr
      go_upto_region 26 with (at_builtin; refine wpList_append_lies _ rfl _ _ 26 rfl w.heap.size 64 kI _ 6 64 Tryz.underlying26 HQ.out HQ0.out HQ1.out HQ2.out rfl (by decide) (.slice (some ⟨g8, 0, none⟩) (d.notes.length + 1) c8) (d.notes.length + 1) (cellsN xs9) (by rfl) (HON.out.alloc _) ⟨w23.heap.size, 0, none⟩ 1 1 [.int .i64 2, .int .i64 k, .int .i64 0, .slice none 0 0, .int .i64 lo2, .int .i64 hi2] (by rfl) (by rfl) (World.news_of_block (cs := #[.int .i64 2, .int .i64 k, .int .i64 0, .slice none 0 0, .int .i64 lo2, .int .i64 hi2]) (t := 64) (fr := (0, 0)) (heap_alloc_new w23 _)) (by simp [Value.oneCell']) (by omega) (by unfold maxLen; omega) (by omega) (by have := HT23.out.below.size; simp; omega) _ rfl ?_; intro g9 c9 wq hown8 hgrow8 hat9 hlt9; have hkx8 := (HT23.out.kx.alloc (.cells #[.int .i64 2, .int .i64 k, .int .i64 0, .slice none 0 0, .int .i64 lo2, .int .i64 hi2] 64)).grown hgrow8 (own_ne (HON.out.alloc (.cells #[.int .i64 2, .int .i64 k, .int .i64 0, .slice none 0 0, .int .i64 lo2, .int .i64 hi2] 64)) (HT23.out.kx.alloc (.cells #[.int .i64 2, .int .i64 k, .int .i64 0, .slice none 0 0, .int .i64 lo2, .int .i64 hi2] 64)) (by decide)); have h8 := (HT23.out.alloc (.cells #[.int .i64 2, .int .i64 k, .int .i64 0, .slice none 0 0, .int .i64 lo2, .int .i64 hi2] 64)).note (n := spanN k lo2 hi2) (vyx := .slice none 0 0) (xn' := .slice (some ⟨g9, 0, none⟩) (d.notes.length + 1 + 1) c9) HXS.out (by try rw [HNL1.out]; exact HON.out.alloc _) (fun p hp => (HYR.out p hp).alloc _) hgrow8 (by try rw [HNL1.out]; exact hown8) (World.ownsRow_nil _ _ _ _); have H8 := Lib.hid h8; have q2 := hkx8.cell 2; have f2 := hkx8.free 2; simp at q2; clear hown8 hgrow8 hat9 hlt9 h8 hkx8)
      obtain ⟨x2, hx2⟩ : ∃ x, x = x1.plus (spanN k lo2 hi2) := ⟨_, rfl⟩
      obtain ⟨w26, hw26⟩ : ∃ w26, w26 = wq.setCell ⟨bx, 2, none⟩ (.slice (some ⟨g9, 0, none⟩) (d.notes.length + 1 + 1) c9) := ⟨_, rfl⟩
      have HT26 := H8
      rw [← hw26, ← hx2] at HT26
      rw [← hw26]
      have hok2 : x2.Ok := by rw [hx2]; exact plus_ok HOK1.out (spanN_ok (by rw [HST1.out]; exact hk) HSP2.out) (by omega)
      have hwr2 : ∀ s, Dat.Least x2 s → (setTo s 8).length ≤ 1 ∧ ((setTo s 8).length = 0 ↔ x2.all ≠ []) := by rw [hx2] at hok2 ⊢; exact fun s hs => wrong_last hok2 HMY1.out (by omega) hs
      have HOK2 := Lib.hid hok2
      have HWR2 := Lib.hid hwr2
      clear hx2 hw26 hok2 hwr2 e2 p0 p1 q2 f2 hbxl hbyl H8 HXS HON HYR HT23 hnl1
      have d0 := HT26.out.kx.cell 0
      have d1 := HT26.out.kx.cell 1
      have d2 := HT26.out.kx.cell 2
      simp at d0 d1 d2
      go_wp2_with fail
      refine (wrong_any x2 HOK2.out _ _ w26 (Nat.le_refl _) HT26.out.dat.dat).mono ?_
      rintro e w27 ⟨sw, vw, hle, rfl, hiw, hb⟩
      have HT27 := Lib.hid (HT26.out.to hb)
      obtain ⟨Aw, cw, rfl, -⟩ := hiw
      obtain ⟨nw, hnw⟩ : ∃ n, n = (setTo sw 8).length := ⟨_, rfl⟩
      have hw1 := HWR2.out sw hle
      rw [← hnw] at hw1 ⊢
      clear hle hb hnw d0 d1 d2 HT26
      have d0 := HT27.out.kx.cell 0
      have d1 := HT27.out.kx.cell 1
      have d2 := HT27.out.kx.cell 2
      simp at d0 d1 d2
      go_wp2_with fail
      by_cases hall : x2.all = []
      · have hn1 : nw = 1 := by
          have h0 : nw ≠ 0 := fun h => (hw1.2.1 h) hall
          omega
        subst hn1
        clear hw1
        refine (years_no x2 HOK2.out hall _ _ w27 (Nat.le_refl _) HT27.out.dat.dat).mono ?_
        rintro e w28 ⟨rfl, hb⟩
        have HT28 := Lib.hid (HT27.out.to hb)
        clear hb d0 d1 d2 HT27
        go_wp2_with (go_at_call 23; refine (dateAlert_any _).mono ?_; rintro e w29 ⟨rfl, hb⟩; have HB29 := Lib.hid (HT28.out.below.trans (hb.mono HT28.out.below.size)); clear hb)
        go_ret
        exact ⟨rfl, HB29.out⟩
      · have hn0 : nw = 0 := hw1.2.2 hall
        subst hn0
        clear hw1
        refine (years_yes x2 HOK2.out hall _ _ w27 (Nat.le_refl _) HT27.out.dat.dat).mono ?_
        rintro e w28 ⟨vc, rfl, hvc, hb⟩
        obtain ⟨Ac, cc, rfl⟩ := own_slice hvc
        have HT28 := Lib.hid (HT27.out.to hb)
        clear hb hvc d0 d1 d2 HT27
        go_wp2_with (go_at_call 23; refine (dateAlert_any _).mono ?_; rintro e w29 ⟨rfl, hb⟩; have HB29 := Lib.hid (HT28.out.below.trans (hb.mono HT28.out.below.size)); clear hb)
        go_ret
        exact ⟨rfl, HB29.out⟩
end Go.Proofs.YtmfjfjahemlhkaaGreat
