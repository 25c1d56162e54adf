/- SightEnough's walk. -/
import Derived.Test.YthhajbgddifenaaEn
namespace Go.Proofs.Ythhajbgddifenaa
open Go.RowKit Go.Shelf

theorem hands_yes (v : Value) (L : Line) (w : World) (hL : L.ok) (hv : LineAt w w.heap.size v L) (h : handsOf L ≠ []) :
    Calls Try.prog 19 #[v] w fun e w' => ∃ (A : Option Addr) (n c : Nat), e = .returned (.tuple #[.slice A n c, .int .i64 0]) ∧ 0 < n ∧ Below w.heap.size w w' :=
  (hands_any v L w hL hv).mono fun e w' hp => by
    rcases hp with ⟨hb, ⟨h', _⟩ | ⟨_, u, rfl, hi⟩⟩
    · exact absurd h' h
    · obtain ⟨A, c, rfl, _⟩ := hi.1
      exact ⟨A, _, c, rfl, List.length_pos_iff.2 h, hb⟩
def EnoughPost (w : World) (e : Ending) (w' : World) : Prop := e = .returned (.bool true) ∧ Below w.heap.size w w'
/-- The box of the line within SightEnough. -/
def BoxI (w : World) (lb : Nat) (vh vs : Value) (L : Line) (T : Nat) (wr : World) : Prop :=
  Blok wr lb 25 [vh, .int .i64 L.worn, .int .i64 L.scr, .int .i64 T, vs] ∧ HandsB wr vh L.hands ∧ SquaresB wr vs L.squares ∧ Below w.heap.size w wr
theorem BoxI.line {w wr : World} {lb T : Nat} {vh vs : Value} {L : Line} (h : BoxI w lb vh vs L T wr) : LineAt wr wr.heap.size (.agg #[vh, .int .i64 L.worn, .int .i64 L.scr, .int .i64 T, vs]) (L.withTotal T) :=
  ⟨vh, vs, rfl, h.2.1.hands, h.2.2.1.squares⟩
theorem BoxI.below {w wr w' : World} {lb T : Nat} {vh vs : Value} {L : Line} (h : BoxI w lb vh vs L T wr) (hw : w.heap.size ≤ wr.heap.size) (hb : Below wr.heap.size wr w') : BoxI w lb vh vs L T w' :=
  ⟨h.1.below hb h.1.size, h.2.1.below hb, h.2.2.1.below hb, h.2.2.2.trans (hb.mono hw)⟩
theorem BoxI.put {w wr : World} {lb T : Nat} {vh vs : Value} {L : Line} (h : BoxI w lb vh vs L T wr) (hw : w.heap.size ≤ lb) (k : Nat) : BoxI w lb vh vs L k (wr.setCell ⟨lb, 3, none⟩ (.int .i64 k)) :=
  ⟨h.1.put 3 _, h.2.1.far (p := ⟨lb, 3, none⟩) h.1 (by decide) (by decide) _, h.2.2.1.far (p := ⟨lb, 3, none⟩) h.1 (by decide) (by decide) _, h.2.2.2.setCell (p := ⟨lb, 3, none⟩) hw _⟩
theorem BoxI.square {w w5 : World} {lb sb n c k T : Nat} {vh : Value} {L : Line} {cs : List Value} (h : BoxI w lb vh (.slice (some ⟨sb, 0, none⟩) n c) L T w5) (hcs : Blok w5 sb 39 cs) (hk : k < L.squares.length) (r : Nat) (hsb : w.heap.size ≤ sb) :
    BoxI w lb vh (.slice (some ⟨sb, 0, none⟩) n c) (L.withSquare k [⟨31, r⟩]) T ((w5.alloc (.cells #[.int .i64 31, .int .i64 r] 27)).setCell ⟨sb, k, none⟩ (.slice (some ⟨w5.heap.size, 0, none⟩) 1 1)) := by
  have hbel := (Below.refl w5.heap.size w5).alloc (Nat.le_refl _) (.cells #[.int .i64 31, .int .i64 r] 27)
  have hcs2 := hcs.alloc (.cells #[.int .i64 31, .int .i64 r] 27)
  have h1 := h.1.alloc (.cells #[.int .i64 31, .int .i64 r] 27)
  have hlt := LightsB.two (Blok.new w5 27 [.int .i64 31, .int .i64 r])
  exact ⟨h1.far (p := ⟨sb, k, none⟩) (blok_ne h1 hcs2 (by decide)) _, (h.2.1.below hbel).far (p := ⟨sb, k, none⟩) hcs2 (by decide) (by decide) _, (h.2.2.1.below hbel).set hk hlt, (h.2.2.2.trans (hbel.mono (by have := h.2.2.2.size; omega))).setCell (p := ⟨sb, k, none⟩) hsb _⟩
set_option maxRecDepth 100000 in
set_option maxHeartbeats 4000000 in
theorem enough_walk (a0 : Option Addr) (len0 cap0 : Nat) (w : World) (hr : NumRow w a0 len0) : Calls Try.prog 11 #[.slice a0 len0 cap0] w (EnoughPost w) := by
  go_enter Try.func11, Try.ntmps11
  go_wp2_with fail
  refine (newUrn_any _ _ _ _ hr).mono ?_
  rintro e w1 ⟨rfl, hu1, hb1⟩
  have HB1 := Lib.hid hb1
  have HU1 := Lib.hid hu1
  clear hu1 hb1 hr
  go_wp2_with fail
  refine (lineOf_any _ 3 4 5 _ (by omega) (by omega) (by omega) (by omega) (by omega) (by omega) HU1.out).mono ?_
  rintro e w2 ⟨L, lv, vv, hand, ks, vis, lts, H, rfl, hlb, hok, -, -, -, -, -, -, -, hvv, hnew, hu2, hk2⟩
  obtain ⟨vh, vs, rfl, hhb, hsb⟩ := hlb
  obtain ⟨hb, hc, hcur, hsvs, rfl, -⟩ := id hhb
  obtain ⟨sb, sc, scur, slvs, rfl, -⟩ := id hsb
  obtain ⟨vb, vc, vcur, rfl, -⟩ := hvv
  have hsbn : w1.heap.size ≤ sb := (hnew sb _ _ _ _ _ _ rfl).1
  clear hnew
  have hg2 : w.heap.size < w2.heap.size := by have := HU1.out.size; have := hk2.size; omega
  have hsb1 : w.heap.size < sb := by have := HU1.out.size; omega
  have HHB := Lib.hid hhb
  have HSB := Lib.hid hsb
  have HU2 := Lib.hid hu2
  have HB2 := Lib.hid (HB1.out.trans (hk2.below HB1.out.size (Nat.le_refl _)))
  have HOK := Lib.hid hok
  clear hhb hsb hu2 hk2 hok HB1 HU1
  go_wp2_with fail
  refine (odds_any _ _ _ _ (by omega) ((HU2.out.alloc _).alloc _)).mono ?_
  rintro e w3 ⟨bo, rfl, hu3, hk3⟩
  have hbox : BoxI w w2.heap.size (.slice (some ⟨hb, 0, none⟩) L.hands.length hc) (.slice (some ⟨sb, 0, none⟩) L.squares.length sc) L L.total w3 := by
    have hbel := ((Below.refl w2.heap.size w2).alloc (Nat.le_refl _) (.cells #[.slice (some ⟨hb, 0, none⟩) L.hands.length hc, .int .i64 L.worn, .int .i64 L.scr, .int .i64 L.total, .slice (some ⟨sb, 0, none⟩) L.squares.length sc] 25)).alloc (by simp) (.cells #[.int .i64 hand, .string lts, .slice (some ⟨vb, 0, none⟩) vis.length vc] 32)
    have u2 := (HU2.out.alloc (.cells #[.slice (some ⟨hb, 0, none⟩) L.hands.length hc, .int .i64 L.worn, .int .i64 L.scr, .int .i64 L.total, .slice (some ⟨sb, 0, none⟩) L.squares.length sc] 25)).alloc (.cells #[.int .i64 hand, .string lts, .slice (some ⟨vb, 0, none⟩) vis.length vc] 32)
    have bl := (Blok.new w2 25 [.slice (some ⟨hb, 0, none⟩) L.hands.length hc, .int .i64 L.worn, .int .i64 L.scr, .int .i64 L.total, .slice (some ⟨sb, 0, none⟩) L.squares.length sc]).alloc (.cells #[.int .i64 hand, .string lts, .slice (some ⟨vb, 0, none⟩) vis.length vc] 32)
    exact ⟨bl.kg hk3 (u2.ne bl (by decide)), (HHB.out.below hbel).kg u2 hk3, (HSB.out.below hbel).kg u2 hk3, (HB2.out.trans (hbel.mono (by omega))).trans (hk3.below (by simp; omega) (Nat.le_refl _))⟩
  have hg3 : w2.heap.size + 1 < w3.heap.size := by have := hk3.size; simp at this; omega
  have HBOX := Lib.hid hbox
  have HU3 := Lib.hid hu3
  clear hbox hu3 hk3 HHB HSB HB2 HU2
  cases bo
  · have HBX := HBOX
    have HOK2 := HOK
    clear HBOX HOK HU3
    have l0 : w3.cell? ⟨w2.heap.size, 0, none⟩ = some (.slice (some ⟨hb, 0, none⟩) L.hands.length hc) := HBX.out.1.cell 0
    have l1 : w3.cell? ⟨w2.heap.size, 1, none⟩ = some (.int .i64 L.worn) := HBX.out.1.cell 1
    have l2 : w3.cell? ⟨w2.heap.size, 2, none⟩ = some (.int .i64 L.scr) := HBX.out.1.cell 2
    have l3 : w3.cell? ⟨w2.heap.size, 3, none⟩ = some (.int .i64 L.total) := HBX.out.1.cell 3
    have l4 : w3.cell? ⟨w2.heap.size, 4, none⟩ = some (.slice (some ⟨sb, 0, none⟩) L.squares.length sc) := HBX.out.1.cell 4
    go_wp2_with fail
    refine (marks_any _ (L.withTotal L.total) _ (Line.ok_total HOK2.out _ HOK2.out.2.2.2.2.2.1) HBX.out.line).mono ?_
    rintro e w6 ⟨hb6, hm6⟩
    have HBX6 := Lib.hid (HBX.out.below (by omega) hb6)
    have hg6 : w2.heap.size + 1 < w6.heap.size := by have := hb6.size; omega
    clear l0 l1 l2 l3 l4 hb6 HBX
    rw [marks_total L L.total] at hm6
    generalize hmm : marksOf L = m at hm6
    have HMM := Lib.hid hmm
    clear hmm
    rcases hm6 with ⟨h81, he⟩ | ⟨hne, he⟩
    · subst he
      have hm81 : 81 ≤ m := by omega
      clear h81
      go_wp2
      go_loopw [9] (fun t wr => ∃ k T : Nat, k ≤ 13 ∧ t = .int .i64 k ∧ BoxI w w2.heap.size (.slice (some ⟨hb, 0, none⟩) L.hands.length hc) (.slice (some ⟨sb, 0, none⟩) L.squares.length sc) L T wr ∧ w2.heap.size + 1 < wr.heap.size) (fun t _ => 13 - (intOf t).toNat)
      case atStart => exact ⟨0, L.total, by omega, rfl, HBX6.out, hg6⟩
      case round =>
        clear HBX6
        obtain ⟨k, T, hk, rfl, hbx, hgr⟩ := hrel
        have HBX := Lib.hid hbx
        clear hbx
        by_cases hlt : k ≤ 12
        · have l0 : wr.cell? ⟨w2.heap.size, 0, none⟩ = some (.slice (some ⟨hb, 0, none⟩) L.hands.length hc) := HBX.out.1.cell 0
          have l1 : wr.cell? ⟨w2.heap.size, 1, none⟩ = some (.int .i64 L.worn) := HBX.out.1.cell 1
          have l2 : wr.cell? ⟨w2.heap.size, 2, none⟩ = some (.int .i64 L.scr) := HBX.out.1.cell 2
          have l3 : wr.cell? ⟨w2.heap.size, 3, none⟩ = some (.int .i64 T) := HBX.out.1.cell 3
          have l4 : wr.cell? ⟨w2.heap.size, 4, none⟩ = some (.slice (some ⟨sb, 0, none⟩) L.squares.length sc) := HBX.out.1.cell 4
          have f3 := HBX.out.1.free 3
          have HP := Lib.hid (HBX.out.put (show w.heap.size ≤ w2.heap.size by omega) k)
          clear HBX
          go_wp2_with fail
          refine (hands_none _ (L.withTotal k) _ (Line.ok_total HOK2.out k (by omega)) HP.out.line (Classical.byContradiction fun hc => by have := (enough L k (by omega)).1 hc; rw [HMM.out] at this; omega)).mono ?_
          rintro e w7 ⟨rfl, hb7⟩
          have HB7 := Lib.hid (HP.out.below (by simp [World.setCell]; omega) hb7)
          have hg7 : w2.heap.size + 1 < w7.heap.size := by have := hb7.size; simp [World.setCell] at this; omega
          clear HP hb7 l0 l1 l2 l3 l4 f3
          go_wp2
          go_roundw
          case rel => exact ⟨k + 1, k, by omega, by go_num, HB7.out, hg7⟩
          case measure => simp [intOf]; omega
        · obtain rfl : k = 13 := by omega
          go_wp2_with (go_at_call 14; refine (ready_any Unit _).mono ?_; rintro e w8 ⟨rfl, hb8⟩; have HB8 := Lib.hid hb8; clear hb8)
          go_ret
          exact ⟨rfl, HBX.out.2.2.2.trans (HB8.out.mono (by omega))⟩
    · subst he
      clear hne
      go_wp2
      go_loopw [9] (fun t wr => ∃ k T : Nat, k ≤ 13 ∧ t = .int .i64 k ∧ BoxI w w2.heap.size (.slice (some ⟨hb, 0, none⟩) L.hands.length hc) (.slice (some ⟨sb, 0, none⟩) L.squares.length sc) L T wr ∧ w2.heap.size + 1 < wr.heap.size) (fun t _ => 13 - (intOf t).toNat)
      case atStart => exact ⟨0, L.total, by omega, rfl, HBX6.out, hg6⟩
      case round =>
        clear HBX6
        obtain ⟨k, T, hk, rfl, hbx, hgr⟩ := hrel
        have HBX := Lib.hid hbx
        clear hbx
        by_cases hlt : k ≤ 12
        · have l0 : wr.cell? ⟨w2.heap.size, 0, none⟩ = some (.slice (some ⟨hb, 0, none⟩) L.hands.length hc) := HBX.out.1.cell 0
          have l1 : wr.cell? ⟨w2.heap.size, 1, none⟩ = some (.int .i64 L.worn) := HBX.out.1.cell 1
          have l2 : wr.cell? ⟨w2.heap.size, 2, none⟩ = some (.int .i64 L.scr) := HBX.out.1.cell 2
          have l3 : wr.cell? ⟨w2.heap.size, 3, none⟩ = some (.int .i64 T) := HBX.out.1.cell 3
          have l4 : wr.cell? ⟨w2.heap.size, 4, none⟩ = some (.slice (some ⟨sb, 0, none⟩) L.squares.length sc) := HBX.out.1.cell 4
          have f3 := HBX.out.1.free 3
          have HP := Lib.hid (HBX.out.put (show w.heap.size ≤ w2.heap.size by omega) k)
          clear HBX
          go_wp2_with fail
          by_cases hle : m ≤ k
          · obtain ⟨hy, -⟩ : handsOf (L.withTotal k) ≠ [] ∧ True := ⟨(enough L k (by omega)).2 (by rw [HMM.out]; exact hle), trivial⟩
            refine (hands_yes _ (L.withTotal k) _ (Line.ok_total HOK2.out k (by omega)) HP.out.line hy).mono ?_
            rintro e w7 ⟨AA, nn, cc, rfl, hn, hb7⟩
            have HB7 := Lib.hid (HP.out.below (by simp [World.setCell]; omega) hb7)
            have hg7 : w2.heap.size + 1 < w7.heap.size := by have := hb7.size; simp [World.setCell] at this; omega
            have hn0 : ((nn : Int) == 0) = false := by simp; omega
            clear HP hb7 l0 l1 l2 l3 l4 f3 hy
            go_wp2
            go_roundw
            case rel => exact ⟨k + 1, k, by omega, by go_num, HB7.out, hg7⟩
            case measure => simp [intOf]; omega
          · refine (hands_none _ (L.withTotal k) _ (Line.ok_total HOK2.out k (by omega)) HP.out.line (Classical.byContradiction fun hc => by have := (enough L k (by omega)).1 hc; rw [HMM.out] at this; omega)).mono ?_
            rintro e w7 ⟨rfl, hb7⟩
            have HB7 := Lib.hid (HP.out.below (by simp [World.setCell]; omega) hb7)
            have hg7 : w2.heap.size + 1 < w7.heap.size := by have := hb7.size; simp [World.setCell] at this; omega
            clear HP hb7 l0 l1 l2 l3 l4 f3
            go_wp2
            go_roundw
            case rel => exact ⟨k + 1, k, by omega, by go_num, HB7.out, hg7⟩
            case measure => simp [intOf]; omega
        · obtain rfl : k = 13 := by omega
          go_wp2_with (go_at_call 14; refine (ready_any Unit _).mono ?_; rintro e w8 ⟨rfl, hb8⟩; have HB8 := Lib.hid hb8; clear hb8)
          go_ret
          exact ⟨rfl, HBX.out.2.2.2.trans (HB8.out.mono (by omega))⟩
  · have c4 : w3.cell? ⟨w2.heap.size, 4, none⟩ = some (.slice (some ⟨sb, 0, none⟩) L.squares.length sc) := HBOX.out.1.cell 4
    go_wp2_with fail
    refine (up_any _ _ _ (by have := HOK.out.2.2.2.2.2.2.2.1; omega) HU3.out).mono ?_
    rintro e w4 ⟨k, rfl, hk1, hu4, hk4⟩
    have hn1 := HOK.out.2.2.2.2.2.2.1
    have hkn : k < L.squares.length := by omega
    have HBOX4 := Lib.hid (show BoxI w w2.heap.size _ _ L L.total w4 from ⟨HBOX.out.1.kg hk4 (HU3.out.ne HBOX.out.1 (by decide)), HBOX.out.2.1.kg HU3.out hk4, HBOX.out.2.2.1.kg HU3.out hk4, HBOX.out.2.2.2.trans (hk4.below (by omega) (Nat.le_refl _))⟩)
    have hg4 := hk4.size
    have HU4 := Lib.hid hu4
    clear hk4 hu4 hk1 HBOX HU3 c4 hn1
    have c4 : w4.cell? ⟨w2.heap.size, 4, none⟩ = some (.slice (some ⟨sb, 0, none⟩) L.squares.length sc) := HBOX4.out.1.cell 4
    go_wp2_with fail
    go_region_law ((go_simp; go_at_call 42; refine (up_any _ _ _ (by omega) (by exact HU4.out)).mono ?_; rintro e w5 ⟨r, rfl, hr1, hu5, hk5⟩; have HBOX5 := Lib.hid (show BoxI w w2.heap.size _ _ L L.total w5 from ⟨Blok.kg (a := World.drew w4) HBOX4.out.1 hk5 (HU4.out.ne HBOX4.out.1 (by decide)), HandsB.kg (w := World.drew w4) HBOX4.out.2.1 (show UrnAt (World.drew w4) _ from HU4.out) hk5, SquaresB.kg (w := World.drew w4) HBOX4.out.2.2.1 (show UrnAt (World.drew w4) _ from HU4.out) hk5, HBOX4.out.2.2.2.drew.trans (hk5.below (show w.heap.size ≤ w4.heap.size by omega) (Nat.le_refl _))⟩); have hg5 : w4.heap.size ≤ w5.heap.size := hk5.size; have hlb5 : w2.heap.size < w5.heap.size := (by omega); have c5 : w5.cell? ⟨w2.heap.size, 4, none⟩ = some (.slice (some ⟨sb, 0, none⟩) L.squares.length sc) := HBOX5.out.1.cell 4; obtain ⟨cs5, hcs5, hkl5⟩ := SquaresB.slot HBOX5.out.2.2.1 k hkn; have s5 : w5.cell? ⟨sb, k, none⟩ = some cs5[k] := (hcs5.cell k).trans (List.getElem?_eq_getElem hkl5); have fr5 := hcs5.free k; have z5 := hcs5.size; have r32 : r < 32 := (by omega); have HCS := Lib.hid hcs5; clear hu5 hk5 hcs5 hr1))
    all_goals
      have hbx3 := BoxI.square HBOX5.out HCS.out hkn r (show w.heap.size ≤ sb by omega)
      rw [World.setCell_alloc_past _ _ _ _ z5] at hbx3
      have hz3 : ((w5.setCell ⟨sb, k, none⟩ (.slice (some ⟨w5.heap.size, 0, none⟩) 1 1)).alloc (.cells #[.int .i64 31, .int .i64 r] 27)).heap.size = w5.heap.size + 1 := by simp [World.setCell]
      generalize (w5.setCell ⟨sb, k, none⟩ (.slice (some ⟨w5.heap.size, 0, none⟩) 1 1)).alloc (.cells #[.int .i64 31, .int .i64 r] 27) = W3 at hbx3 hz3 ⊢
      have hg3' : w2.heap.size + 1 < W3.heap.size := by omega
      have HBX := Lib.hid (show BoxI w w2.heap.size (.slice (some ⟨hb, 0, none⟩) L.hands.length hc) (.slice (some ⟨sb, 0, none⟩) L.squares.length sc) (L.withSquare k [⟨31, r⟩]) (L.withSquare k [⟨31, r⟩]).total W3 from hbx3)
      have HOK2 := Lib.hid (Line.ok_square HOK.out k r r32)
      generalize L.withSquare k [⟨31, r⟩] = L2 at HBX HOK2
      clear hbx3 hz3 HBOX5 HCS HBOX4 HOK HU4 c4 c5 s5 fr5 z5
      have l0 : W3.cell? ⟨w2.heap.size, 0, none⟩ = some (.slice (some ⟨hb, 0, none⟩) L.hands.length hc) := HBX.out.1.cell 0
      have l1 : W3.cell? ⟨w2.heap.size, 1, none⟩ = some (.int .i64 L2.worn) := HBX.out.1.cell 1
      have l2 : W3.cell? ⟨w2.heap.size, 2, none⟩ = some (.int .i64 L2.scr) := HBX.out.1.cell 2
      have l3 : W3.cell? ⟨w2.heap.size, 3, none⟩ = some (.int .i64 L2.total) := HBX.out.1.cell 3
      have l4 : W3.cell? ⟨w2.heap.size, 4, none⟩ = some (.slice (some ⟨sb, 0, none⟩) L.squares.length sc) := HBX.out.1.cell 4
      go_wp2_with fail
      refine (marks_any _ (L2.withTotal L2.total) _ (Line.ok_total HOK2.out _ HOK2.out.2.2.2.2.2.1) HBX.out.line).mono ?_
      rintro e w6 ⟨hb6, hm6⟩
      have HBX6 := Lib.hid (HBX.out.below (by omega) hb6)
      have hg6 : w2.heap.size + 1 < w6.heap.size := by have := hb6.size; omega
      clear l0 l1 l2 l3 l4 hb6 HBX
      rw [marks_total L2 L2.total] at hm6
      generalize hmm : marksOf L2 = m at hm6
      have HMM := Lib.hid hmm
      clear hmm
      rcases hm6 with ⟨h81, he⟩ | ⟨hne, he⟩
      · subst he
        have hm81 : 81 ≤ m := by omega
        clear h81
        go_wp2
        go_loopw [9] (fun t wr => ∃ k T : Nat, k ≤ 13 ∧ t = .int .i64 k ∧ BoxI w w2.heap.size (.slice (some ⟨hb, 0, none⟩) L.hands.length hc) (.slice (some ⟨sb, 0, none⟩) L.squares.length sc) L2 T wr ∧ w2.heap.size + 1 < wr.heap.size) (fun t _ => 13 - (intOf t).toNat)
        case atStart => exact ⟨0, L2.total, by omega, rfl, HBX6.out, hg6⟩
        case round =>
          clear HBX6
          obtain ⟨k, T, hk, rfl, hbx, hgr⟩ := hrel
          have HBX := Lib.hid hbx
          clear hbx
          by_cases hlt : k ≤ 12
          · have l0 : wr.cell? ⟨w2.heap.size, 0, none⟩ = some (.slice (some ⟨hb, 0, none⟩) L.hands.length hc) := HBX.out.1.cell 0
            have l1 : wr.cell? ⟨w2.heap.size, 1, none⟩ = some (.int .i64 L2.worn) := HBX.out.1.cell 1
            have l2 : wr.cell? ⟨w2.heap.size, 2, none⟩ = some (.int .i64 L2.scr) := HBX.out.1.cell 2
            have l3 : wr.cell? ⟨w2.heap.size, 3, none⟩ = some (.int .i64 T) := HBX.out.1.cell 3
            have l4 : wr.cell? ⟨w2.heap.size, 4, none⟩ = some (.slice (some ⟨sb, 0, none⟩) L.squares.length sc) := HBX.out.1.cell 4
            have f3 := HBX.out.1.free 3
            have HP := Lib.hid (HBX.out.put (show w.heap.size ≤ w2.heap.size by omega) k)
            clear HBX
            go_wp2_with fail
            refine (hands_none _ (L2.withTotal k) _ (Line.ok_total HOK2.out k (by omega)) HP.out.line (Classical.byContradiction fun hc => by have := (enough L2 k (by omega)).1 hc; rw [HMM.out] at this; omega)).mono ?_
            rintro e w7 ⟨rfl, hb7⟩
            have HB7 := Lib.hid (HP.out.below (by simp [World.setCell]; omega) hb7)
            have hg7 : w2.heap.size + 1 < w7.heap.size := by have := hb7.size; simp [World.setCell] at this; omega
            clear HP hb7 l0 l1 l2 l3 l4 f3
            go_wp2
            go_roundw
            case rel => exact ⟨k + 1, k, by omega, by go_num, HB7.out, hg7⟩
            case measure => simp [intOf]; omega
          · obtain rfl : k = 13 := by omega
            go_wp2_with (go_at_call 14; refine (ready_any Unit _).mono ?_; rintro e w8 ⟨rfl, hb8⟩; have HB8 := Lib.hid hb8; clear hb8)
            go_ret
            exact ⟨rfl, HBX.out.2.2.2.trans (HB8.out.mono (by omega))⟩
      · subst he
        clear hne
        go_wp2
        go_loopw [9] (fun t wr => ∃ k T : Nat, k ≤ 13 ∧ t = .int .i64 k ∧ BoxI w w2.heap.size (.slice (some ⟨hb, 0, none⟩) L.hands.length hc) (.slice (some ⟨sb, 0, none⟩) L.squares.length sc) L2 T wr ∧ w2.heap.size + 1 < wr.heap.size) (fun t _ => 13 - (intOf t).toNat)
        case atStart => exact ⟨0, L2.total, by omega, rfl, HBX6.out, hg6⟩
        case round =>
          clear HBX6
          obtain ⟨k, T, hk, rfl, hbx, hgr⟩ := hrel
          have HBX := Lib.hid hbx
          clear hbx
          by_cases hlt : k ≤ 12
          · have l0 : wr.cell? ⟨w2.heap.size, 0, none⟩ = some (.slice (some ⟨hb, 0, none⟩) L.hands.length hc) := HBX.out.1.cell 0
            have l1 : wr.cell? ⟨w2.heap.size, 1, none⟩ = some (.int .i64 L2.worn) := HBX.out.1.cell 1
            have l2 : wr.cell? ⟨w2.heap.size, 2, none⟩ = some (.int .i64 L2.scr) := HBX.out.1.cell 2
            have l3 : wr.cell? ⟨w2.heap.size, 3, none⟩ = some (.int .i64 T) := HBX.out.1.cell 3
            have l4 : wr.cell? ⟨w2.heap.size, 4, none⟩ = some (.slice (some ⟨sb, 0, none⟩) L.squares.length sc) := HBX.out.1.cell 4
            have f3 := HBX.out.1.free 3
            have HP := Lib.hid (HBX.out.put (show w.heap.size ≤ w2.heap.size by omega) k)
            clear HBX
            go_wp2_with fail
            by_cases hle : m ≤ k
            · obtain ⟨hy, -⟩ : handsOf (L2.withTotal k) ≠ [] ∧ True := ⟨(enough L2 k (by omega)).2 (by rw [HMM.out]; exact hle), trivial⟩
              refine (hands_yes _ (L2.withTotal k) _ (Line.ok_total HOK2.out k (by omega)) HP.out.line hy).mono ?_
              rintro e w7 ⟨AA, nn, cc, rfl, hn, hb7⟩
              have HB7 := Lib.hid (HP.out.below (by simp [World.setCell]; omega) hb7)
              have hg7 : w2.heap.size + 1 < w7.heap.size := by have := hb7.size; simp [World.setCell] at this; omega
              have hn0 : ((nn : Int) == 0) = false := by simp; omega
              clear HP hb7 l0 l1 l2 l3 l4 f3 hy
              go_wp2
              go_roundw
              case rel => exact ⟨k + 1, k, by omega, by go_num, HB7.out, hg7⟩
              case measure => simp [intOf]; omega
            · refine (hands_none _ (L2.withTotal k) _ (Line.ok_total HOK2.out k (by omega)) HP.out.line (Classical.byContradiction fun hc => by have := (enough L2 k (by omega)).1 hc; rw [HMM.out] at this; omega)).mono ?_
              rintro e w7 ⟨rfl, hb7⟩
              have HB7 := Lib.hid (HP.out.below (by simp [World.setCell]; omega) hb7)
              have hg7 : w2.heap.size + 1 < w7.heap.size := by have := hb7.size; simp [World.setCell] at this; omega
              clear HP hb7 l0 l1 l2 l3 l4 f3
              go_wp2
              go_roundw
              case rel => exact ⟨k + 1, k, by omega, by go_num, HB7.out, hg7⟩
              case measure => simp [intOf]; omega
          · obtain rfl : k = 13 := by omega
            go_wp2_with (go_at_call 14; refine (ready_any Unit _).mono ?_; rintro e w8 ⟨rfl, hb8⟩; have HB8 := Lib.hid hb8; clear hb8)
            go_ret
            exact ⟨rfl, HBX.out.2.2.2.trans (HB8.out.mono (by omega))⟩
end Go.Proofs.Ythhajbgddifenaa
