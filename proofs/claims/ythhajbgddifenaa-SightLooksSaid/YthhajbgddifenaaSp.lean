/- SightEnough: how many marks are enough. · SightEnough's walk. · SightSure: what is printed, piece by piece. -/
import Derived.Test.YthhajbgddifenaaNu
import Derived.Test.YthhajbgddifenaaLo
import Derived.Test.YthhajbgddifenaaV
import Derived.Test.YthhajbgddifenaaVi
namespace Go.Proofs.Ythhajbgddifenaa
section
open Go.RowKit Go.Shelf

theorem SquaresB.below {w w' : World} {v : Value} {qs : List (List Light)} (h : SquaresB w v qs) (hk : Below w.heap.size w w') : SquaresB w' v qs := by
  obtain ⟨b, c, cur, lvs, e, hb, ht, hS⟩ := h
  exact ⟨b, c, cur, lvs, e, hb.below hk hb.size, ht, hS.below hk⟩
theorem SquaresB.kg {w w' : World} {g : Nat} {v : Value} {qs : List (List Light)} (h : SquaresB w v qs) (hu : UrnAt w g) (hk : Kg g w w') : SquaresB w' v qs := by
  obtain ⟨b, c, cur, lvs, e, hb, ht, hS⟩ := h
  exact ⟨b, c, cur, lvs, e, hb.kg hk (hu.ne hb (by decide)), ht, hS.kg hu hk⟩
theorem SquaresB.far {w : World} {v : Value} {qs : List (List Light)} (h : SquaresB w v qs) {p : Addr} {t : TypeId} {cs : List Value} (hb' : Blok w p.block t cs) (h1 : t ≠ 39) (h2 : t ≠ 27) (u : Value) : SquaresB (w.setCell p u) v qs := by
  obtain ⟨b, c, cur, lvs, e, hb, ht, hS⟩ := h
  exact ⟨b, c, cur, lvs, e, hb.far (blok_ne hb hb' (fun e => h1 e.symm)) u, ht, hS.far hb' h2 u⟩
/-- A square that is another one. -/
theorem SquaresB.set {w : World} {b n c k : Nat} {qs : List (List Light)} {q : List Light} {lv : Value} (h : SquaresB w (.slice (some ⟨b, 0, none⟩) n c) qs) (hk : k < qs.length) (hq : LightsB w lv q) : SquaresB (w.setCell ⟨b, k, none⟩ lv) (.slice (some ⟨b, 0, none⟩) n c) (qs.set k q) := by
  obtain ⟨b', c', cur, lvs, e, hb, ht, hS⟩ := h
  injection e with e1 e2 e3
  injection e1 with e1
  injection e1 with e1
  subst e1 e2 e3
  have hcl : qs.length ≤ cur.length := by
    have h1 := hS.1
    rw [← ht, List.length_take] at h1
    omega
  refine ⟨b, c, cur.set k lv, lvs.set k lv, by rw [List.length_set], hb.put k lv, ?_, by rw [List.length_set, List.length_set]; exact hS.1, fun i a v h1 h2 => ?_⟩
  · rw [List.length_set, ← ht]
    apply List.ext_getElem?
    intro i
    simp only [List.getElem?_take, List.getElem?_set, List.length_take]
    by_cases hi : i < qs.length <;> by_cases hik : k = i <;> simp_all <;> omega
  · have hfar : ∀ {q' : List Light} {v' : Value}, LightsB w v' q' → LightsB (w.setCell ⟨b, k, none⟩ lv) v' q' := fun h => h.far (p := ⟨b, k, none⟩) hb (by decide) _
    by_cases hik : i = k
    · subst hik
      rw [List.getElem?_set_self hk] at h1
      rw [List.getElem?_set_self (by rw [hS.1]; exact hk)] at h2
      injection h1 with h1
      injection h2 with h2
      subst h1 h2
      exact hfar hq
    · rw [List.getElem?_set_ne (fun e => hik e.symm)] at h1 h2
      exact hfar (hS.2 i a v h1 h2)
theorem SquaresB.slot {w : World} {b n c : Nat} {qs : List (List Light)} (h : SquaresB w (.slice (some ⟨b, 0, none⟩) n c) qs) (k : Nat) (hk : k < qs.length) : ∃ cs, Blok w b 39 cs ∧ k < cs.length := by
  obtain ⟨b', c', cur, lvs, e, hb, ht, hS⟩ := h
  injection e with e1 e2 e3
  injection e1 with e1
  injection e1 with e1
  subst e1 e2 e3
  refine ⟨cur, hb, ?_⟩
  have h1 := hS.1
  rw [← ht, List.length_take] at h1
  omega
theorem light31 : ∀ r : Fin 32, diff r.val 31 = 0 := by decide +kernel
theorem LightsB.two {w : World} {b r : Nat} (h : Blok w b 27 [.int .i64 31, .int .i64 r]) : LightsB w (.slice (some ⟨b, 0, none⟩) 1 1) [⟨31, r⟩] := .inr ⟨b, 1, _, rfl, h, rfl⟩
/-- A line with another square, and with another Total. -/
def Line.withSquare (L : Line) (k : Nat) (q : List Light) : Line := { L with squares := L.squares.set k q }
def Line.withTotal (L : Line) (t : Nat) : Line := { L with total := t }
theorem Line.ok_square {L : Line} (h : L.ok) (k r : Nat) (hr : r < 32) : (L.withSquare k [⟨31, r⟩]).ok := by
  obtain ⟨h1, h2, h3, h4, h5, h6, h7, h8, h9⟩ := h
  refine ⟨h1, h2, h3, h4, h5, h6, ?_, ?_, fun q hq => ?_⟩
  · show 1 ≤ (L.squares.set k _).length; rw [List.length_set]; exact h7
  · show (L.squares.set k _).length ≤ 8; rw [List.length_set]; exact h8
  · rcases List.mem_or_eq_of_mem_set hq with hq | rfl
    · exact h9 q hq
    · refine ⟨by simp, fun x hx => ?_⟩
      obtain rfl : x = ⟨31, r⟩ := by simpa using hx
      exact ⟨by simp, by simp; omega, light31 ⟨r, hr⟩⟩
theorem Line.ok_total {L : Line} (h : L.ok) (t : Nat) (ht : t ≤ 40) : (L.withTotal t).ok := ⟨h.1, h.2.1, h.2.2.1, h.2.2.2.1, h.2.2.2.2.1, ht, h.2.2.2.2.2.2⟩
theorem marks_total (L : Line) (t : Nat) : marksOf (L.withTotal t) = marksOf L := rfl
theorem enough (L : Line) (t : Nat) (ht : t ≤ 40) : handsOf (L.withTotal t) ≠ [] ↔ marksOf L ≤ t := by
  have h := hands_iff (L.withTotal t) (show t < 81 by omega)
  rwa [marks_total] at h
end
section
open Go.RowKit Go.Shelf

theorem hands_yes (v : Value) (L : Line) (w : World) (hL : L.ok) (hv : LineAt w w.heap.size v L) (h : handsOf L ≠ []) :
    Calls Try.prog 19 #[v] w fun e w' => ∃ (A : Option Addr) (n c : Nat), e = .returned (.tuple #[.slice A n c, .int .i64 0]) ∧ 0 < n ∧ Below w.heap.size w w' :=
  (hands_any v L w hL hv).mono fun e w' hp => by
    rcases hp with ⟨hb, ⟨h', _⟩ | ⟨_, u, rfl, hi⟩⟩
    · exact absurd h' h
    · obtain ⟨A, c, rfl, _⟩ := hi.1
      exact ⟨A, _, c, rfl, List.length_pos_iff.2 h, hb⟩
def EnoughPost (w : World) (e : Ending) (w' : World) : Prop := e = .returned (.bool true) ∧ Below w.heap.size w w'
/-- The box of the line within SightEnough. -/
def BoxI (w : World) (lb : Nat) (vh vs : Value) (L : Line) (T : Nat) (wr : World) : Prop :=
  Blok wr lb 25 [vh, .int .i64 L.worn, .int .i64 L.scr, .int .i64 T, vs] ∧ HandsB wr vh L.hands ∧ SquaresB wr vs L.squares ∧ Below w.heap.size w wr
theorem BoxI.line {w wr : World} {lb T : Nat} {vh vs : Value} {L : Line} (h : BoxI w lb vh vs L T wr) : LineAt wr wr.heap.size (.agg #[vh, .int .i64 L.worn, .int .i64 L.scr, .int .i64 T, vs]) (L.withTotal T) :=
  ⟨vh, vs, rfl, h.2.1.hands, h.2.2.1.squares⟩
theorem BoxI.below {w wr w' : World} {lb T : Nat} {vh vs : Value} {L : Line} (h : BoxI w lb vh vs L T wr) (hw : w.heap.size ≤ wr.heap.size) (hb : Below wr.heap.size wr w') : BoxI w lb vh vs L T w' :=
  ⟨h.1.below hb h.1.size, h.2.1.below hb, h.2.2.1.below hb, h.2.2.2.trans (hb.mono hw)⟩
theorem BoxI.put {w wr : World} {lb T : Nat} {vh vs : Value} {L : Line} (h : BoxI w lb vh vs L T wr) (hw : w.heap.size ≤ lb) (k : Nat) : BoxI w lb vh vs L k (wr.setCell ⟨lb, 3, none⟩ (.int .i64 k)) :=
  ⟨h.1.put 3 _, h.2.1.far (p := ⟨lb, 3, none⟩) h.1 (by decide) (by decide) _, h.2.2.1.far (p := ⟨lb, 3, none⟩) h.1 (by decide) (by decide) _, h.2.2.2.setCell (p := ⟨lb, 3, none⟩) hw _⟩
theorem BoxI.square {w w5 : World} {lb sb n c k T : Nat} {vh : Value} {L : Line} {cs : List Value} (h : BoxI w lb vh (.slice (some ⟨sb, 0, none⟩) n c) L T w5) (hcs : Blok w5 sb 39 cs) (hk : k < L.squares.length) (r : Nat) (hsb : w.heap.size ≤ sb) :
    BoxI w lb vh (.slice (some ⟨sb, 0, none⟩) n c) (L.withSquare k [⟨31, r⟩]) T ((w5.alloc (.cells #[.int .i64 31, .int .i64 r] 27)).setCell ⟨sb, k, none⟩ (.slice (some ⟨w5.heap.size, 0, none⟩) 1 1)) := by
  have hbel := (Below.refl w5.heap.size w5).alloc (Nat.le_refl _) (.cells #[.int .i64 31, .int .i64 r] 27)
  have hcs2 := hcs.alloc (.cells #[.int .i64 31, .int .i64 r] 27)
  have h1 := h.1.alloc (.cells #[.int .i64 31, .int .i64 r] 27)
  have hlt := LightsB.two (Blok.new w5 27 [.int .i64 31, .int .i64 r])
  exact ⟨h1.far (p := ⟨sb, k, none⟩) (blok_ne h1 hcs2 (by decide)) _, (h.2.1.below hbel).far (p := ⟨sb, k, none⟩) hcs2 (by decide) (by decide) _, (h.2.2.1.below hbel).set hk hlt, (h.2.2.2.trans (hbel.mono (by have := h.2.2.2.size; omega))).setCell (p := ⟨sb, k, none⟩) hsb _⟩
set_option maxRecDepth 100000 in
set_option maxHeartbeats 4000000 in
theorem enough_walk (a0 : Option Addr) (len0 cap0 : Nat) (w : World) (hr : NumRow w a0 len0) : Calls Try.prog 11 #[.slice a0 len0 cap0] w (EnoughPost w) := by
  go_enter Try.func11, Try.ntmps11
  go_wp2_with fail
  refine (newUrn_any _ _ _ _ hr).mono ?_
  rintro e w1 ⟨rfl, hu1, hb1⟩
  have HB1 := Lib.hid hb1
  have HU1 := Lib.hid hu1
  clear hu1 hb1 hr
  go_wp2_with fail
  refine (lineOf_any _ 3 4 5 _ (by omega) (by omega) (by omega) (by omega) (by omega) (by omega) HU1.out).mono ?_
  rintro e w2 ⟨L, lv, vv, hand, ks, vis, lts, H, rfl, hlb, hok, -, -, -, -, -, -, -, hvv, hnew, hu2, hk2⟩
  obtain ⟨vh, vs, rfl, hhb, hsb⟩ := hlb
  obtain ⟨hb, hc, hcur, hsvs, rfl, -⟩ := id hhb
  obtain ⟨sb, sc, scur, slvs, rfl, -⟩ := id hsb
  obtain ⟨vb, vc, vcur, rfl, -⟩ := hvv
  have hsbn : w1.heap.size ≤ sb := (hnew sb _ _ _ _ _ _ rfl).1
  clear hnew
  have hg2 : w.heap.size < w2.heap.size := by have := HU1.out.size; have := hk2.size; omega
  have hsb1 : w.heap.size < sb := by have := HU1.out.size; omega
  have HHB := Lib.hid hhb
  have HSB := Lib.hid hsb
  have HU2 := Lib.hid hu2
  have HB2 := Lib.hid (HB1.out.trans (hk2.below HB1.out.size (Nat.le_refl _)))
  have HOK := Lib.hid hok
  clear hhb hsb hu2 hk2 hok HB1 HU1
  go_wp2_with fail
  refine (odds_any _ _ _ _ (by omega) ((HU2.out.alloc _).alloc _)).mono ?_
  rintro e w3 ⟨bo, rfl, hu3, hk3⟩
  have hbox : BoxI w w2.heap.size (.slice (some ⟨hb, 0, none⟩) L.hands.length hc) (.slice (some ⟨sb, 0, none⟩) L.squares.length sc) L L.total w3 := by
    have hbel := ((Below.refl w2.heap.size w2).alloc (Nat.le_refl _) (.cells #[.slice (some ⟨hb, 0, none⟩) L.hands.length hc, .int .i64 L.worn, .int .i64 L.scr, .int .i64 L.total, .slice (some ⟨sb, 0, none⟩) L.squares.length sc] 25)).alloc (by simp) (.cells #[.int .i64 hand, .string lts, .slice (some ⟨vb, 0, none⟩) vis.length vc] 32)
    have u2 := (HU2.out.alloc (.cells #[.slice (some ⟨hb, 0, none⟩) L.hands.length hc, .int .i64 L.worn, .int .i64 L.scr, .int .i64 L.total, .slice (some ⟨sb, 0, none⟩) L.squares.length sc] 25)).alloc (.cells #[.int .i64 hand, .string lts, .slice (some ⟨vb, 0, none⟩) vis.length vc] 32)
    have bl := (Blok.new w2 25 [.slice (some ⟨hb, 0, none⟩) L.hands.length hc, .int .i64 L.worn, .int .i64 L.scr, .int .i64 L.total, .slice (some ⟨sb, 0, none⟩) L.squares.length sc]).alloc (.cells #[.int .i64 hand, .string lts, .slice (some ⟨vb, 0, none⟩) vis.length vc] 32)
    exact ⟨bl.kg hk3 (u2.ne bl (by decide)), (HHB.out.below hbel).kg u2 hk3, (HSB.out.below hbel).kg u2 hk3, (HB2.out.trans (hbel.mono (by omega))).trans (hk3.below (by simp; omega) (Nat.le_refl _))⟩
  have hg3 : w2.heap.size + 1 < w3.heap.size := by have := hk3.size; simp at this; omega
  have HBOX := Lib.hid hbox
  have HU3 := Lib.hid hu3
  clear hbox hu3 hk3 HHB HSB HB2 HU2
  cases bo
  · have HBX := HBOX
    have HOK2 := HOK
    clear HBOX HOK HU3
    have l0 : w3.cell? ⟨w2.heap.size, 0, none⟩ = some (.slice (some ⟨hb, 0, none⟩) L.hands.length hc) := HBX.out.1.cell 0
    have l1 : w3.cell? ⟨w2.heap.size, 1, none⟩ = some (.int .i64 L.worn) := HBX.out.1.cell 1
    have l2 : w3.cell? ⟨w2.heap.size, 2, none⟩ = some (.int .i64 L.scr) := HBX.out.1.cell 2
    have l3 : w3.cell? ⟨w2.heap.size, 3, none⟩ = some (.int .i64 L.total) := HBX.out.1.cell 3
    have l4 : w3.cell? ⟨w2.heap.size, 4, none⟩ = some (.slice (some ⟨sb, 0, none⟩) L.squares.length sc) := HBX.out.1.cell 4
    go_wp2_with fail
    refine (marks_any _ (L.withTotal L.total) _ (Line.ok_total HOK2.out _ HOK2.out.2.2.2.2.2.1) HBX.out.line).mono ?_
    rintro e w6 ⟨hb6, hm6⟩
    have HBX6 := Lib.hid (HBX.out.below (by omega) hb6)
    have hg6 : w2.heap.size + 1 < w6.heap.size := by have := hb6.size; omega
    clear l0 l1 l2 l3 l4 hb6 HBX
    rw [marks_total L L.total] at hm6
    generalize hmm : marksOf L = m at hm6
    have HMM := Lib.hid hmm
    clear hmm
    rcases hm6 with ⟨h81, he⟩ | ⟨hne, he⟩
    · subst he
      have hm81 : 81 ≤ m := by omega
      clear h81
      go_wp2
      go_loopw [9] (fun t wr => ∃ k T : Nat, k ≤ 13 ∧ t = .int .i64 k ∧ BoxI w w2.heap.size (.slice (some ⟨hb, 0, none⟩) L.hands.length hc) (.slice (some ⟨sb, 0, none⟩) L.squares.length sc) L T wr ∧ w2.heap.size + 1 < wr.heap.size) (fun t _ => 13 - (intOf t).toNat)
      case atStart => exact ⟨0, L.total, by omega, rfl, HBX6.out, hg6⟩
      case round =>
        clear HBX6
        obtain ⟨k, T, hk, rfl, hbx, hgr⟩ := hrel
        have HBX := Lib.hid hbx
        clear hbx
        by_cases hlt : k ≤ 12
        · have l0 : wr.cell? ⟨w2.heap.size, 0, none⟩ = some (.slice (some ⟨hb, 0, none⟩) L.hands.length hc) := HBX.out.1.cell 0
          have l1 : wr.cell? ⟨w2.heap.size, 1, none⟩ = some (.int .i64 L.worn) := HBX.out.1.cell 1
          have l2 : wr.cell? ⟨w2.heap.size, 2, none⟩ = some (.int .i64 L.scr) := HBX.out.1.cell 2
          have l3 : wr.cell? ⟨w2.heap.size, 3, none⟩ = some (.int .i64 T) := HBX.out.1.cell 3
          have l4 : wr.cell? ⟨w2.heap.size, 4, none⟩ = some (.slice (some ⟨sb, 0, none⟩) L.squares.length sc) := HBX.out.1.cell 4
          have f3 := HBX.out.1.free 3
          have HP := Lib.hid (HBX.out.put (show w.heap.size ≤ w2.heap.size by omega) k)
          clear HBX
          go_wp2_with fail
          refine (hands_none _ (L.withTotal k) _ (Line.ok_total HOK2.out k (by omega)) HP.out.line (Classical.byContradiction fun hc => by have := (enough L k (by omega)).1 hc; rw [HMM.out] at this; omega)).mono ?_
          rintro e w7 ⟨rfl, hb7⟩
          have HB7 := Lib.hid (HP.out.below (by simp [World.setCell]; omega) hb7)
          have hg7 : w2.heap.size + 1 < w7.heap.size := by have := hb7.size; simp [World.setCell] at this; omega
          clear HP hb7 l0 l1 l2 l3 l4 f3
          go_wp2
          go_roundw
          case rel => exact ⟨k + 1, k, by omega, by go_num, HB7.out, hg7⟩
          case measure => simp [intOf]; omega
        · obtain rfl : k = 13 := by omega
          go_wp2_with (go_at_call 14; refine (ready_any Unit _).mono ?_; rintro e w8 ⟨rfl, hb8⟩; have HB8 := Lib.hid hb8; clear hb8)
          go_ret
          exact ⟨rfl, HBX.out.2.2.2.trans (HB8.out.mono (by omega))⟩
    · subst he
      clear hne
      go_wp2
      go_loopw [9] (fun t wr => ∃ k T : Nat, k ≤ 13 ∧ t = .int .i64 k ∧ BoxI w w2.heap.size (.slice (some ⟨hb, 0, none⟩) L.hands.length hc) (.slice (some ⟨sb, 0, none⟩) L.squares.length sc) L T wr ∧ w2.heap.size + 1 < wr.heap.size) (fun t _ => 13 - (intOf t).toNat)
      case atStart => exact ⟨0, L.total, by omega, rfl, HBX6.out, hg6⟩
      case round =>
        clear HBX6
        obtain ⟨k, T, hk, rfl, hbx, hgr⟩ := hrel
        have HBX := Lib.hid hbx
        clear hbx
        by_cases hlt : k ≤ 12
        · have l0 : wr.cell? ⟨w2.heap.size, 0, none⟩ = some (.slice (some ⟨hb, 0, none⟩) L.hands.length hc) := HBX.out.1.cell 0
          have l1 : wr.cell? ⟨w2.heap.size, 1, none⟩ = some (.int .i64 L.worn) := HBX.out.1.cell 1
          have l2 : wr.cell? ⟨w2.heap.size, 2, none⟩ = some (.int .i64 L.scr) := HBX.out.1.cell 2
          have l3 : wr.cell? ⟨w2.heap.size, 3, none⟩ = some (.int .i64 T) := HBX.out.1.cell 3
          have l4 : wr.cell? ⟨w2.heap.size, 4, none⟩ = some (.slice (some ⟨sb, 0, none⟩) L.squares.length sc) := HBX.out.1.cell 4
          have f3 := HBX.out.1.free 3
          have HP := Lib.hid (HBX.out.put (show w.heap.size ≤ w2.heap.size by omega) k)
          clear HBX
          go_wp2_with fail
          by_cases hle : m ≤ k
          · obtain ⟨hy, -⟩ : handsOf (L.withTotal k) ≠ [] ∧ True := ⟨(enough L k (by omega)).2 (by rw [HMM.out]; exact hle), trivial⟩
            refine (hands_yes _ (L.withTotal k) _ (Line.ok_total HOK2.out k (by omega)) HP.out.line hy).mono ?_
            rintro e w7 ⟨AA, nn, cc, rfl, hn, hb7⟩
            have HB7 := Lib.hid (HP.out.below (by simp [World.setCell]; omega) hb7)
            have hg7 : w2.heap.size + 1 < w7.heap.size := by have := hb7.size; simp [World.setCell] at this; omega
            have hn0 : ((nn : Int) == 0) = false := by simp; omega
            clear HP hb7 l0 l1 l2 l3 l4 f3 hy
            go_wp2
            go_roundw
            case rel => exact ⟨k + 1, k, by omega, by go_num, HB7.out, hg7⟩
            case measure => simp [intOf]; omega
          · refine (hands_none _ (L.withTotal k) _ (Line.ok_total HOK2.out k (by omega)) HP.out.line (Classical.byContradiction fun hc => by have := (enough L k (by omega)).1 hc; rw [HMM.out] at this; omega)).mono ?_
            rintro e w7 ⟨rfl, hb7⟩
            have HB7 := Lib.hid (HP.out.below (by simp [World.setCell]; omega) hb7)
            have hg7 : w2.heap.size + 1 < w7.heap.size := by have := hb7.size; simp [World.setCell] at this; omega
            clear HP hb7 l0 l1 l2 l3 l4 f3
            go_wp2
            go_roundw
            case rel => exact ⟨k + 1, k, by omega, by go_num, HB7.out, hg7⟩
            case measure => simp [intOf]; omega
        · obtain rfl : k = 13 := by omega
          go_wp2_with (go_at_call 14; refine (ready_any Unit _).mono ?_; rintro e w8 ⟨rfl, hb8⟩; have HB8 := Lib.hid hb8; clear hb8)
          go_ret
          exact ⟨rfl, HBX.out.2.2.2.trans (HB8.out.mono (by omega))⟩
  · have c4 : w3.cell? ⟨w2.heap.size, 4, none⟩ = some (.slice (some ⟨sb, 0, none⟩) L.squares.length sc) := HBOX.out.1.cell 4
    go_wp2_with fail
    refine (up_any _ _ _ (by have := HOK.out.2.2.2.2.2.2.2.1; omega) HU3.out).mono ?_
    rintro e w4 ⟨k, rfl, hk1, hu4, hk4⟩
    have hn1 := HOK.out.2.2.2.2.2.2.1
    have hkn : k < L.squares.length := by omega
    have HBOX4 := Lib.hid (show BoxI w w2.heap.size _ _ L L.total w4 from ⟨HBOX.out.1.kg hk4 (HU3.out.ne HBOX.out.1 (by decide)), HBOX.out.2.1.kg HU3.out hk4, HBOX.out.2.2.1.kg HU3.out hk4, HBOX.out.2.2.2.trans (hk4.below (by omega) (Nat.le_refl _))⟩)
    have hg4 := hk4.size
    have HU4 := Lib.hid hu4
    clear hk4 hu4 hk1 HBOX HU3 c4 hn1
    have c4 : w4.cell? ⟨w2.heap.size, 4, none⟩ = some (.slice (some ⟨sb, 0, none⟩) L.squares.length sc) := HBOX4.out.1.cell 4
    go_wp2_with fail
    go_region_law ((go_simp; go_at_call 42; refine (up_any _ _ _ (by omega) (by exact HU4.out)).mono ?_; rintro e w5 ⟨r, rfl, hr1, hu5, hk5⟩; have HBOX5 := Lib.hid (show BoxI w w2.heap.size _ _ L L.total w5 from ⟨Blok.kg (a := World.drew w4) HBOX4.out.1 hk5 (HU4.out.ne HBOX4.out.1 (by decide)), HandsB.kg (w := World.drew w4) HBOX4.out.2.1 (show UrnAt (World.drew w4) _ from HU4.out) hk5, SquaresB.kg (w := World.drew w4) HBOX4.out.2.2.1 (show UrnAt (World.drew w4) _ from HU4.out) hk5, HBOX4.out.2.2.2.drew.trans (hk5.below (show w.heap.size ≤ w4.heap.size by omega) (Nat.le_refl _))⟩); have hg5 : w4.heap.size ≤ w5.heap.size := hk5.size; have hlb5 : w2.heap.size < w5.heap.size := (by omega); have c5 : w5.cell? ⟨w2.heap.size, 4, none⟩ = some (.slice (some ⟨sb, 0, none⟩) L.squares.length sc) := HBOX5.out.1.cell 4; obtain ⟨cs5, hcs5, hkl5⟩ := SquaresB.slot HBOX5.out.2.2.1 k hkn; have s5 : w5.cell? ⟨sb, k, none⟩ = some cs5[k] := (hcs5.cell k).trans (List.getElem?_eq_getElem hkl5); have fr5 := hcs5.free k; have z5 := hcs5.size; have r32 : r < 32 := (by omega); have HCS := Lib.hid hcs5; clear hu5 hk5 hcs5 hr1))
    all_goals
      have hbx3 := BoxI.square HBOX5.out HCS.out hkn r (show w.heap.size ≤ sb by omega)
      rw [World.setCell_alloc_past _ _ _ _ z5] at hbx3
      have hz3 : ((w5.setCell ⟨sb, k, none⟩ (.slice (some ⟨w5.heap.size, 0, none⟩) 1 1)).alloc (.cells #[.int .i64 31, .int .i64 r] 27)).heap.size = w5.heap.size + 1 := by simp [World.setCell]
      generalize (w5.setCell ⟨sb, k, none⟩ (.slice (some ⟨w5.heap.size, 0, none⟩) 1 1)).alloc (.cells #[.int .i64 31, .int .i64 r] 27) = W3 at hbx3 hz3 ⊢
      have hg3' : w2.heap.size + 1 < W3.heap.size := by omega
      have HBX := Lib.hid (show BoxI w w2.heap.size (.slice (some ⟨hb, 0, none⟩) L.hands.length hc) (.slice (some ⟨sb, 0, none⟩) L.squares.length sc) (L.withSquare k [⟨31, r⟩]) (L.withSquare k [⟨31, r⟩]).total W3 from hbx3)
      have HOK2 := Lib.hid (Line.ok_square HOK.out k r r32)
      generalize L.withSquare k [⟨31, r⟩] = L2 at HBX HOK2
      clear hbx3 hz3 HBOX5 HCS HBOX4 HOK HU4 c4 c5 s5 fr5 z5
      have l0 : W3.cell? ⟨w2.heap.size, 0, none⟩ = some (.slice (some ⟨hb, 0, none⟩) L.hands.length hc) := HBX.out.1.cell 0
      have l1 : W3.cell? ⟨w2.heap.size, 1, none⟩ = some (.int .i64 L2.worn) := HBX.out.1.cell 1
      have l2 : W3.cell? ⟨w2.heap.size, 2, none⟩ = some (.int .i64 L2.scr) := HBX.out.1.cell 2
      have l3 : W3.cell? ⟨w2.heap.size, 3, none⟩ = some (.int .i64 L2.total) := HBX.out.1.cell 3
      have l4 : W3.cell? ⟨w2.heap.size, 4, none⟩ = some (.slice (some ⟨sb, 0, none⟩) L.squares.length sc) := HBX.out.1.cell 4
      go_wp2_with fail
      refine (marks_any _ (L2.withTotal L2.total) _ (Line.ok_total HOK2.out _ HOK2.out.2.2.2.2.2.1) HBX.out.line).mono ?_
      rintro e w6 ⟨hb6, hm6⟩
      have HBX6 := Lib.hid (HBX.out.below (by omega) hb6)
      have hg6 : w2.heap.size + 1 < w6.heap.size := by have := hb6.size; omega
      clear l0 l1 l2 l3 l4 hb6 HBX
      rw [marks_total L2 L2.total] at hm6
      generalize hmm : marksOf L2 = m at hm6
      have HMM := Lib.hid hmm
      clear hmm
      rcases hm6 with ⟨h81, he⟩ | ⟨hne, he⟩
      · subst he
        have hm81 : 81 ≤ m := by omega
        clear h81
        go_wp2
        go_loopw [9] (fun t wr => ∃ k T : Nat, k ≤ 13 ∧ t = .int .i64 k ∧ BoxI w w2.heap.size (.slice (some ⟨hb, 0, none⟩) L.hands.length hc) (.slice (some ⟨sb, 0, none⟩) L.squares.length sc) L2 T wr ∧ w2.heap.size + 1 < wr.heap.size) (fun t _ => 13 - (intOf t).toNat)
        case atStart => exact ⟨0, L2.total, by omega, rfl, HBX6.out, hg6⟩
        case round =>
          clear HBX6
          obtain ⟨k, T, hk, rfl, hbx, hgr⟩ := hrel
          have HBX := Lib.hid hbx
          clear hbx
          by_cases hlt : k ≤ 12
          · have l0 : wr.cell? ⟨w2.heap.size, 0, none⟩ = some (.slice (some ⟨hb, 0, none⟩) L.hands.length hc) := HBX.out.1.cell 0
            have l1 : wr.cell? ⟨w2.heap.size, 1, none⟩ = some (.int .i64 L2.worn) := HBX.out.1.cell 1
            have l2 : wr.cell? ⟨w2.heap.size, 2, none⟩ = some (.int .i64 L2.scr) := HBX.out.1.cell 2
            have l3 : wr.cell? ⟨w2.heap.size, 3, none⟩ = some (.int .i64 T) := HBX.out.1.cell 3
            have l4 : wr.cell? ⟨w2.heap.size, 4, none⟩ = some (.slice (some ⟨sb, 0, none⟩) L.squares.length sc) := HBX.out.1.cell 4
            have f3 := HBX.out.1.free 3
            have HP := Lib.hid (HBX.out.put (show w.heap.size ≤ w2.heap.size by omega) k)
            clear HBX
            go_wp2_with fail
            refine (hands_none _ (L2.withTotal k) _ (Line.ok_total HOK2.out k (by omega)) HP.out.line (Classical.byContradiction fun hc => by have := (enough L2 k (by omega)).1 hc; rw [HMM.out] at this; omega)).mono ?_
            rintro e w7 ⟨rfl, hb7⟩
            have HB7 := Lib.hid (HP.out.below (by simp [World.setCell]; omega) hb7)
            have hg7 : w2.heap.size + 1 < w7.heap.size := by have := hb7.size; simp [World.setCell] at this; omega
            clear HP hb7 l0 l1 l2 l3 l4 f3
            go_wp2
            go_roundw
            case rel => exact ⟨k + 1, k, by omega, by go_num, HB7.out, hg7⟩
            case measure => simp [intOf]; omega
          · obtain rfl : k = 13 := by omega
            go_wp2_with (go_at_call 14; refine (ready_any Unit _).mono ?_; rintro e w8 ⟨rfl, hb8⟩; have HB8 := Lib.hid hb8; clear hb8)
            go_ret
            exact ⟨rfl, HBX.out.2.2.2.trans (HB8.out.mono (by omega))⟩
      · subst he
        clear hne
        go_wp2
        go_loopw [9] (fun t wr => ∃ k T : Nat, k ≤ 13 ∧ t = .int .i64 k ∧ BoxI w w2.heap.size (.slice (some ⟨hb, 0, none⟩) L.hands.length hc) (.slice (some ⟨sb, 0, none⟩) L.squares.length sc) L2 T wr ∧ w2.heap.size + 1 < wr.heap.size) (fun t _ => 13 - (intOf t).toNat)
        case atStart => exact ⟨0, L2.total, by omega, rfl, HBX6.out, hg6⟩
        case round =>
          clear HBX6
          obtain ⟨k, T, hk, rfl, hbx, hgr⟩ := hrel
          have HBX := Lib.hid hbx
          clear hbx
          by_cases hlt : k ≤ 12
          · have l0 : wr.cell? ⟨w2.heap.size, 0, none⟩ = some (.slice (some ⟨hb, 0, none⟩) L.hands.length hc) := HBX.out.1.cell 0
            have l1 : wr.cell? ⟨w2.heap.size, 1, none⟩ = some (.int .i64 L2.worn) := HBX.out.1.cell 1
            have l2 : wr.cell? ⟨w2.heap.size, 2, none⟩ = some (.int .i64 L2.scr) := HBX.out.1.cell 2
            have l3 : wr.cell? ⟨w2.heap.size, 3, none⟩ = some (.int .i64 T) := HBX.out.1.cell 3
            have l4 : wr.cell? ⟨w2.heap.size, 4, none⟩ = some (.slice (some ⟨sb, 0, none⟩) L.squares.length sc) := HBX.out.1.cell 4
            have f3 := HBX.out.1.free 3
            have HP := Lib.hid (HBX.out.put (show w.heap.size ≤ w2.heap.size by omega) k)
            clear HBX
            go_wp2_with fail
            by_cases hle : m ≤ k
            · obtain ⟨hy, -⟩ : handsOf (L2.withTotal k) ≠ [] ∧ True := ⟨(enough L2 k (by omega)).2 (by rw [HMM.out]; exact hle), trivial⟩
              refine (hands_yes _ (L2.withTotal k) _ (Line.ok_total HOK2.out k (by omega)) HP.out.line hy).mono ?_
              rintro e w7 ⟨AA, nn, cc, rfl, hn, hb7⟩
              have HB7 := Lib.hid (HP.out.below (by simp [World.setCell]; omega) hb7)
              have hg7 : w2.heap.size + 1 < w7.heap.size := by have := hb7.size; simp [World.setCell] at this; omega
              have hn0 : ((nn : Int) == 0) = false := by simp; omega
              clear HP hb7 l0 l1 l2 l3 l4 f3 hy
              go_wp2
              go_roundw
              case rel => exact ⟨k + 1, k, by omega, by go_num, HB7.out, hg7⟩
              case measure => simp [intOf]; omega
            · refine (hands_none _ (L2.withTotal k) _ (Line.ok_total HOK2.out k (by omega)) HP.out.line (Classical.byContradiction fun hc => by have := (enough L2 k (by omega)).1 hc; rw [HMM.out] at this; omega)).mono ?_
              rintro e w7 ⟨rfl, hb7⟩
              have HB7 := Lib.hid (HP.out.below (by simp [World.setCell]; omega) hb7)
              have hg7 : w2.heap.size + 1 < w7.heap.size := by have := hb7.size; simp [World.setCell] at this; omega
              clear HP hb7 l0 l1 l2 l3 l4 f3
              go_wp2
              go_roundw
              case rel => exact ⟨k + 1, k, by omega, by go_num, HB7.out, hg7⟩
              case measure => simp [intOf]; omega
          · obtain rfl : k = 13 := by omega
            go_wp2_with (go_at_call 14; refine (ready_any Unit _).mono ?_; rintro e w8 ⟨rfl, hb8⟩; have HB8 := Lib.hid hb8; clear hb8)
            go_ret
            exact ⟨rfl, HBX.out.2.2.2.trans (HB8.out.mono (by omega))⟩
end
section
open Go.RowKit Go.Shelf

theorem printTo_append (a b : List ByteArray) : ∃ r : ByteArray, printTo (a ++ b) = printTo a ++ r := by
  induction b generalizing a with
  | nil => exact ⟨⟨#[]⟩, by
      rw [List.append_nil]
      exact ByteArray.ext (by simp)⟩
  | cons x b ih =>
    obtain ⟨r, hr⟩ := ih (a ++ [x])
    refine ⟨piece x ++ r, ?_⟩
    rw [show a ++ x :: b = a ++ [x] ++ b by simp, hr, printTo_snoc, ByteArray.append_assoc]
theorem printTo_at (ts : List ByteArray) (k : Nat) (x : ByteArray) (hx : ts[k]? = some x) : ∃ r : ByteArray, printTo ts = printTo (ts.take k) ++ (piece x ++ r) := by
  obtain ⟨hk, e⟩ := List.getElem?_eq_some_iff.1 hx
  obtain ⟨r, hr⟩ := printTo_append (ts.take (k + 1)) (ts.drop (k + 1))
  refine ⟨r, ?_⟩
  rw [List.take_append_drop, List.take_succ_eq_append_getElem hk, e, printTo_snoc, ByteArray.append_assoc] at hr
  exact hr
theorem orderText_pos {zs : List (Fin 256)} {z : Fin 256} (h : z ∈ zs) : 1 ≤ (orderText zs).size := by
  have h1 : z.val ∈ orderOf zs := mem_orderOf.2 ⟨z, h, rfl⟩
  have h2 : 1 ≤ (orderOf zs).length := List.length_pos_of_mem h1
  show 1 ≤ (((orderOf zs).map UInt8.ofNat).toArray).size
  simpa using h2
theorem letters_at (L : Line) (k : Nat) (hk : k < L.squares.length) : (lettersOf L)[k]? = some (orderText (allLetters L k)) := by
  simp [lettersOf, hk]
theorem extract_mid (q p r : ByteArray) (n : Nat) (hn : n = q.size + p.size) : (q ++ (p ++ r)).extract q.size n = p := by
  subst hn
  apply ByteArray.ext
  apply Array.toList_inj.1
  have e0 : ((q ++ (p ++ r)).extract q.size (q.size + p.size)).data.toList = ((q ++ (p ++ r)).data.toList.drop q.size).take p.size := by
    rw [ByteArray.data_extract, Array.toList_extract, List.extract_eq_take_drop, Nat.add_sub_cancel_left]
  have e1 : q.size = q.data.toList.length := by rw [Array.length_toList]; rfl
  have e2 : p.size = p.data.toList.length := by rw [Array.length_toList]; rfl
  rw [e0, ByteArray.data_append, ByteArray.data_append, Array.toList_append, Array.toList_append, e1, e2, List.drop_left, List.take_left]
theorem same_mid {P q p r : ByteArray} (h : P = q ++ (p ++ r)) (n : Nat) (hn : n = q.size + p.size) : ((P.extract q.size n).toList == p.toList) = true := by
  rw [h, extract_mid q p r n hn]
  simp
theorem brace_size (x : ByteArray) : ((⟨#[123]⟩ : ByteArray) ++ x ++ ⟨#[125]⟩).size = 1 + x.size + 1 := by
  rw [ByteArray.size_append, ByteArray.size_append]
  rfl
theorem dash_list : (⟨#[45]⟩ : ByteArray).toList = [45] := by decide +kernel
theorem orderText_le (zs : List (Fin 256)) : (orderText zs).size ≤ 256 := by
  have h := orderOf_len zs
  show (((orderOf zs).map UInt8.ofNat).toArray).size ≤ 256
  simpa using h
theorem ne_empty {x : ByteArray} (h : 1 ≤ x.size) : ¬ x = ByteArray.empty := by
  rintro rfl
  simp at h
end
end Go.Proofs.Ythhajbgddifenaa
