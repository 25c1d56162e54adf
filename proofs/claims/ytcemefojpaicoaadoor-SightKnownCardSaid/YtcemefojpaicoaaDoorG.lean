/- A line that may be is found to be one: Check answers OK. -/
import Derived.Test.YtcemefojpaicoaaDoorB
namespace Go.Proofs.YtcemefojpaicoaaDoor
open Go.RowKit

theorem outside_in (n lo hi : Int) (h1 : lo ≤ n) (h2 : n ≤ hi) (w : World) :
    Calls Tryd.prog 20 #[.int .i64 n, .int .i64 lo, .int .i64 hi] w fun e w' => e = .returned (.bool false) ∧ w = w' := by
  have h := outside_any n lo hi w
  rwa [show outB n lo hi = false by simp [outB]; omega] at h
theorem count_in (n lo hi : Int) (h1 : lo ≤ n) (h2 : n ≤ hi) (w : World) :
    Calls Tryd.prog 18 #[.int .i64 n, .int .i64 lo, .int .i64 hi] w fun e w' => e = .returned (.int .i64 0) ∧ w = w' := by
  have h := count_any n lo hi w
  rwa [show countE n lo hi = 0 by unfold countE; rw [if_neg (by omega), if_neg (by omega)]] at h

set_option maxHeartbeats 400000 in
theorem checkSquare_ok (v : Value) (q : List Light) (w : World) (hq : q.length ≤ 4) (hok : ∀ x ∈ q, x.ok) (hl : Lights w w.heap.size v q) :
    Calls Tryd.prog 21 #[v] w fun e w' => e = .returned (.int .i64 0) ∧ Below w.heap.size w w' := by
  obtain ⟨A, c, rfl, hA⟩ := hl
  obtain ⟨n, hn⟩ : ∃ n, n = q.length := ⟨_, rfl⟩
  rw [← hn] at hA hq ⊢
  have HN := Lib.hid hn
  clear hn
  go_enter Tryd.func21, Tryd.ntmps21
  go_wp2
  go_loopw [10] (fun i wr => ∃ k : Nat, k ≤ n ∧ i = .int .i64 k ∧ Below w.heap.size w wr) (fun i _ => n - (intOf i).toNat)
  case atStart => exact ⟨0, by omega, rfl, Below.refl _ _⟩
  case round =>
    obtain ⟨k, hk, rfl, hb⟩ := hrel
    by_cases hlt : k < n
    · obtain ⟨b, o, rfl, hB, hc⟩ := hA (by omega)
      have hkq : k < q.length := by rw [← HN.out]; exact hlt
      have hx := hok q[k] (List.getElem_mem hkq)
      obtain ⟨c1, c2⟩ := hc k q[k] (List.getElem?_eq_getElem hkq)
      have d1 := bcell hb hB c1
      have d2 := bcell hb hB c2
      have x1 := hx.1
      have x2 := hx.2.1
      have x3 : bits .andNot .i64 (q[k].seen : Int) (q[k].shows : Int) = 0 := by rw [andNot64 _ _ (by omega), hx.2.2]; rfl
      generalize q[k].shows = a at *
      generalize q[k].seen = s at *
      clear hc hA hx hok c1 c2
      go_wp2_with (go_at_call 20; refine (outside_in _ _ _ (by omega) (by omega) _).mono ?_; rintro e w' ⟨rfl, rfl⟩)
      go_roundw
      case rel => exact ⟨k + 1, by omega, by go_num, hb.alloc hb.size _⟩
      case measure => simp [intOf]; omega
    · obtain rfl : k = n := by omega
      go_wp2
      go_ret
      exact ⟨rfl, hb⟩

set_option maxHeartbeats 1000000 in
theorem checkHand_ok (v : Value) (h : Hand) (w : World) (hok : h.ok) (sv : Value) (hv : v = .agg #[.int .i64 h.low, .int .i64 h.high, sv]) (hs : Shapes w w.heap.size sv h.shapes) :
    Calls Tryd.prog 19 #[v] w fun e w' => e = .returned (.int .i64 0) ∧ Below w.heap.size w w' := by
  subst hv
  obtain ⟨A, c, rfl, hA⟩ := hs
  obtain ⟨n, hn⟩ : ∃ n, n = h.shapes.length := ⟨_, rfl⟩
  obtain ⟨y1, y2, y3, y4, y5, y6, y7⟩ := hok
  rw [← hn] at hA y4 y5 ⊢
  have HN := Lib.hid hn
  have H7 := Lib.hid y7
  clear hn y7
  go_enter Tryd.func19, Tryd.ntmps19
  go_wp2_with (first
    | (go_at_call 20; refine (outside_in _ _ _ (by omega) (by omega) _).mono ?_; rintro e w' ⟨rfl, rfl⟩)
    | (go_at_call 18; refine (count_in _ _ _ (by omega) (by omega) _).mono ?_; rintro e w' ⟨rfl, rfl⟩))
  go_loopw [32] (fun i wr => ∃ k : Nat, k ≤ n ∧ i = .int .i64 k ∧ Below (w.heap.size + 1) (w.alloc (.cells #[.int .i64 h.low, .int .i64 h.high, .slice A n c] 36)) wr) (fun i _ => n - (intOf i).toNat)
  case atStart => exact ⟨0, by omega, rfl, (Below.refl _ _).alloc (by simp) _⟩
  case round =>
    obtain ⟨k, hk, rfl, hb⟩ := hrel
    have hb0 : Below w.heap.size w wr := ((Below.refl _ _).alloc (Nat.le_refl _) _).trans (hb.mono (Nat.le_succ _))
    by_cases hlt : k < n
    · obtain ⟨b, o, rfl, hB, hc⟩ := hA (by omega)
      have hkq : k < h.shapes.length := by rw [← HN.out]; exact hlt
      have hx := y6 h.shapes[k] (List.getElem_mem hkq)
      obtain ⟨c1, c2⟩ := hc k h.shapes[k] (List.getElem?_eq_getElem hkq)
      have d1 := bcell hb0 hB c1
      have d2 := bcell hb0 hB c2
      obtain ⟨x1, x2, x3, x4⟩ := hx
      have bx := (Blok.new w 36 [.int .i64 h.low, .int .i64 h.high, .slice (some ⟨b, o, none⟩) n c]).below hb (by omega)
      have s0 := bx.size
      have l2 : wr.cell? ⟨w.heap.size, 2, none⟩ = some (.slice (some ⟨b, o, none⟩) n c) := bx.cell 2
      have HB := Lib.hid hb
      by_cases hk0 : k = 0
      · subst hk0
        simp only [Nat.zero_mul, Nat.add_zero] at d1 d2
        generalize h.shapes[0].letter = a at *
        generalize h.shapes[0].strokes = s at *
        clear hc hA c1 c2 hb hb0 bx
        go_wp2_with (go_at_call 20; refine (outside_in _ _ _ (by omega) (by omega) _).mono ?_; rintro e w' ⟨rfl, rfl⟩)
        go_quiet (fail)
        go_wp2
        go_roundw
        case rel => exact ⟨1, by omega, by go_num, below_drewN (HB.out.alloc (by omega) _) _⟩
        case measure => simp [intOf]; omega
      · have hpq : k - 1 < h.shapes.length := by omega
        obtain ⟨c3, _⟩ := hc (k - 1) h.shapes[k - 1] (List.getElem?_eq_getElem hpq)
        have d3 := bcell hb0 hB c3
        have hlt2 : h.shapes[k - 1].letter < h.shapes[k].letter := List.pairwise_iff_getElem.1 H7.out (k - 1) k hpq hkq (by omega)
        generalize h.shapes[k].letter = a at *
        generalize h.shapes[k].strokes = s at *
        generalize h.shapes[k - 1].letter = a' at *
        have hd : decide (a ≤ a') = false := by simp; omega
        have hk1 : 0 < k := by omega
        have hbw : b < wr.heap.size := by omega
        have i1 : (0 : Int) ≤ (k : Int) - 1 := by omega
        have i2 : (k : Int) - 1 < n := by omega
        clear hc hA c1 c2 c3 hb hb0 bx
        go_wp2_with (go_at_call 20; refine (outside_in _ _ _ (by omega) (by omega) _).mono ?_; rintro e w' ⟨rfl, rfl⟩)
        have w1 : IntKind.i64.wrap ((k : Int) - 1) = (k : Int) - 1 := IntWalk.i64_in _ (by omega)
        have w2 : ((k : Int) - 1).toNat = k - 1 := by omega
        go_quiet (fail)
        clear w1 w2
        go_wp2
        go_roundw
        case rel => exact ⟨k + 1, by omega, by go_num, below_drewN (HB.out.alloc (by omega) _) _⟩
        case measure => simp [intOf]; omega
    · obtain rfl : k = n := by omega
      go_wp2
      go_ret
      exact ⟨rfl, hb0⟩

/-- Within Check: what lay is as it was, the box of the line too. -/
def CheckI (w : World) (l : List Value) (wr : World) : Prop := Below (w.heap.size + 1) (w.alloc (.cells l.toArray 25)) wr
theorem CheckI.below {w : World} {l : List Value} {wr : World} (h : CheckI w l wr) : Below w.heap.size w wr := ((Below.refl _ _).alloc (Nat.le_refl _) _).trans (Below.mono h (Nat.le_succ _))
theorem CheckI.blok {w : World} {l : List Value} {wr : World} (h : CheckI w l wr) : Blok wr w.heap.size 25 l := (Blok.new w 25 l).below h (Nat.lt_succ_self _)
theorem CheckI.size {w : World} {l : List Value} {wr : World} (h : CheckI w l wr) : w.heap.size < wr.heap.size := h.blok.size
theorem CheckI.alloc {w : World} {l : List Value} {wr : World} (h : CheckI w l wr) (o : Obj) : CheckI w l (wr.alloc o) := Below.alloc h (by have := h.size; omega) o
theorem CheckI.next {w : World} {l : List Value} {wr w1 : World} (h : CheckI w l wr) (hb : Below wr.heap.size wr w1) : CheckI w l w1 := Below.trans h (hb.mono (by have := h.size; omega))

set_option maxHeartbeats 2000000 in
theorem check_ok (v : Value) (L : Line) (w : World) (hL : L.ok) (hv : LineAt w w.heap.size v L) :
    Calls Tryd.prog 7 #[v] w fun e w' => e = .returned (.int .i64 0) ∧ Below w.heap.size w w' := by
  obtain ⟨vh, vs, rfl, hh, hq⟩ := hv
  obtain ⟨A, c, rfl, hA⟩ := hh
  obtain ⟨AQ, cQ, rfl, hQ⟩ := hq
  obtain ⟨y1, y2, y3, y4, y5, y6, y7, y8, y9⟩ := hL
  obtain ⟨n, hn⟩ : ∃ n, n = L.hands.length := ⟨_, rfl⟩
  obtain ⟨m, hm⟩ : ∃ m, m = L.squares.length := ⟨_, rfl⟩
  rw [← hn] at hA y1 y2 ⊢
  rw [← hm] at hQ y7 y8 ⊢
  have HN := Lib.hid hn
  have HM := Lib.hid hm
  have H3 := Lib.hid y3
  have H9 := Lib.hid y9
  clear hn hm y3 y9
  go_enter Tryd.func7, Tryd.ntmps7
  go_wp2_with (go_at_call 18; refine (count_in _ _ _ (by omega) (by omega) _).mono ?_; rintro e w' ⟨rfl, rfl⟩)
  go_loopw [21] (fun i wr => ∃ k : Nat, k ≤ n ∧ i = .int .i64 k ∧ CheckI w [.slice A n c, .int .i64 L.worn, .int .i64 L.scr, .int .i64 L.total, .slice AQ m cQ] wr) (fun i _ => n - (intOf i).toNat)
  case atStart => exact ⟨0, by omega, rfl, Below.refl _ _⟩
  case round =>
    obtain ⟨k, hk, rfl, hI⟩ := hrel
    by_cases hlt : k < n
    · obtain ⟨b, o, rfl, hB, hc⟩ := hA (by omega)
      have hkq : k < L.hands.length := by rw [← HN.out]; exact hlt
      obtain ⟨h, hh⟩ : ∃ h, L.hands[k]? = some h := ⟨_, List.getElem?_eq_getElem hkq⟩
      obtain ⟨d1, d2, sv, d3, hsv⟩ := hc k h hh
      have hb0 := hI.below
      have d1 := bcell hb0 hB d1
      have d2 := bcell hb0 hB d2
      have d3 := bcell hb0 hB d3
      have HSV := Lib.hid hsv
      obtain ⟨As, cs, rfl, -⟩ := hsv
      have HO := Lib.hid (H3.out h (List.mem_of_getElem? hh))
      have HI := Lib.hid hI
      clear hc hA hh hI hb0
      go_wp2_with (go_at_call 19; refine (checkHand_ok _ h _ HO.out _ rfl (HSV.out.keep (Same.of_below (HI.out.alloc _).below) (HI.out.alloc _).below.size)).mono ?_; rintro e w1 ⟨rfl, hb1⟩)
      go_roundw
      case rel => exact ⟨k + 1, by omega, by go_num, (HI.out.alloc _).next hb1⟩
      case measure => simp [intOf]; omega
    · obtain rfl : k = n := by omega
      have l1 : wr.cell? ⟨w.heap.size, 1, none⟩ = some (.int .i64 L.worn) := hI.blok.cell 1
      have l2 : wr.cell? ⟨w.heap.size, 2, none⟩ = some (.int .i64 L.scr) := hI.blok.cell 2
      have l3 : wr.cell? ⟨w.heap.size, 3, none⟩ = some (.int .i64 L.total) := hI.blok.cell 3
      have l4 : wr.cell? ⟨w.heap.size, 4, none⟩ = some (.slice AQ m cQ) := hI.blok.cell 4
      have HI := Lib.hid hI
      clear hI
      go_wp2_with (first
        | (go_at_call 20; refine (outside_in _ _ _ (by omega) (by omega) _).mono ?_; rintro e w' ⟨rfl, rfl⟩)
        | (go_at_call 18; refine (count_in _ _ _ (by omega) (by omega) _).mono ?_; rintro e w' ⟨rfl, rfl⟩))
      go_loopw [54] (fun i wx => ∃ j : Nat, j ≤ m ∧ i = .int .i64 j ∧ CheckI w [.slice A k c, .int .i64 L.worn, .int .i64 L.scr, .int .i64 L.total, .slice AQ m cQ] wx) (fun i _ => m - (intOf i).toNat)
      case atStart => exact ⟨0, by omega, rfl, HI.out⟩
      case round =>
        clear l1 l2 l3 l4
        obtain ⟨j, hj, rfl, hI⟩ := hrel
        by_cases hjm : j < m
        · obtain ⟨b, o, rfl, hB, hc⟩ := hQ (by omega)
          have hjq : j < L.squares.length := by rw [← HM.out]; exact hjm
          obtain ⟨q, hq⟩ : ∃ q, L.squares[j]? = some q := ⟨_, List.getElem?_eq_getElem hjq⟩
          obtain ⟨lv, d1, hlv⟩ := hc j q hq
          have d1 := bcell hI.below hB d1
          have HO := Lib.hid (H9.out q (List.mem_of_getElem? hq))
          have HLV := Lib.hid (hlv.keep (Same.of_below hI.below) hI.below.size)
          have HJ := Lib.hid hI
          clear hc hQ hq hI hlv
          go_wp2_with (go_at_call 21; refine (checkSquare_ok _ q _ HO.out.1 HO.out.2 HLV.out).mono ?_; rintro e w1 ⟨rfl, hb1⟩)
          go_roundw
          case rel => exact ⟨j + 1, by omega, by go_num, HJ.out.next hb1⟩
          case measure => simp [intOf]; omega
        · obtain rfl : j = m := by omega
          go_wp2
          go_ret
          exact ⟨rfl, hI.below⟩
end Go.Proofs.YtcemefojpaicoaaDoor
