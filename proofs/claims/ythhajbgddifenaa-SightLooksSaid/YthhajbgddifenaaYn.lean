/- SightTrue, plain: the years of a hand that fits lie within Years; the letter that is there is among those that fit. · Years, of a line that no hand may have cut. -/
import Derived.Test.YthhajbgddifenaaRp
import Derived.Test.YthhajbgddifenaaSp
namespace Go.Proofs.Ythhajbgddifenaa
section
open Go.RowKit Go.Shelf

theorem lowTo_le (L : Line) : ∀ (hs : List Nat) (a : Int), lowTo L a hs ≤ a ∧ ∀ h ∈ hs, lowTo L a hs ≤ lowOf L h := by
  intro hs
  induction hs with
  | nil => intro a; exact ⟨Int.le_refl _, fun h hh => by cases hh⟩
  | cons x hs ih =>
    intro a
    obtain ⟨h1, h2⟩ := ih (min a (lowOf L x))
    have e : lowTo L a (x :: hs) = lowTo L (min a (lowOf L x)) hs := rfl
    rw [e]
    refine ⟨by omega, fun h hh => ?_⟩
    rcases List.mem_cons.1 hh with rfl | hh
    · omega
    · exact h2 h hh
theorem highTo_ge (L : Line) : ∀ (hs : List Nat) (a : Int), a ≤ highTo L a hs ∧ ∀ h ∈ hs, highOf L h ≤ highTo L a hs := by
  intro hs
  induction hs with
  | nil => intro a; exact ⟨Int.le_refl _, fun h hh => by cases hh⟩
  | cons x hs ih =>
    intro a
    obtain ⟨h1, h2⟩ := ih (max a (highOf L x))
    have e : highTo L a (x :: hs) = highTo L (max a (highOf L x)) hs := rfl
    rw [e]
    refine ⟨by omega, fun h hh => ?_⟩
    rcases List.mem_cons.1 hh with rfl | hh
    · omega
    · exact h2 h hh
theorem years_hand {L : Line} {h : Nat} (hm : h ∈ handsOf L) : (yearsOf L).1 ≤ lowOf L h ∧ highOf L h ≤ (yearsOf L).2 := by
  unfold yearsOf
  cases hl : handsOf L with
  | nil => rw [hl] at hm; cases hm
  | cons x hs =>
    rw [hl] at hm
    obtain ⟨a1, a2⟩ := lowTo_le L hs (lowOf L x)
    obtain ⟨b1, b2⟩ := highTo_ge L hs (highOf L x)
    rcases List.mem_cons.1 hm with rfl | hm
    · exact ⟨a1, b1⟩
    · exact ⟨a2 h hm, b2 h hm⟩
theorem low_at {L : Line} {h : Nat} {H : Hand} (hH : L.hands[h]? = some H) : lowOf L h = H.low := by simp [lowOf, List.getD, hH]
theorem high_at {L : Line} {h : Nat} {H : Hand} (hH : L.hands[h]? = some H) : highOf L h = H.high := by simp [highOf, List.getD, hH]
theorem fitting_marks {L : Line} (hL : L.ok) (h : handsOf L ≠ []) : marksOf L ≤ L.total := (enough L L.total hL.2.2.2.2.2.1).1 h
/-- The letter of a square, as a byte of the text of those that fit. -/
theorem true_byte {L : Line} (hL : L.ok) {hand : Nat} {ks vs : List Nat} (h : Truth L hand ks vs) (H : Hand) (hH : L.hands[hand]? = some H) (hm : marksTo H.shapes ks vs L.squares.length ≤ L.total) (i : Nat) (hi : i < L.squares.length)
    (lts : ByteArray) (hl : lts.data.toList = lettersAt H.shapes ks) : ∃ u : UInt8, lts.data.toList[i]? = some u ∧ u ∈ (orderText (allLetters L i)).data.toList := by
  have h1 : i < ks.length := by rw [h.len]; exact hi
  refine ⟨UInt8.ofNat (H.shapes.getD ks[i] ⟨0, 0⟩).letter, by rw [hl]; simp [lettersAt, h1], ?_⟩
  have e1 : ks.getD i 0 = ks[i] := by simp [List.getD, h1]
  have h2 := truth_letter h H hH hm i hi
  have h3 := (truth_need h H hH i hi).1
  rw [e1] at h2 h3
  refine mem_orderText.2 ⟨_, h2, ?_⟩
  have e2 : H.shapes.getD ks[i] ⟨0, 0⟩ = H.shapes[ks[i]] := by simp [List.getD, h3]
  rw [e2]
  have h4 := (hL.2.2.1 H (List.mem_of_getElem? hH)).2.2.2.2.2.1 _ (List.getElem_mem h3)
  rw [letF_lt _ (by have := h4.2.1; omega)]
theorem Ints.keep {w w' : World} {B B' : Nat} {v : Value} {l : List Nat} (h : Ints w B v l) (hs : Same B w w') (hB : B ≤ B') : Ints w' B' v l :=
  Sl.mono h hB fun b o hb hr k x hx => (hs b _ hb).trans (hr k x hx)
/-- Hands, of a line that may be. -/
theorem hands_list (v : Value) (L : Line) (w : World) (hL : L.ok) (hv : LineAt w w.heap.size v L) (h : handsOf L ≠ []) :
    Calls Try.prog 19 #[v] w fun e w' => ∃ u, e = .returned (.tuple #[u, .int .i64 0]) ∧ Ints w' w'.heap.size u (handsOf L) ∧ Below w.heap.size w w' :=
  (hands_any v L w hL hv).mono fun e w' hp => by
    rcases hp with ⟨hb, ⟨h', _⟩ | ⟨_, u, rfl, hi, _⟩⟩
    · exact absurd h' h
    · exact ⟨u, rfl, hi, hb⟩
/-- Marks, of a line that may be. -/
theorem marks_yes (v : Value) (L : Line) (w : World) (hL : L.ok) (hv : LineAt w w.heap.size v L) (h : handsOf L ≠ []) :
    Calls Try.prog 32 #[v] w fun e w' => ∃ m : Nat, e = .returned (.tuple #[.int .i64 m, .int .i64 0]) ∧ m = marksOf L ∧ m ≤ L.total ∧ Below w.heap.size w w' :=
  (marks_any v L w hL hv).mono fun e w' hp => by
    have hm := fitting_marks hL h
    have ht := hL.2.2.2.2.2.1
    rcases hp with ⟨hb, ⟨h', _⟩ | ⟨_, rfl⟩⟩
    · omega
    · exact ⟨_, rfl, rfl, hm, hb⟩
/-- Years, of a line that may be. -/
theorem years_yes (v : Value) (L : Line) (w : World) (hL : L.ok) (hv : LineAt w w.heap.size v L) (h : handsOf L ≠ []) :
    Calls Try.prog 23 #[v] w (YearsPost L w) := by
  cases hh : handsOf L with
  | nil => exact absurd hh h
  | cons h0 hs => exact years_any v L w hL hv h0 hs hh
/-- The line, the Cut and the urn of a law. -/
def TrueI (w : World) (lb g : Nat) (vh vs vv : Value) (L : Line) (hand : Nat) (lts : ByteArray) (wr : World) : Prop :=
  BoxI w lb vh vs L L.total wr ∧ Blok wr (lb + 1) 32 [.int .i64 hand, .string lts, vv] ∧ UrnAt wr g
theorem TrueI.size {w : World} {lb g : Nat} {vh vs vv : Value} {L : Line} {hand : Nat} {lts : ByteArray} {wr : World} (h : TrueI w lb g vh vs vv L hand lts wr) : lb + 1 < wr.heap.size := h.2.1.size
theorem TrueI.below {w : World} {lb g : Nat} {vh vs vv : Value} {L : Line} {hand : Nat} {lts : ByteArray} {wr w' : World} (h : TrueI w lb g vh vs vv L hand lts wr) (hb : Below wr.heap.size wr w') : TrueI w lb g vh vs vv L hand lts w' :=
  ⟨h.1.below h.1.2.2.2.size hb, h.2.1.below hb h.2.1.size, h.2.2.keep hb h.2.2.size⟩
theorem TrueI.alloc {w : World} {lb g : Nat} {vh vs vv : Value} {L : Line} {hand : Nat} {lts : ByteArray} {wr : World} (h : TrueI w lb g vh vs vv L hand lts wr) (o : Obj) : TrueI w lb g vh vs vv L hand lts (wr.alloc o) :=
  h.below ((Below.refl _ _).alloc (Nat.le_refl _) _)
theorem TrueI.kg {w : World} {lb g : Nat} {vh vs vv : Value} {L : Line} {hand : Nat} {lts : ByteArray} {wr w' : World} (h : TrueI w lb g vh vs vv L hand lts wr) (hk : Kg g wr w') (hu : UrnAt w' g) (hg : w.heap.size ≤ g) : TrueI w lb g vh vs vv L hand lts w' :=
  ⟨⟨h.1.1.kg hk (h.2.2.ne h.1.1 (by decide)), h.1.2.1.kg h.2.2 hk, h.1.2.2.1.kg h.2.2 hk, h.1.2.2.2.trans (hk.below h.1.2.2.2.size hg)⟩, h.2.1.kg hk (h.2.2.ne h.2.1 (by decide)), hu⟩
theorem TrueI.make {w w2 : World} {g : Nat} {vh vs vv : Value} {L : Line} {hand : Nat} {lts : ByteArray} (h1 : HandsB w2 vh L.hands) (h2 : SquaresB w2 vs L.squares) (hu : UrnAt w2 g) (hb : Below w.heap.size w w2) :
    TrueI w w2.heap.size g vh vs vv L hand lts ((w2.alloc (.cells #[vh, .int .i64 L.worn, .int .i64 L.scr, .int .i64 L.total, vs] 25)).alloc (.cells #[.int .i64 hand, .string lts, vv] 32)) := by
  have hz := hb.size
  have hbel := ((Below.refl w2.heap.size w2).alloc (Nat.le_refl _) (.cells #[vh, .int .i64 L.worn, .int .i64 L.scr, .int .i64 L.total, vs] 25)).alloc (by simp) (.cells #[.int .i64 hand, .string lts, vv] 32)
  have bl := (Blok.new w2 25 [vh, .int .i64 L.worn, .int .i64 L.scr, .int .i64 L.total, vs]).alloc (.cells #[.int .i64 hand, .string lts, vv] 32)
  have bc := Blok.new (w2.alloc (.cells #[vh, .int .i64 L.worn, .int .i64 L.scr, .int .i64 L.total, vs] 25)) 32 [.int .i64 hand, .string lts, vv]
  rw [World.size_alloc] at bc
  exact ⟨⟨bl, h1.below hbel, h2.below hbel, hb.trans (hbel.mono (by omega))⟩, bc, (hu.alloc _).alloc _⟩
theorem UrnAt.hands_ne {w : World} {g hb n hc : Nat} {hs : List Hand} (h : UrnAt w g) (hh : HandsB w (.slice (some ⟨hb, 0, none⟩) n hc) hs) : hb ≠ g := by
  obtain ⟨b, c, cur, svs, e, hbl, -⟩ := hh
  injection e with e1 e2 e3
  injection e1 with e1
  injection e1 with e1
  subst e1
  exact h.ne hbl (by decide)
theorem HandsB.lt {w : World} {hb n hc : Nat} {hs : List Hand} (hh : HandsB w (.slice (some ⟨hb, 0, none⟩) n hc) hs) : hb < w.heap.size := by
  obtain ⟨b, c, cur, svs, e, hbl, -⟩ := hh
  injection e with e1 e2 e3
  injection e1 with e1
  injection e1 with e1
  subst e1
  exact hbl.size
theorem hands_le (L : Line) (hL : L.ok) : (handsOf L).length ≤ 100 := by
  have h1 := fitsTo_len (cuttersOf L) L.squares.length L.total (cuttersOf L).length
  have h2 : (handsOf L).length ≤ (cuttersOf L).length := by unfold handsOf fits; simpa using h1
  have h3 : (cuttersOf L).length ≤ 4 := by simp [cuttersOf]; exact hL.2.1
  omega
end
section
open Go.RowKit Go.Shelf

set_option maxRecDepth 100000 in
set_option maxHeartbeats 2000000 in
theorem years_none (v : Value) (L : Line) (w : World) (hL : L.ok) (hv : LineAt w w.heap.size v L) (hh : handsOf L = []) :
    Calls Try.prog 23 #[v] w fun e w' => e = .returned (.tuple #[.agg #[.int .i64 0, .int .i64 0], .int .i64 9]) ∧ Below w.heap.size w w' := by
  have HL := Lib.hid hL
  have HV := Lib.hid hv
  have HH := Lib.hid hh
  obtain ⟨vh, vs, rfl, hha, hq⟩ := hv
  obtain ⟨A, c, rfl, hA⟩ := hha
  obtain ⟨AQ, cQ, rfl, -⟩ := hq
  clear hA hL hh
  go_enter Try.func23, Try.ntmps23
  go_wp2_with fail
  refine (hands_none _ L _ HL.out (HV.out.keep (Same.of_below (((Below.refl _ _).alloc (Nat.le_refl _) _).alloc (by simp) _)) (by simp; omega)) HH.out).mono ?_
  rintro e w1 ⟨rfl, hb1⟩
  have hby := Blok.new (w.alloc (.cells #[.slice A L.hands.length c, .int .i64 L.worn, .int .i64 L.scr, .int .i64 L.total, .slice AQ L.squares.length cQ] 25)) 48 [.int .i64 0, .int .i64 0]
  rw [World.size_alloc] at hby
  have hby1 := hby.below hb1 (by simp)
  have r0 : w1.cell? ⟨w.heap.size + 1, 0, none⟩ = some (.int .i64 0) := hby1.cell 0
  have r1 : w1.cell? ⟨w.heap.size + 1, 1, none⟩ = some (.int .i64 0) := hby1.cell 1
  have f0 := hby1.free 0
  have f1 := hby1.free 1
  have HB := Lib.hid ((((Below.refl w.heap.size w).alloc (Nat.le_refl _) (.cells #[.slice A L.hands.length c, .int .i64 L.worn, .int .i64 L.scr, .int .i64 L.total, .slice AQ L.squares.length cQ] 25)).alloc (by simp) (.cells #[.int .i64 0, .int .i64 0] 48)).trans (hb1.mono (by simp; omega)))
  have HBY := Lib.hid hby1
  clear hb1 hby hby1
  go_wp2
  refine bodyPost_ret (v := .tuple #[.agg #[.int .i64 0, .int .i64 0], .int .i64 9]) ?_ ?_ ?_
  · exact results_cell_tmp Try.results23 _ _ (w.heap.size + 1) 48 _ _ rfl ((HBY.out.put 0 (.int .i64 0)).put 1 (.int .i64 0)) Try.underlying48 rfl (by kernel_rfl)
  · rfl
  · exact ⟨rfl, (HB.out.setCell (p := ⟨w.heap.size + 1, 0, none⟩) (by simp) _).setCell (p := ⟨w.heap.size + 1, 1, none⟩) (by simp) _⟩
end
end Go.Proofs.Ythhajbgddifenaa
