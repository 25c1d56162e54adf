/- What the functions answer for the lines of SightKnown. -/
import Derived.Test.YtcemefojpaicoaaDoorKm
namespace Go.Proofs.YtcemefojpaicoaaDoor
open Go.RowKit Go.Shelf

theorem swap_drew (W : World) (c : Nat) : swapW W c = ((((W.drew.setCell ⟨c, 2, none⟩ (.int .u8 84)).setCell ⟨c, 3, none⟩ (.int .i64 12)).setCell ⟨c, 4, none⟩ (.int .u8 76)).setCell ⟨c, 5, none⟩ (.int .i64 3)) := rfl
def IntsRes (l : List Nat) (w : World) (e : Ending) (w' : World) : Prop := ∃ A c, e = .returned (.tuple #[.slice A l.length c, .int .i64 0]) ∧ Ints w' w'.heap.size (.slice A l.length c) l ∧ Below w.heap.size w w'
theorem hands_ok {v : Value} {L : Line} {w : World} (hL : L.ok) (hv : LineAt w w.heap.size v L) {l : List Nat} (hl : handsOf L = l) (h0 : l ≠ []) : Calls Tryd.prog 8 #[v] w (IntsRes l w) := by
  refine (hands_any v L w hL hv).mono ?_
  rintro e w' ⟨hb, h⟩
  rw [hl] at h
  rcases h with ⟨h, -⟩ | ⟨-, u, rfl, hi, -⟩
  · exact absurd h h0
  · obtain ⟨A, c, rfl, hA⟩ := hi
    exact ⟨A, c, rfl, ⟨A, c, rfl, hA⟩, hb⟩
theorem hands_clash {v : Value} {L : Line} {w : World} (hL : L.ok) (hv : LineAt w w.heap.size v L) (hl : handsOf L = []) : Calls Tryd.prog 8 #[v] w fun e w' => e = .returned (.tuple #[.slice none 0 0, .int .i64 9]) ∧ Below w.heap.size w w' := by
  refine (hands_any v L w hL hv).mono ?_
  rintro e w' ⟨hb, h⟩
  rcases h with ⟨-, rfl⟩ | ⟨h, -⟩
  · exact ⟨rfl, hb⟩
  · exact absurd hl h
theorem years_ok {v : Value} {L : Line} {w : World} (hL : L.ok) (hv : LineAt w w.heap.size v L) {h0 : Nat} {hs : List Nat} (hh : handsOf L = h0 :: hs) {a b : Int} (hy : yearsOf L = (a, b)) :
    Calls Tryd.prog 9 #[v] w fun e w' => e = .returned (.tuple #[.agg #[.int .i64 a, .int .i64 b], .int .i64 0]) ∧ Below w.heap.size w w' := by
  have h := years_any v L w hL hv h0 hs hh
  unfold YearsPost at h
  rw [hy] at h
  exact h
theorem marks_ok {v : Value} {L : Line} {w : World} (hL : L.ok) (hv : LineAt w w.heap.size v L) (hm : marksOf L = 0) : Calls Tryd.prog 12 #[v] w fun e w' => e = .returned (.tuple #[.int .i64 0, .int .i64 0]) ∧ Below w.heap.size w w' := by
  refine (marks_any v L w hL hv).mono ?_
  rintro e w' ⟨hb, h⟩
  rw [hm] at h
  rcases h with ⟨h, -⟩ | ⟨-, rfl⟩
  · cases h
  · exact ⟨rfl, hb⟩
theorem look_ok {v : Value} {w : World} (hv : LineAt w w.heap.size v lineC) : Calls Tryd.prog 13 #[v] w fun e w' => e = .returned (.tuple #[.int .i64 1, .int .i64 2, .int .i64 0]) ∧ Below w.heap.size w w' := by
  refine (look_some v lineC w lineC_ok hv lineC_hands).mono ?_
  rintro e w' ⟨a, b, ⟨ha, hb⟩, rfl, hw⟩
  have h : lookAt (restL lineC) (lineC.squares.length - 1) = (1, 2) := lineC_look
  rw [h] at ha hb
  subst ha hb
  exact ⟨rfl, hw⟩
theorem print_ok {v : Value} {w : World} (hv : LineAt w w.heap.size v lineS) : Calls Tryd.prog 10 #[v] w fun e w' => e = .returned (.tuple #[.string ⟨#[65, 76, 84]⟩, .int .i64 0]) ∧ Below w.heap.size w w' := by
  refine (print_any Unit v lineS w lineS_ok hv (by rw [lineS_handsOf]; simp)).mono ?_
  rintro e w' ⟨rfl, hb⟩
  have h : printTo (lettersOf lineS) = ⟨#[65, 76, 84]⟩ := by decide +kernel
  rw [h]
  exact ⟨rfl, hb⟩
theorem lights_two {w : World} {B g : Nat} (hg : g < B) (a b c d : Nat) (h : Blok w g 29 [.int .i64 a, .int .i64 b, .int .i64 c, .int .i64 d]) (n cp : Nat) (hn : n = 2) : Lights w B (.slice (some ⟨g, 0, none⟩) n cp) [⟨a, b⟩, ⟨c, d⟩] := by
  subst hn
  refine ⟨_, _, rfl, fun _ => ⟨g, 0, rfl, hg, fun k x hx => ?_⟩⟩
  rcases k with _ | _ | k
  · obtain rfl : (⟨a, b⟩ : Light) = x := by simpa using hx
    exact ⟨by rw [h.cell]; rfl, by rw [h.cell]; rfl⟩
  · obtain rfl : (⟨c, d⟩ : Light) = x := by simpa using hx
    exact ⟨by rw [h.cell]; rfl, by rw [h.cell]; rfl⟩
  · simp at hx
theorem SeenG.at2 {w : World} {g gl B c : Nat} (h : SeenG w g 2 (.slice (some ⟨gl, 0, none⟩) 1 c)) (a b : Nat) (hl : Blok w gl 29 [.int .i64 a, .int .i64 b]) (hB : g + 6 < B) (hgl : gl < B) : LineAt w B (.agg (cellsL g).toArray) (lineL [⟨15, 7⟩] [⟨15, 3⟩] [⟨a, b⟩]) := by
  refine ⟨_, _, rfl, hands_mem h.hands (by omega), _, _, rfl, fun _ => ⟨g + 6, 0, rfl, hB, fun k x hx => ?_⟩⟩
  rcases k with _ | _ | _ | k
  · obtain rfl : ([⟨15, 7⟩] : List Light) = x := by simpa [lineL] using hx
    exact ⟨_, by rw [h.qs.cell]; rfl, lights_one (by omega) 15 7 h.q0 _ _ rfl⟩
  · obtain rfl : ([⟨15, 3⟩] : List Light) = x := by simpa [lineL] using hx
    exact ⟨_, by rw [h.qs.cell]; rfl, lights_one (by omega) 15 3 h.q1 _ _ rfl⟩
  · obtain rfl : ([⟨a, b⟩] : List Light) = x := by simpa [lineL] using hx
    exact ⟨_, by rw [h.qs.cell]; rfl, lights_one hgl a b hl _ _ rfl⟩
  · simp [lineL] at hx
theorem SeenG.at0 {w : World} {g gl B c : Nat} (h : SeenG w g 0 (.slice (some ⟨gl, 0, none⟩) 2 c)) (hl : Blok w gl 29 [.int .i64 15, .int .i64 7, .int .i64 4, .int .i64 0]) (hB : g + 6 < B) (hgl : gl < B) : LineAt w B (.agg (cellsL g).toArray) lineM4 := by
  refine ⟨_, _, rfl, hands_mem h.hands (by omega), _, _, rfl, fun _ => ⟨g + 6, 0, rfl, hB, fun k x hx => ?_⟩⟩
  rcases k with _ | _ | _ | k
  · obtain rfl : ([⟨15, 7⟩, ⟨4, 0⟩] : List Light) = x := by simpa [lineM4, lineL] using hx
    exact ⟨_, by rw [h.qs.cell]; rfl, lights_two hgl 15 7 4 0 hl _ _ rfl⟩
  · obtain rfl : ([⟨15, 3⟩] : List Light) = x := by simpa [lineM4, lineL] using hx
    exact ⟨_, by rw [h.qs.cell]; rfl, lights_one (by omega) 15 3 h.q1 _ _ rfl⟩
  · obtain rfl : ([⟨3, 0⟩] : List Light) = x := by simpa [lineM4, lineL] using hx
    exact ⟨_, by rw [h.qs.cell]; rfl, lights_one (by omega) 3 0 h.q2 _ _ rfl⟩
  · simp [lineM4, lineL] at hx
/-- seen, of two of its lights more: one light in the third square. -/
theorem seen_two (w : World) (a b : Nat) (hl : Blok w (w.heap.size - 1) 29 [.int .i64 a, .int .i64 b]) (h1 : 1 ≤ w.heap.size) :
    Calls Tryd.prog 5 #[.int .i64 2, .slice (some ⟨w.heap.size - 1, 0, none⟩) 1 1] w fun e w' => ∃ g, e = .returned (.agg (cellsL g).toArray) ∧ LineAt w' w'.heap.size (.agg (cellsL g).toArray) (lineL [⟨15, 7⟩] [⟨15, 3⟩] [⟨a, b⟩]) ∧ Below w.heap.size w w' := by
  refine (seen_gen w 2 (by omega) (some ⟨w.heap.size - 1, 0, none⟩) 1 1).mono ?_
  rintro e w' ⟨g, rfl, hs, hb, hg, hz⟩
  exact ⟨g, rfl, hs.at2 a b (hl.below hb (by omega)) (by omega) (by have := hb.size; omega), hb⟩
theorem seen_nought (w : World) (hl : Blok w (w.heap.size - 1) 29 [.int .i64 15, .int .i64 7, .int .i64 4, .int .i64 0]) (h1 : 1 ≤ w.heap.size) :
    Calls Tryd.prog 5 #[.int .i64 0, .slice (some ⟨w.heap.size - 1, 0, none⟩) 2 2] w fun e w' => ∃ g, e = .returned (.agg (cellsL g).toArray) ∧ LineAt w' w'.heap.size (.agg (cellsL g).toArray) lineM4 ∧ Below w.heap.size w w' := by
  refine (seen_gen w 0 (by omega) (some ⟨w.heap.size - 1, 0, none⟩) 2 2).mono ?_
  rintro e w' ⟨g, rfl, hs, hb, hg, hz⟩
  exact ⟨g, rfl, hs.at0 (hl.below hb (by omega)) (by omega) (by have := hb.size; omega), hb⟩
/-- The same calls, as the walk meets them: the row of lights has just been laid. -/
theorem seen_laid2 (w : World) (a b : Nat) :
    Calls Tryd.prog 5 #[.int .i64 2, .slice (some ⟨w.heap.size, 0, none⟩) 1 1] (w.alloc (.cells #[.int .i64 a, .int .i64 b] 29)) fun e w' => ∃ g, e = .returned (.agg (cellsL g).toArray) ∧ LineAt w' w'.heap.size (.agg (cellsL g).toArray) (lineL [⟨15, 7⟩] [⟨15, 3⟩] [⟨a, b⟩]) ∧ Below w.heap.size w w' := by
  have h := seen_two (w.alloc (.cells #[.int .i64 a, .int .i64 b] 29)) a b (by simpa using Blok.new w 29 [.int .i64 a, .int .i64 b]) (by simp)
  simp only [World.size_alloc, Nat.add_sub_cancel] at h
  refine h.mono ?_
  rintro e w' ⟨g, he, hl, hb⟩
  exact ⟨g, he, hl, ((Below.refl _ w).alloc (Nat.le_refl _) _).trans (hb.mono (Nat.le_succ _))⟩
theorem seen_laid0 (w : World) :
    Calls Tryd.prog 5 #[.int .i64 0, .slice (some ⟨w.heap.size, 0, none⟩) 2 2] (w.alloc (.cells #[.int .i64 15, .int .i64 7, .int .i64 4, .int .i64 0] 29)) fun e w' => ∃ g, e = .returned (.agg (cellsL g).toArray) ∧ LineAt w' w'.heap.size (.agg (cellsL g).toArray) lineM4 ∧ Below w.heap.size w w' := by
  have h := seen_nought (w.alloc (.cells #[.int .i64 15, .int .i64 7, .int .i64 4, .int .i64 0] 29)) (by simpa using Blok.new w 29 [.int .i64 15, .int .i64 7, .int .i64 4, .int .i64 0]) (by simp)
  simp only [World.size_alloc, Nat.add_sub_cancel] at h
  refine h.mono ?_
  rintro e w' ⟨g, he, hl, hb⟩
  exact ⟨g, he, hl, ((Below.refl _ w).alloc (Nat.le_refl _) _).trans (hb.mono (Nat.le_succ _))⟩
theorem line_laid (w : World) : Calls Tryd.prog 4 #[] w fun e w' => ∃ g, e = .returned (.agg (cellsL g).toArray) ∧ LineAt w' w'.heap.size (.agg (cellsL g).toArray) lineC ∧ Below w.heap.size w w' := by
  refine (line_mem w).mono ?_
  rintro e w' ⟨rfl, hm, hb, hz⟩
  exact ⟨_, rfl, hm.at_ (by omega), hb⟩
theorem ints_keep {w w' : World} {v : Value} {l : List Nat} (h : Ints w w.heap.size v l) (hb : Below w.heap.size w w') : Ints w' w'.heap.size v l :=
  Sl.mono h hb.size fun _ _ hlt hr k x hx => (hb.cell (p := ⟨_, _, none⟩) hlt).trans (hr k x hx)
theorem line_keep {w w' : World} {v : Value} {L : Line} (h : LineAt w w.heap.size v L) (hb : Below w.heap.size w w') : LineAt w' w'.heap.size v L := h.keep (Same.of_below hb) hb.size
theorem same_lit (l : List Nat) (hl : l.length ≤ 100) {A : Option Addr} {c : Nat} {w : World} (h : Ints w w.heap.size (.slice A l.length c) l) :
    Calls Tryd.prog 11 #[.slice A l.length c, .slice (some ⟨w.heap.size, 0, none⟩) l.length l.length] (w.alloc (.cells (l.map fun (n : Nat) => Value.int .i64 n).toArray 3)) fun e w' => e = .returned (.bool true) ∧ Below w.heap.size w w' := by
  have hb := (Below.refl w.heap.size w).alloc (Nat.le_refl _) (.cells (l.map fun (n : Nat) => Value.int .i64 n).toArray 3)
  have hi := ints_lit (B := w.heap.size + 1) (Blok.new w 3 (l.map fun (n : Nat) => Value.int .i64 n)) (Nat.lt_succ_self _) l.length l.length rfl
  refine (sameInts_yes _ _ l _ _ _ hl (ints_keep h hb) hi).mono ?_
  rintro e w' ⟨rfl, hb'⟩
  exact ⟨rfl, hb.trans (hb'.mono (by simp))⟩
theorem same_lit2 {A : Option Addr} {c : Nat} {w : World} (h : Ints w w.heap.size (.slice A 2 c) [0, 1]) :
    Calls Tryd.prog 11 #[.slice A 2 c, .slice (some ⟨w.heap.size, 0, none⟩) 2 2] (w.alloc (.cells #[.int .i64 0, .int .i64 1] 3)) fun e w' => e = .returned (.bool true) ∧ Below w.heap.size w w' := same_lit [0, 1] (by decide) h
theorem same_lit1 {A : Option Addr} {c : Nat} {w : World} (h : Ints w w.heap.size (.slice A 1 c) [0]) :
    Calls Tryd.prog 11 #[.slice A 1 c, .slice (some ⟨w.heap.size, 0, none⟩) 1 1] (w.alloc (.cells #[.int .i64 0] 3)) fun e w' => e = .returned (.bool true) ∧ Below w.heap.size w w' := same_lit [0] (by decide) h
end Go.Proofs.YtcemefojpaicoaaDoor
