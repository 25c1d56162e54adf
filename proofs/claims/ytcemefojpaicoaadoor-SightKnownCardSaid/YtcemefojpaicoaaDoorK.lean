/- The chapter's line, as the statements make it. -/
import Derived.Test.YtcemefojpaicoaaDoorC
namespace Go.Proofs.YtcemefojpaicoaaDoor
open Go.RowKit

def sA : List Shape := [⟨65, 7⟩, ⟨76, 3⟩, ⟨84, 12⟩]
def sB : List Shape := [⟨65, 15⟩, ⟨76, 3⟩, ⟨84, 12⟩]
/-- The chapter's line L. -/
def lineL (q0 q1 q2 : List Light) : Line := { hands := [⟨-400, -300, sA⟩, ⟨-320, -200, sB⟩], worn := 1, scr := 0, total := 1, squares := [q0, q1, q2] }

def shapeCells (s : List Shape) : List Value := s.flatMap fun x => [.int .u8 x.letter, .int .i64 x.strokes]
theorem shapes_ex {w : World} {g : Nat} {t : TypeId} (B : Nat) (hg : g < B) (a b c a' b' c' : Nat) (h : Blok w g t [.int .u8 a, .int .i64 a', .int .u8 b, .int .i64 b', .int .u8 c, .int .i64 c']) (n cp : Nat) (hn : n = 3) :
    Shapes w B (.slice (some ⟨g, 0, none⟩) n cp) [⟨a, a'⟩, ⟨b, b'⟩, ⟨c, c'⟩] := by
  subst hn
  refine ⟨_, _, rfl, fun _ => ⟨g, 0, rfl, hg, fun k x hx => ?_⟩⟩
  rcases k with _ | _ | _ | k
  · obtain rfl : (⟨a, a'⟩ : Shape) = x := by simpa using hx
    exact ⟨by rw [h.cell]; rfl, by rw [h.cell]; rfl⟩
  · obtain rfl : (⟨b, b'⟩ : Shape) = x := by simpa using hx
    exact ⟨by rw [h.cell]; rfl, by rw [h.cell]; rfl⟩
  · obtain rfl : (⟨c, c'⟩ : Shape) = x := by simpa using hx
    exact ⟨by rw [h.cell]; rfl, by rw [h.cell]; rfl⟩
  · simp at hx

def cellsA : List Value := [.int .u8 65, .int .i64 7, .int .u8 76, .int .i64 3, .int .u8 84, .int .i64 12]
def cellsB : List Value := [.int .u8 65, .int .i64 15, .int .u8 76, .int .i64 3, .int .u8 84, .int .i64 12]
def cellsH (g : Nat) : List Value := [.int .i64 (-400), .int .i64 (-300), .slice (some ⟨g, 0, none⟩) 3 3, .int .i64 (-320), .int .i64 (-200), .slice (some ⟨g + 1, 0, none⟩) 3 3]
/-- The world with the chapter's hands. -/
def handsW (w : World) : World := ((w.alloc (.cells cellsA.toArray 31)).alloc (.cells cellsB.toArray 31)).alloc (.cells (cellsH w.heap.size).toArray 36)
theorem handsW_size (w : World) : (handsW w).heap.size = w.heap.size + 1 + 1 + 1 := by simp [handsW]
theorem handsW_below (w : World) : Below w.heap.size w (handsW w) := (((Below.refl _ _).alloc (Nat.le_refl _) _).alloc (by simp) _).alloc (by simp; omega) _
theorem handsW_blok (w : World) : Blok (handsW w) w.heap.size 31 cellsA ∧ Blok (handsW w) (w.heap.size + 1) 31 cellsB ∧ Blok (handsW w) (w.heap.size + 1 + 1) 36 (cellsH w.heap.size) := three w cellsA cellsB (cellsH w.heap.size) 31 31 36

set_option maxRecDepth 100000 in
set_option maxHeartbeats 1000000 in
theorem hands_ex (w : World) : Calls Tryd.prog 15 #[] w fun e w' => e = .returned (.slice (some ⟨w.heap.size + 1 + 1, 0, none⟩) 2 2) ∧ w' = handsW w := by
  go_enter Tryd.func15, Tryd.ntmps15
  go_wp2
  go_ret
  exact ⟨rfl, rfl⟩
theorem hands_mem {w : World} {g B : Nat} (h : Blok w g 31 cellsA ∧ Blok w (g + 1) 31 cellsB ∧ Blok w (g + 1 + 1) 36 (cellsH g)) (hB : g + 1 + 1 < B) : Hands w B (.slice (some ⟨g + 1 + 1, 0, none⟩) 2 2) (lineL [] [] []).hands := by
  obtain ⟨t1, t2, t3⟩ := h
  refine ⟨_, _, rfl, fun _ => ⟨g + 1 + 1, 0, rfl, hB, fun k x hx => ?_⟩⟩
  rcases k with _ | _ | k
  · obtain rfl : (⟨-400, -300, sA⟩ : Hand) = x := by simpa [lineL] using hx
    exact ⟨by rw [t3.cell]; rfl, by rw [t3.cell]; rfl, _, by rw [t3.cell]; rfl, shapes_ex _ (by omega) _ _ _ _ _ _ t1 _ _ rfl⟩
  · obtain rfl : (⟨-320, -200, sB⟩ : Hand) = x := by simpa [lineL] using hx
    exact ⟨by rw [t3.cell]; rfl, by rw [t3.cell]; rfl, _, by rw [t3.cell]; rfl, shapes_ex _ (by omega) _ _ _ _ _ _ t2 _ _ rfl⟩
  · simp [lineL] at hx

/-- The chapter's line in memory: the line's own box is block b0; its parts lie behind. -/
def cellsL (g : Nat) : List Value := [.slice (some ⟨g + 1 + 1, 0, none⟩) 2 2, .int .i64 1, .int .i64 0, .int .i64 1, .slice (some ⟨g + 6, 0, none⟩) 3 3]
def cellsQ (g : Nat) : List Value := [.slice (some ⟨g + 3, 0, none⟩) 1 1, .slice (some ⟨g + 4, 0, none⟩) 1 1, .slice (some ⟨g + 5, 0, none⟩) 1 1]
structure LineMem (w : World) (g : Nat) : Prop where
  hands : Blok w g 31 cellsA ∧ Blok w (g + 1) 31 cellsB ∧ Blok w (g + 1 + 1) 36 (cellsH g)
  q0 : Blok w (g + 3) 29 [.int .i64 15, .int .i64 7]
  q1 : Blok w (g + 4) 29 [.int .i64 15, .int .i64 3]
  q2 : Blok w (g + 5) 29 [.int .i64 3, .int .i64 0]
  qs : Blok w (g + 6) 53 (cellsQ g)

set_option maxRecDepth 100000 in
set_option maxHeartbeats 1000000 in
theorem line_mem (w : World) : Calls Tryd.prog 4 #[] w fun e w' => e = .returned (.agg (cellsL (w.heap.size + 1)).toArray) ∧ LineMem w' (w.heap.size + 1) ∧ Below w.heap.size w w' ∧ w'.heap.size = w.heap.size + 8 := by
  go_enter Tryd.func4, Tryd.ntmps4
  go_wp2_with fail
  refine (hands_ex _).mono ?_
  rintro e w1 ⟨rfl, hw1⟩
  have hbl : Blok w1 w.heap.size 25 [.slice none 0 0, .int .i64 0, .int .i64 0, .int .i64 0, .slice none 0 0] := by
    rw [hw1]; exact (Blok.new w 25 _).below (handsW_below _) (by simp)
  have hmem := handsW_blok (w.alloc (.cells #[.slice none 0 0, .int .i64 0, .int .i64 0, .int .i64 0, .slice none 0 0] 25))
  have hb := handsW_below (w.alloc (.cells #[.slice none 0 0, .int .i64 0, .int .i64 0, .int .i64 0, .slice none 0 0] 25))
  have hsz := handsW_size (w.alloc (.cells #[.slice none 0 0, .int .i64 0, .int .i64 0, .int .i64 0, .slice none 0 0] 25))
  have hw1' : handsW (w.alloc (.cells #[.slice none 0 0, .int .i64 0, .int .i64 0, .int .i64 0, .slice none 0 0] 25)) = w1 := hw1.symm
  rw [hw1'] at hmem hb hsz
  simp only [World.size_alloc] at hmem hb hsz
  clear hw1 hw1'
  have c0 : w1.cell? ⟨w.heap.size, 0, none⟩ = some (.slice none 0 0) := hbl.cell 0
  have c1 : w1.cell? ⟨w.heap.size, 1, none⟩ = some (.int .i64 0) := hbl.cell 1
  have c2 : w1.cell? ⟨w.heap.size, 2, none⟩ = some (.int .i64 0) := hbl.cell 2
  have c3 : w1.cell? ⟨w.heap.size, 3, none⟩ = some (.int .i64 0) := hbl.cell 3
  have c4 : w1.cell? ⟨w.heap.size, 4, none⟩ = some (.slice none 0 0) := hbl.cell 4
  have f0 := hbl.free 0
  have f1 := hbl.free 1
  have f2 := hbl.free 2
  have f3 := hbl.free 3
  have f4 := hbl.free 4
  have HB := Lib.hid hb
  have HBL := Lib.hid hbl
  have HMEM := Lib.hid hmem
  have HSZ := Lib.hid hsz
  have z := hbl.size
  have z1 : w.heap.size < w1.heap.size + 1 := by omega
  have z2 : w.heap.size < w1.heap.size + 1 + 1 := by omega
  have z3 : w.heap.size < w1.heap.size + 1 + 1 + 1 := by omega
  clear hb hbl hmem hsz
  go_wp2
  clear c0 c1 c2 c3 c4 f0 f1 f2 f3 f4 z1 z2 z3
  obtain ⟨WS, hWS⟩ : ∃ WS, WS = ((((w1.setCell ⟨w.heap.size, 0, none⟩ (.slice (some ⟨w.heap.size + 1 + 1 + 1, 0, none⟩) 2 2)).setCell ⟨w.heap.size, 1, none⟩ (.int .i64 1)).setCell ⟨w.heap.size, 2, none⟩ (.int .i64 0)).setCell ⟨w.heap.size, 3, none⟩ (.int .i64 1)).setCell ⟨w.heap.size, 4, none⟩ (.slice (some ⟨w1.heap.size + 1 + 1 + 1, 0, none⟩) 3 3) := ⟨_, rfl⟩
  rw [← hWS]
  have e1 : w1.heap.size = w.heap.size + 4 := by rw [HSZ.out]
  have hS : WS.heap.size = w.heap.size + 4 := by rw [hWS]; simp [World.setCell]; exact e1
  have hfar : ∀ {g : Nat} {t : TypeId} {cs : List Value}, g ≠ w.heap.size → Blok w1 g t cs → Blok WS g t cs := fun h hb => by rw [hWS]; exact ((((hb.far h _).far h _).far h _).far h _).far h _
  have hown : Blok WS w.heap.size 25 (cellsL (w.heap.size + 1)) := by
    have := ((((HBL.out.put 0 (.slice (some ⟨w.heap.size + 1 + 1 + 1, 0, none⟩) 2 2)).put 1 (.int .i64 1)).put 2 (.int .i64 0)).put 3 (.int .i64 1)).put 4 (.slice (some ⟨w1.heap.size + 1 + 1 + 1, 0, none⟩) 3 3)
    rw [← hWS, e1] at this
    exact this
  have hbS : Below w.heap.size w WS := by
    rw [hWS]
    exact ((((((((Below.refl _ w).alloc (Nat.le_refl _) _).trans (HB.out.mono (Nat.le_succ _))).setCell (Nat.le_refl _) _).setCell (Nat.le_refl _) _).setCell (Nat.le_refl _) _).setCell (Nat.le_refl _) _).setCell (Nat.le_refl _) _)
  clear hWS
  rw [e1]
  have q0 := (((Blok.new WS 29 [.int .i64 15, .int .i64 7]).alloc (.cells #[.int .i64 15, .int .i64 3] 29)).alloc (.cells #[.int .i64 3, .int .i64 0] 29)).alloc (.cells (cellsQ (w.heap.size + 1)).toArray 53)
  have q1 := ((Blok.new (WS.alloc (.cells #[.int .i64 15, .int .i64 7] 29)) 29 [.int .i64 15, .int .i64 3]).alloc (.cells #[.int .i64 3, .int .i64 0] 29)).alloc (.cells (cellsQ (w.heap.size + 1)).toArray 53)
  have q2 := (Blok.new ((WS.alloc (.cells #[.int .i64 15, .int .i64 7] 29)).alloc (.cells #[.int .i64 15, .int .i64 3] 29)) 29 [.int .i64 3, .int .i64 0]).alloc (.cells (cellsQ (w.heap.size + 1)).toArray 53)
  have qs := Blok.new (((WS.alloc (.cells #[.int .i64 15, .int .i64 7] 29)).alloc (.cells #[.int .i64 15, .int .i64 3] 29)).alloc (.cells #[.int .i64 3, .int .i64 0] 29)) 53 (cellsQ (w.heap.size + 1))
  simp only [World.size_alloc, hS] at q0 q1 q2 qs
  refine bodyPost_ret (v := .agg (cellsL (w.heap.size + 1)).toArray) ?_ ?_ ?_
  · exact results_cell_row Tryd.results4 _ _ w.heap.size 25 _ (0, 0) _ rfl ((((hown.alloc _).alloc _).alloc _).alloc _) Tryd.underlying25 rfl (by kernel_rfl)
  · rfl
  · obtain ⟨t1, t2, t3⟩ := HMEM.out
    exact ⟨rfl, ⟨⟨((((hfar (by omega) t1).alloc _).alloc _).alloc _).alloc _, ((((hfar (by omega) t2).alloc _).alloc _).alloc _).alloc _, ((((hfar (by omega) t3).alloc _).alloc _).alloc _).alloc _⟩, q0, q1, q2, qs⟩,
      (((hbS.alloc (by omega) _).alloc (by simp; omega) _).alloc (by simp; omega) _).alloc (by simp; omega) _, by simp [hS]⟩
theorem lights_one {w : World} {B g : Nat} (hg : g < B) (a b : Nat) (h : Blok w g 29 [.int .i64 a, .int .i64 b]) (n c : Nat) (hn : n = 1) : Lights w B (.slice (some ⟨g, 0, none⟩) n c) [⟨a, b⟩] := by
  subst hn
  refine ⟨_, _, rfl, fun _ => ⟨g, 0, rfl, hg, fun k x hx => ?_⟩⟩
  rcases k with _ | k
  · obtain rfl : (⟨a, b⟩ : Light) = x := by simpa using hx
    exact ⟨by rw [h.cell]; rfl, by rw [h.cell]; rfl⟩
  · simp at hx
theorem LineMem.at_ {w : World} {g B : Nat} (h : LineMem w g) (hB : g + 6 < B) : LineAt w B (.agg (cellsL g).toArray) (lineL [⟨15, 7⟩] [⟨15, 3⟩] [⟨3, 0⟩]) := by
  refine ⟨_, _, rfl, hands_mem h.hands (by omega), _, _, rfl, fun _ => ⟨g + 6, 0, rfl, hB, fun k x hx => ?_⟩⟩
  rcases k with _ | _ | _ | k
  · obtain rfl : ([⟨15, 7⟩] : List Light) = x := by simpa [lineL] using hx
    exact ⟨_, by rw [h.qs.cell]; rfl, lights_one (by omega) 15 7 h.q0 _ _ rfl⟩
  · obtain rfl : ([⟨15, 3⟩] : List Light) = x := by simpa [lineL] using hx
    exact ⟨_, by rw [h.qs.cell]; rfl, lights_one (by omega) 15 3 h.q1 _ _ rfl⟩
  · obtain rfl : ([⟨3, 0⟩] : List Light) = x := by simpa [lineL] using hx
    exact ⟨_, by rw [h.qs.cell]; rfl, lights_one (by omega) 3 0 h.q2 _ _ rfl⟩
  · simp [lineL] at hx
end Go.Proofs.YtcemefojpaicoaaDoor
