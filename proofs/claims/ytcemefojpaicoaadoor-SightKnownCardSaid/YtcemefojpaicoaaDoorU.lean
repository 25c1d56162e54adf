/- The chapter's line: what the plain specification says of it. -/
import Derived.Test.YtcemefojpaicoaaDoorT
import Derived.Test.YtcemefojpaicoaaDoorK
namespace Go.Proofs.YtcemefojpaicoaaDoor
open Go.RowKit Go.Maps Go.Shelf

def lineC : Line := lineL [⟨15, 7⟩] [⟨15, 3⟩] [⟨3, 0⟩]
def lineC1 : Line := lineL [⟨15, 7⟩] [⟨15, 15⟩] [⟨3, 0⟩]
theorem lineC_letters : (lettersOf lineC).map (fun s => s.data.toList) = [[65], [65, 76], [84]] := by decide +kernel
theorem lineC_hands : handsOf lineC ≠ [] := by decide +kernel
theorem lineC1_marks : marksOf lineC1 = 1 := by decide +kernel
theorem lineC_print : (printTo (lettersOf lineC)).data.toList = [65, 123, 65, 76, 125, 84] := by decide +kernel
instance (x : Light) : Decidable x.ok := by unfold Light.ok; infer_instance
instance (x : Shape) : Decidable x.ok := by unfold Shape.ok; infer_instance
instance (x : Hand) : Decidable x.ok := by unfold Hand.ok; infer_instance
instance (x : Line) : Decidable x.ok := by unfold Line.ok; infer_instance
theorem lineC1_ok : lineC1.ok := by decide +kernel
theorem lineC_ok : lineC.ok := by decide +kernel

/-- The chapter's line with other lights in its second square. -/
structure SeenMem (w : World) (g gl : Nat) : Prop where
  hands : Blok w g 31 cellsA ∧ Blok w (g + 1) 31 cellsB ∧ Blok w (g + 1 + 1) 36 (cellsH g)
  q0 : Blok w (g + 3) 29 [.int .i64 15, .int .i64 7]
  q1 : Blok w gl 29 [.int .i64 15, .int .i64 15]
  q2 : Blok w (g + 5) 29 [.int .i64 3, .int .i64 0]
  qs : Blok w (g + 6) 53 [.slice (some ⟨g + 3, 0, none⟩) 1 1, .slice (some ⟨gl, 0, none⟩) 1 1, .slice (some ⟨g + 5, 0, none⟩) 1 1]

set_option maxRecDepth 100000 in
set_option maxHeartbeats 1000000 in
theorem seen_mem (w : World) (gl : Nat) (hgl : gl < w.heap.size) (hl : Blok w gl 29 [.int .i64 15, .int .i64 15]) :
    Calls Tryd.prog 5 #[.int .i64 1, .slice (some ⟨gl, 0, none⟩) 1 1] w fun e w' => ∃ g, e = .returned (.agg (cellsL g).toArray) ∧ SeenMem w' g gl ∧ Below w.heap.size w w' ∧ w.heap.size ≤ g ∧ g + 7 ≤ w'.heap.size := by
  go_enter Tryd.func5, Tryd.ntmps5
  go_wp2_with (first
    | (go_at_call 4; refine (line_mem _).mono ?_; rintro e w1 ⟨he, hm, hb, hz⟩; simp only [cellsL] at he; subst he; have HZ := Lib.hid hz; have HM := Lib.hid hm; have HB := Lib.hid hb; have hq := hm.qs; have cq := hq.cell 1; have fq := hq.free 1; have lq := hq.size; simp only [World.size_alloc] at cq fq lq; have lq1 := Nat.ne_of_lt lq; have h0 := (Blok.new w 25 [.slice none 0 0, .int .i64 0, .int .i64 0, .int .i64 0, .slice none 0 0]).below hb (by simp); have c0 := h0.cell 0; have c1 := h0.cell 1; have c2 := h0.cell 2; have c3 := h0.cell 3; have c4 := h0.cell 4; have f0 := h0.free 0; have f1 := h0.free 1; have f2 := h0.free 2; have f3 := h0.free 3; have f4 := h0.free 4; have l0 := h0.size; have l01 := Nat.ne_of_lt l0; simp at c0 c1 c2 c3 c4; have H0 := Lib.hid h0; clear hz hm hb hq h0))
  clear c0 c1 c2 c3 c4 f0 f1 f2 f3 f4 cq fq
  obtain ⟨WS, hWS⟩ : ∃ WS, WS = (((((w1.setCell ⟨w.heap.size + 1 + 1 + 6, 1, none⟩ (.slice (some ⟨gl, 0, none⟩) 1 1)).setCell ⟨w.heap.size, 0, none⟩ (.slice (some ⟨w.heap.size + 1 + 1 + 1 + 1, 0, none⟩) 2 2)).setCell ⟨w.heap.size, 1, none⟩ (.int .i64 1)).setCell ⟨w.heap.size, 2, none⟩ (.int .i64 0)).setCell ⟨w.heap.size, 3, none⟩ (.int .i64 1)).setCell ⟨w.heap.size, 4, none⟩ (.slice (some ⟨w.heap.size + 1 + 1 + 6, 0, none⟩) 3 3) := ⟨_, rfl⟩
  rw [← hWS]
  have e1 : w1.heap.size = w.heap.size + 1 + 8 := by have := HZ.out; simpa using this
  have hS : WS.heap.size = w1.heap.size := by rw [hWS]; simp [World.setCell]
  have hfar : ∀ {g : Nat} {t : TypeId} {cs : List Value}, g ≠ w.heap.size → g ≠ w.heap.size + 1 + 1 + 6 → Blok w1 g t cs → Blok WS g t cs := fun h h' hb => by rw [hWS]; exact (((((hb.far h' _).far h _).far h _).far h _).far h _).far h _
  have hown : Blok WS w.heap.size 25 (cellsL (w.heap.size + 1 + 1)) := by
    have := (((((H0.out.far (p := ⟨w.heap.size + 1 + 1 + 6, 1, none⟩) (show w.heap.size ≠ w.heap.size + 1 + 1 + 6 by omega) (.slice (some ⟨gl, 0, none⟩) 1 1)).put 0 (.slice (some ⟨w.heap.size + 1 + 1 + 1 + 1, 0, none⟩) 2 2)).put 1 (.int .i64 1)).put 2 (.int .i64 0)).put 3 (.int .i64 1)).put 4 (.slice (some ⟨w.heap.size + 1 + 1 + 6, 0, none⟩) 3 3)
    rw [← hWS] at this
    exact this
  have hsq : Blok WS (w.heap.size + 1 + 1 + 6) 53 [.slice (some ⟨w.heap.size + 1 + 1 + 3, 0, none⟩) 1 1, .slice (some ⟨gl, 0, none⟩) 1 1, .slice (some ⟨w.heap.size + 1 + 1 + 5, 0, none⟩) 1 1] := by
    have h1 := HM.out.qs
    simp only [World.size_alloc] at h1
    have hne : w.heap.size + 1 + 1 + 6 ≠ w.heap.size := by omega
    have := (((((h1.put 1 (.slice (some ⟨gl, 0, none⟩) 1 1)).far (p := ⟨w.heap.size, 0, none⟩) hne (.slice (some ⟨w.heap.size + 1 + 1 + 1 + 1, 0, none⟩) 2 2)).far (p := ⟨w.heap.size, 1, none⟩) hne (.int .i64 1)).far (p := ⟨w.heap.size, 2, none⟩) hne (.int .i64 0)).far (p := ⟨w.heap.size, 3, none⟩) hne (.int .i64 1)).far (p := ⟨w.heap.size, 4, none⟩) hne (.slice (some ⟨w.heap.size + 1 + 1 + 6, 0, none⟩) 3 3)
    rw [← hWS] at this
    exact this
  have hb1 : Below w.heap.size w w1 := ((Below.refl _ w).alloc (Nat.le_refl _) _).trans (HB.out.mono (by simp))
  have hbS : Below w.heap.size w WS := by
    rw [hWS]
    exact (((((hb1.setCell (p := ⟨w.heap.size + 1 + 1 + 6, 1, none⟩) (show w.heap.size ≤ w.heap.size + 1 + 1 + 6 by omega) _).setCell (Nat.le_refl _) _).setCell (Nat.le_refl _) _).setCell (Nat.le_refl _) _).setCell (Nat.le_refl _) _).setCell (Nat.le_refl _) _
  clear hWS
  have hm := HM.out
  have hh := hm.hands
  have hq0 := hm.q0
  have hq2 := hm.q2
  simp only [World.size_alloc] at hh hq0 hq2
  obtain ⟨t1, t2, t3⟩ := hh
  have hgl1 : Blok w1 gl 29 [.int .i64 15, .int .i64 15] := hl.below hb1 hgl
  refine bodyPost_ret (v := .agg (cellsL (w.heap.size + 1 + 1)).toArray) ?_ ?_ ?_
  · exact results_cell_row Tryd.results5 _ _ w.heap.size 25 _ (0, 0) _ rfl (hown.alloc _) Tryd.underlying25 rfl (by kernel_rfl)
  · rfl
  · exact ⟨w.heap.size + 1 + 1, rfl, ⟨⟨(hfar (by omega) (by omega) t1).alloc _, (hfar (by omega) (by omega) t2).alloc _, (hfar (by omega) (by omega) t3).alloc _⟩, (hfar (by omega) (by omega) hq0).alloc _, (hfar (by omega) (by omega) hgl1).alloc _, (hfar (by omega) (by omega) hq2).alloc _, hsq.alloc _⟩, hbS.alloc (by omega) _, by omega, by simp [hS]; omega⟩
end Go.Proofs.YtcemefojpaicoaaDoor
