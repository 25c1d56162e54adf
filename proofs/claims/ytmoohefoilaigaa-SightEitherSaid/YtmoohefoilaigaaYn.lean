/- Years, of a line that no hand may have cut. -/
import Derived.Test.YtmoohefoilaigaaTp
namespace Go.Proofs.Ytmoohefoilaigaa
open Go.RowKit Go.Shelf

set_option maxRecDepth 100000 in
set_option maxHeartbeats 2000000 in
theorem years_none (v : Value) (L : Line) (w : World) (hL : L.ok) (hv : LineAt w w.heap.size v L) (hh : handsOf L = []) :
    Calls Try.prog 23 #[v] w fun e w' => e = .returned (.tuple #[.agg #[.int .i64 0, .int .i64 0], .int .i64 9]) ∧ Below w.heap.size w w' := by
  have HL := Lib.hid hL
  have HV := Lib.hid hv
  have HH := Lib.hid hh
  obtain ⟨vh, vs, rfl, hha, hq⟩ := hv
  obtain ⟨A, c, rfl, hA⟩ := hha
  obtain ⟨AQ, cQ, rfl, -⟩ := hq
  clear hA hL hh
  go_enter Try.func23, Try.ntmps23
  go_wp2_with fail
  refine (hands_none _ L _ HL.out (HV.out.keep (Same.of_below (((Below.refl _ _).alloc (Nat.le_refl _) _).alloc (by simp) _)) (by simp; omega)) HH.out).mono ?_
  rintro e w1 ⟨rfl, hb1⟩
  have hby := Blok.new (w.alloc (.cells #[.slice A L.hands.length c, .int .i64 L.worn, .int .i64 L.scr, .int .i64 L.total, .slice AQ L.squares.length cQ] 25)) 48 [.int .i64 0, .int .i64 0]
  rw [World.size_alloc] at hby
  have hby1 := hby.below hb1 (by simp)
  have r0 : w1.cell? ⟨w.heap.size + 1, 0, none⟩ = some (.int .i64 0) := hby1.cell 0
  have r1 : w1.cell? ⟨w.heap.size + 1, 1, none⟩ = some (.int .i64 0) := hby1.cell 1
  have f0 := hby1.free 0
  have f1 := hby1.free 1
  have HB := Lib.hid ((((Below.refl w.heap.size w).alloc (Nat.le_refl _) (.cells #[.slice A L.hands.length c, .int .i64 L.worn, .int .i64 L.scr, .int .i64 L.total, .slice AQ L.squares.length cQ] 25)).alloc (by simp) (.cells #[.int .i64 0, .int .i64 0] 48)).trans (hb1.mono (by simp; omega)))
  have HBY := Lib.hid hby1
  clear hb1 hby hby1
  go_wp2
  refine bodyPost_ret (v := .tuple #[.agg #[.int .i64 0, .int .i64 0], .int .i64 9]) ?_ ?_ ?_
  · exact results_cell_tmp Try.results23 _ _ (w.heap.size + 1) 48 _ _ rfl ((HBY.out.put 0 (.int .i64 0)).put 1 (.int .i64 0)) Try.underlying48 rfl (by kernel_rfl)
  · rfl
  · exact ⟨rfl, (HB.out.setCell (p := ⟨w.heap.size + 1, 0, none⟩) (by simp) _).setCell (p := ⟨w.heap.size + 1, 1, none⟩) (by simp) _⟩
end Go.Proofs.Ytmoohefoilaigaa
