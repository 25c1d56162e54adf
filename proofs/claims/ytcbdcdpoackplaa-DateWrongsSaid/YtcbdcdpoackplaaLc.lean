/- The span of two points of a matrix. -/
import Derived.Test.YtcbdcdpoackplaaLb
import Derived.BigRegion
import Derived.Deep.RegionHeld3
namespace Go.Proofs.Ytcbdcdpoackplaa
open Go.RowKit Dt

set_option maxRecDepth 100000 in
set_option maxHeartbeats 1000000 in
theorem spanOf_any (B : Mat) (i j : Nat) (hi : i < 10) (hj : j < 10) (h1 : -1000000 ≤ B j i) (h2 : B j i ≤ 1000000) (w : World) :
    Calls Try.prog 43 #[.agg (cellsM B).toArray, .int .i64 i, .int .i64 j] w fun e w' => e = .returned (.agg #[.int .i64 (- B j i), .int .i64 (B i j)]) ∧ Below w.heap.size w w' := by
  obtain ⟨cs, hcs⟩ : ∃ cs, cs = (cellsM B).toArray := ⟨_, rfl⟩
  rw [← hcs]
  have HC := Lib.hid hcs
  clear hcs
  go_enter Try.func43, Try.ntmps43
  go_wp2_with fail
  have hb1 : Blok ((w.alloc (.cells cs 77)).alloc (.cells #[.int .i64 0, .int .i64 0] 39)) w.heap.size 77 (cellsM B) := by
    have h1 := (Blok.new w 77 (cellsM B)).alloc (.cells #[.int .i64 0, .int .i64 0] 39)
    rwa [← HC.out] at h1
  have hb2 : Blok ((w.alloc (.cells cs 77)).alloc (.cells #[.int .i64 0, .int .i64 0] 39)) (w.heap.size + 1) 39 [.int .i64 0, .int .i64 0] := by
    have := Blok.new (w.alloc (.cells cs 77)) 39 [.int .i64 0, .int .i64 0]
    simpa using this
  obtain ⟨W, hW⟩ : ∃ W, W = ((w.alloc (.cells cs 77)).alloc (.cells #[.int .i64 0, .int .i64 0] 39)) := ⟨_, rfl⟩
  rw [← hW] at hb1 hb2 ⊢
  have HBW := Lib.hid (show Below w.heap.size w W by rw [hW]; exact ((Below.refl _ w).alloc (Nat.le_refl _) _).alloc (by simp) _)
  clear hW
  have c1 : W.cell? ⟨w.heap.size, j * 10 + i, none⟩ = some (.int .i64 (B j i)) := (hb1.cell _).trans (cellsM_at B j i hj hi)
  have c2 : W.cell? ⟨w.heap.size, i * 10 + j, none⟩ = some (.int .i64 (B i j)) := (hb1.cell _).trans (cellsM_at B i j hi hj)
  have k0 := hb2.cell 0
  have k1 := hb2.cell 1
  have f0 := hb2.free 0
  have f1 := hb2.free 1
  simp at k0 k1
  have H2 := Lib.hid hb2
  clear hb1 hb2
  go_region
  clear k0 k1 f0 f1 c1 c2
  go_wp2
  refine bodyPost_ret (v := .agg #[.int .i64 (- B j i), .int .i64 (B i j)]) ?_ rfl ⟨rfl, ?_⟩
  · exact results_cell_row Try.results43 _ _ (w.heap.size + 1) 39 _ (0, 0) _ rfl ((H2.out.put 0 (.int .i64 (- B j i))).put 1 (.int .i64 (B i j))) Try.underlying39 rfl (by kernel_rfl)
  · exact ((HBW.out.setCell (p := ⟨w.heap.size + 1, 0, none⟩) (Nat.le_succ _) _).setCell (p := ⟨w.heap.size + 1, 1, none⟩) (Nat.le_succ _) _).drew
end Go.Proofs.Ytcbdcdpoackplaa
