/- A matrix of years as a value: whether it refuses a limit. -/
import Derived.Test.YtcbdcdpoackplaaLa
namespace Go.Proofs.Ytcbdcdpoackplaa
open Go.RowKit Dt

/-- The cells of a matrix, row by row. -/
def cellsM (B : Mat) : List Value := (List.range 100).map fun k => .int .i64 (B (k / 10) (k % 10))
def limV (l : Lim) : Value := .agg #[.int .i64 l.a, .int .i64 l.b, .int .i64 l.y]
theorem cellsM_at (B : Mat) (i j : Nat) (hi : i < 10) (hj : j < 10) : (cellsM B)[i * 10 + j]? = some (.int .i64 (B i j)) := by
  have h : i * 10 + j < 100 := by omega
  simp only [cellsM, List.getElem?_map, List.getElem?_range h, Option.map_some]
  rw [show (i * 10 + j) / 10 = i by omega, show (i * 10 + j) % 10 = j by omega]
set_option maxRecDepth 100000 in
set_option maxHeartbeats 1000000 in
theorem refuses_any (B : Mat) (l : Lim) (ha : l.a < 10) (hb : l.b < 10) (h1 : -1000000 ≤ B l.b l.a) (h2 : B l.b l.a ≤ 1000000) (h3 : -1000000 ≤ l.y) (h4 : l.y ≤ 1000000) (w : World) :
    Calls Try.prog 83 #[.agg (cellsM B).toArray, limV l] w fun e w' => e = .returned (.bool (refuses B l)) ∧ Below w.heap.size w w' := by
  obtain ⟨a, b, y⟩ := l
  unfold limV
  simp only at ha hb h1 h2 h3 h4
  have HS := Lib.hid (show wrap64 (B b a + y) = B b a + y by unfold wrap64; omega)
  clear h1 h2 h3 h4
  obtain ⟨cs, hcs⟩ : ∃ cs, cs = (cellsM B).toArray := ⟨_, rfl⟩
  rw [← hcs]
  have HC := Lib.hid hcs
  clear hcs
  go_enter Try.func83, Try.ntmps83
  go_wp2_with fail
  have hc : ((w.alloc (.cells cs 77)).alloc (.cells #[.int .i64 a, .int .i64 b, .int .i64 y] 128)).cell? ⟨w.heap.size, b * 10 + a, none⟩ = some (.int .i64 (B b a)) := by
    have h1 := (Blok.new w 77 (cellsM B)).alloc (.cells #[.int .i64 a, .int .i64 b, .int .i64 y] 128)
    rw [← HC.out] at h1
    rw [h1.cell]
    exact cellsM_at B b a (by exact hb) (by exact ha)
  go_region
  all_goals
    go_wp2
    go_ret
    refine ⟨ret_bool ?_, ((((Below.refl _ w).alloc (Nat.le_refl _) _).alloc (by simp) _).drew)⟩
    rw [HS.out]
    rfl
end Go.Proofs.Ytcbdcdpoackplaa
