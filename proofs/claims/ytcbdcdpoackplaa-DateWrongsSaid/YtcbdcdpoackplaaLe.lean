/- narrowed: a matrix with a limit. -/
import Derived.Test.YtcbdcdpoackplaaLf
namespace Go.Proofs.Ytcbdcdpoackplaa
open Go.RowKit Dt

attribute [local go_sem ↓] ld_b st_b
attribute [local go_sem] run_stB
structure NarI (w : World) (B : Mat) (l : Lim) (n : Nat) (wr : World) : Prop where
  low : Below w.heap.size w wr
  size : wr.heap.size = w.heap.size + 4
  b : Blok wr w.heap.size 77 (cellsM B)
  lim : Blok wr (w.heap.size + 1) 128 [.int .i64 l.a, .int .i64 l.b, .int .i64 l.y]
  res : Blok wr (w.heap.size + 2) 77 (List.replicate 100 (.int .i64 0))
  nxt : Blok wr (w.heap.size + 3) 77 (mixM B l n)
theorem NarI.step {w : World} {B : Mat} {l : Lim} {i j : Nat} {wr : World} (h : NarI w B l (i * 10 + j) wr) (hi : i < 10) (hj : j < 10) (v : Int) (hv : v = cut B l i j) :
    NarI w B l (i * 10 + (j + 1)) (wr.setCell ⟨w.heap.size + 1 + 1 + 1, i * 10 + j, none⟩ (.int .i64 v)).drew := by
  subst hv
  refine ⟨(h.low.setCell (p := ⟨w.heap.size + 1 + 1 + 1, i * 10 + j, none⟩) (by show w.heap.size ≤ w.heap.size + 1 + 1 + 1; omega) _).drew, ?_, ?_, ?_, ?_, ?_⟩
  · simpa [World.setCell] using h.size
  · exact (h.b.far (by show w.heap.size ≠ w.heap.size + 1 + 1 + 1; omega) _).drewN 1
  · exact (h.lim.far (by show w.heap.size + 1 ≠ w.heap.size + 1 + 1 + 1; omega) _).drewN 1
  · exact (h.res.far (by show w.heap.size + 2 ≠ w.heap.size + 1 + 1 + 1; omega) _).drewN 1
  · have := (h.nxt.put (i * 10 + j) (.int .i64 (cut B l i j))).drewN 1
    rw [mix_set B l i j hi hj] at this
    exact this
set_option maxRecDepth 100000 in
set_option maxHeartbeats 1000000 in
theorem narrowed_any (B : Mat) (l : Lim) (ha : l.a < 10) (hb : l.b < 10) (hB : ∀ i j, i < 10 → j < 10 → -10000 ≤ B i j ∧ B i j ≤ 10000) (h3 : -10000 ≤ l.y) (h4 : l.y ≤ 10000) (w : World) :
    Calls Try.prog 84 #[.agg (cellsM B).toArray, limV l] w fun e w' => e = .returned (.agg (cellsM (cut B l)).toArray) ∧ Below w.heap.size w w' := by
  obtain ⟨a, b, y⟩ := l
  unfold limV
  simp only at ha hb h3 h4
  have HB := Lib.hid hB
  clear hB
  go_enter Try.func84, Try.ntmps84
  go_wp2_with (rw [run_ldB _ _ _ B (World.rangeAt_alloc (World.rangeAt_alloc (ra_new _ _ rfl _ _ _) _) _)])
  go_loopw [9] (fun i wr => ∃ k : Nat, k ≤ 10 ∧ i = .int .i64 k ∧ NarI w B ⟨a, b, y⟩ (k * 10) wr) (fun i _ => 10 - (intOf i).toNat)
  case atStart =>
    refine ⟨0, by omega, rfl, ?_, by simp, ?_, ?_, ?_, ?_⟩
    · exact ((((Below.refl _ w).alloc (Nat.le_refl _) _).alloc (by simp) _).alloc (by simp; omega) _).alloc (by simp; omega) _
    · exact (((Blok.new w _ _).alloc _).alloc _).alloc _
    · have := ((Blok.new (w.alloc (.cells (cellsM B).toArray 77)) 128 [.int .i64 a, .int .i64 b, .int .i64 y]).alloc (.cells Try.zeroCells77 77)).alloc (.cells (cellsM B).toArray 77)
      simpa using this
    · have := ((Blok.new ((w.alloc (.cells (cellsM B).toArray 77)).alloc (.cells #[.int .i64 a, .int .i64 b, .int .i64 y] 128)) 77 (List.replicate 100 (.int .i64 0))).alloc (.cells (cellsM B).toArray 77))
      rw [zero_cells]
      simpa using this
    · have := Blok.new (((w.alloc (.cells (cellsM B).toArray 77)).alloc (.cells #[.int .i64 a, .int .i64 b, .int .i64 y] 128)).alloc (.cells Try.zeroCells77 77)) 77 (cellsM B)
      rw [Nat.zero_mul, mix_zero]
      simpa using this
  case round =>
    obtain ⟨i, hi, rfl, hI⟩ := hrel
    by_cases hlt : i < 10
    · have di : decide ((i : Int) < 10) = true := by simp; omega
      go_wp2_with fail
      clear di
      go_loopw [12] (fun j wr => ∃ k : Nat, k ≤ 10 ∧ j = .int .i64 k ∧ NarI w B ⟨a, b, y⟩ (i * 10 + k) wr) (fun j _ => 10 - (intOf j).toNat)
      case atStart => exact ⟨0, by omega, rfl, hI⟩
      case round =>
        clear hI
        obtain ⟨j, hj, rfl, hI⟩ := hrel
        by_cases hlj : j < 10
        · obtain ⟨q1, q2⟩ := HB.out i a hlt ha
          obtain ⟨q3, q4⟩ := HB.out b j hb hlj
          have e1 : IntKind.i64.wrap (B i a + y) = B i a + y := IntWalk.i64_in _ (by omega)
          have e2 : IntKind.i64.wrap (B i a + y + B b j) = B i a + y + B b j := IntWalk.i64_in _ (by omega)
          clear q1 q2 q3 q4
          have c1 : wr.cell? ⟨w.heap.size, i * 10 + j, none⟩ = some (.int .i64 (B i j)) := (hI.b.cell _).trans (cellsM_at B i j hlt hlj)
          have c2 : wr.cell? ⟨w.heap.size, i * 10 + a, none⟩ = some (.int .i64 (B i a)) := (hI.b.cell _).trans (cellsM_at B i a hlt ha)
          have c3 : wr.cell? ⟨w.heap.size, b * 10 + j, none⟩ = some (.int .i64 (B b j)) := (hI.b.cell _).trans (cellsM_at B b j hb hlj)
          have c4 : wr.cell? ⟨w.heap.size + 1, 0, none⟩ = some (.int .i64 a) := hI.lim.cell 0
          have c5 : wr.cell? ⟨w.heap.size + 1, 1, none⟩ = some (.int .i64 b) := hI.lim.cell 1
          have c6 : wr.cell? ⟨w.heap.size + 1, 2, none⟩ = some (.int .i64 y) := hI.lim.cell 2
          have c7 : wr.cell? ⟨w.heap.size + 3, i * 10 + j, none⟩ = some (.int .i64 (B i j)) := (hI.nxt.cell _).trans (mix_at B ⟨a, b, y⟩ _ i j hlt hlj (Nat.le_refl _))
          have f7 : wr.frozen? ⟨w.heap.size + 3, i * 10 + j, none⟩ = false := hI.nxt.free _
          have ia : (a : Int) < 10 := by omega
          have ii : (i : Int) < 10 := by omega
          have ij : (j : Int) < 10 := by omega
          have ib : (b : Int) < 10 := by omega
          have HI := Lib.hid hI
          clear hI
          by_cases hle : B i j ≤ B i a + y + B b j
          all_goals
            go_wp2_with fail
            go_still_tail 26, (by kernel_rfl)
            go_wp2
            go_roundw
            case rel => exact ⟨j + 1, by omega, by go_num, HI.out.step hlt hlj _ (by simp only [cut]; omega)⟩
            case measure => simp [intOf]; omega
        · obtain rfl : j = 10 := by omega
          go_wp2_with fail
          go_roundw
          case rel => exact ⟨i + 1, by omega, by go_num, by rw [show (i + 1) * 10 = i * 10 + 10 by omega]; exact hI⟩
          case measure => simp [intOf]; omega
    · obtain rfl : i = 10 := by omega
      have hr := hI.nxt
      rw [show 10 * 10 = 100 from rfl, mix_all] at hr
      go_wp2_with (first | rw [run_ldB _ _ _ _ (ra_of_row hr)] | rw [run_stB_at _ _ _ _ hI.res (by simp)])
      refine bodyPost_ret (v := .agg (cellsM (cut B ⟨a, b, y⟩)).toArray) ?_ rfl ⟨rfl, ?_⟩
      · exact results_cell_row Try.results84 _ _ (w.heap.size + 2) 77 _ (0, 0) _ rfl (hI.res.setRow _) Try.underlying77 rfl (by rw [List.size_toArray, cells_len]; kernel_rfl)
      · exact below_setRow hI.low (by omega) _
end Go.Proofs.Ytcbdcdpoackplaa
