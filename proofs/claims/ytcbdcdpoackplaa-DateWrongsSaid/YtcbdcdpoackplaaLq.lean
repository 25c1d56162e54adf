/- Whether two matrices are equal, as the program asks it. -/
import Derived.Test.YtcbdcdpoackplaaLf
import Derived.DeepKeys
namespace Go.Proofs.Ytcbdcdpoackplaa
open Go.RowKit Dt

theorem run_items {P : Program} (w : World) (d : Nat) (e : TypeId) (c : Nat) (xs ys : Array Value) (f : Nat → Bool) (a b : Nat → Value) : ∀ is : List Nat,
    (∀ i ∈ is, (part e xs (i * c)).run P w = .ok (a i) w ∧ (part e ys (i * c)).run P w = .ok (b i) w ∧ (Op.equalIn d e (a i) (b i)).run P w = .ok (f i) w) →
    (Op.eqItems d e c xs ys is).run P w = .ok (is.all f) w
  | [], _ => by simp [Op.eqItems]
  | i :: is, h => by
    obtain ⟨h1, h2, h3⟩ := h i (List.mem_cons_self ..)
    have ih := run_items w d e c xs ys f a b is fun j hj => h j (List.mem_cons_of_mem _ hj)
    simp only [Op.eqItems, Sem.run_bind, h1, h2, h3, Result.andThen_ok, List.all_cons]
    cases f i
    · simp
    · simpa using ih
def rowA (M : Mat) (i : Nat) : Array Value := (cellsM M).toArray.extract (i * 10) (i * 10 + 10)
theorem rowA_at (M : Mat) (i j : Nat) (hi : i < 10) (hj : j < 10) : (rowA M i)[j]? = some (.int .i64 (M i j)) := by
  unfold rowA
  rw [Array.getElem?_extract]
  have hs : (cellsM M).toArray.size = 100 := by rw [List.size_toArray, cells_len]
  rw [hs, if_pos (by omega)]
  rw [← cellsM_at M i j hi hj]
  simp
theorem run_part_row (w : World) (M : Mat) (i : Nat) : (part 75 (cellsM M).toArray (i * 10)).run Try.prog w = .ok (.agg (rowA M i)) w := by
  have h1 : (isAgg 75).run Try.prog w = .ok true w := by kernel_rfl
  have h2 : (sizeOf 75).run Try.prog w = .ok 10 w := by kernel_rfl
  simp [part, h1, h2, rowA]
theorem run_part_int (w : World) (M : Mat) (i j : Nat) (hi : i < 10) (hj : j < 10) : (part 3 (rowA M i) (j * 1)).run Try.prog w = .ok (.int .i64 (M i j)) w := by
  have h1 : (isAgg 3).run Try.prog w = .ok false w := by kernel_rfl
  have h3 := rowA_at M i j hi hj
  rw [Nat.mul_one]
  simp [part, h1, h3]
theorem eqOn_all (A B : Mat) : ((List.range 10).all fun i => (List.range 10).all fun j => A i j == B i j) = decide (eqOn 10 A B) := by
  rw [Bool.eq_iff_iff, decide_eq_true_iff]
  simp only [List.all_eq_true, List.mem_range, beq_iff_eq]
  exact ⟨fun h i j hi hj => h i hi j hj, fun h i hi j hj => h i j hi hj⟩
theorem cellsOf_row : Try.prog.cellsOf 75 = 10 := by kernel_rfl
theorem cellsOf_int : Try.prog.cellsOf 3 = 1 := by kernel_rfl
theorem run_eqM (w : World) (A B : Mat) : (Op.equalIn 10000 77 (.agg (cellsM A).toArray) (.agg (cellsM B).toArray)).run Try.prog w = .ok (decide (eqOn 10 A B)) w := by
  have hi1 : ∃ i, Try.prog.info? 75 = some i := info_of_underlying Try.underlying75
  have hi2 : ∃ i, Try.prog.info? 3 = some i := info_of_underlying Try.underlying3
  obtain ⟨i1, hi1⟩ := hi1
  obtain ⟨i2, hi2⟩ := hi2
  rw [show (10000 : Nat) = 9999 + 1 from rfl, run_equalIn_array w 9999 _ _ Try.underlying77 hi1, cellsOf_row, ← eqOn_all]
  refine run_items w 9999 _ 10 _ _ (fun i => (List.range 10).all fun j => A i j == B i j) (fun i => .agg (rowA A i)) (fun i => .agg (rowA B i)) (List.range 10) fun i hi => ?_
  refine ⟨run_part_row w A i, run_part_row w B i, ?_⟩
  rw [show (9999 : Nat) = 9998 + 1 from rfl, run_equalIn_array w 9998 _ _ Try.underlying75 hi2, cellsOf_int]
  refine run_items w 9998 _ 1 _ _ (fun j => A i j == B i j) (fun j => .int .i64 (A i j)) (fun j => .int .i64 (B i j)) (List.range 10) fun j hj => ?_
  refine ⟨run_part_int w A i j (List.mem_range.1 hi) (List.mem_range.1 hj), run_part_int w B i j (List.mem_range.1 hi) (List.mem_range.1 hj), ?_⟩
  exact run_equalIn_int w 9997 _ _ _ _ _ Try.underlying3
end Go.Proofs.Ytcbdcdpoackplaa
