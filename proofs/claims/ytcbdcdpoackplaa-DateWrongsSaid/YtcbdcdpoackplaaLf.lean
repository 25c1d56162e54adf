/- A matrix narrowed by a limit. · Whole matrices that are loaded and stored. -/
import Derived.Test.YtcbdcdpoackplaaLc
import Derived.IntWalk
import Derived.Laws.Rows
import Derived.Deep.WholeRow
import Derived.Deep.MidRow
import Derived.StillTailTactics
namespace Go.Proofs.Ytcbdcdpoackplaa
section
open Go.RowKit Dt

def mixM (B : Mat) (l : Lim) (n : Nat) : List Value := (List.range 100).map fun k => .int .i64 (if k < n then cut B l (k / 10) (k % 10) else B (k / 10) (k % 10))
theorem mix_zero (B : Mat) (l : Lim) : mixM B l 0 = cellsM B := by simp [mixM, cellsM]
theorem mix_all (B : Mat) (l : Lim) : mixM B l 100 = cellsM (cut B l) := by
  unfold mixM cellsM
  refine List.map_congr_left fun k hk => ?_
  rw [if_pos (List.mem_range.1 hk)]
theorem mix_set (B : Mat) (l : Lim) (i j : Nat) (_ : i < 10) (hj : j < 10) : (mixM B l (i * 10 + j)).set (i * 10 + j) (.int .i64 (cut B l i j)) = mixM B l (i * 10 + (j + 1)) := by
  apply List.ext_getElem?
  intro k
  by_cases hk : k < 100
  · rw [List.getElem?_set]
    by_cases h : i * 10 + j = k
    · subst h
      rw [if_pos rfl, if_pos (by simpa [mixM] using hk)]
      simp only [mixM, List.getElem?_map, List.getElem?_range hk, Option.map_some]
      rw [if_pos (by omega), show (i * 10 + j) / 10 = i by omega, show (i * 10 + j) % 10 = j by omega]
    · rw [if_neg h]
      simp only [mixM, List.getElem?_map, List.getElem?_range hk, Option.map_some]
      by_cases h2 : k < i * 10 + j
      · rw [if_pos h2, if_pos (by omega)]
      · rw [if_neg h2, if_neg (by omega)]
  · rw [List.getElem?_eq_none (by simp [mixM]; omega), List.getElem?_eq_none (by simp [mixM]; omega)]
theorem mix_at (B : Mat) (l : Lim) (n i j : Nat) (hi : i < 10) (hj : j < 10) (hn : n ≤ i * 10 + j) : (mixM B l n)[i * 10 + j]? = some (.int .i64 (B i j)) := by
  have h : i * 10 + j < 100 := by omega
  simp only [mixM, List.getElem?_map, List.getElem?_range h, Option.map_some]
  rw [if_neg (by omega), show (i * 10 + j) / 10 = i by omega, show (i * 10 + j) % 10 = j by omega]
end
section
open Go.RowKit Dt

theorem cells_len (B : Mat) : (cellsM B).length = 100 := by simp [cellsM]
theorem mix_len (B : Mat) (l : Lim) (n : Nat) : (mixM B l n).length = 100 := by simp [mixM]
theorem cells_one (B : Mat) : ∀ u ∈ cellsM B, u.oneCell' = true := by
  intro u hu
  simp only [cellsM, List.mem_map] at hu
  obtain ⟨k, -, rfl⟩ := hu
  rfl
/-- The cells of a matrix, as they lie in a block of their own. -/
def Mx (w : World) (g : Nat) (B : Mat) : Prop := Blok w g 77 (cellsM B)
/-- A matrix is loaded, and stored, under names that the walk's simp does not open. -/
def ldB (v : Value) : Sem Value := Instr.loadAt 77 v
theorem ld_b (v : Value) : Instr.loadAt 77 v = ldB v := rfl
theorem run_ldB (w : World) (b o : Nat) (B : Mat) (hc : w.rangeAt b o (cellsM B)) : (ldB (.pointer (some ⟨b, o, none⟩))).run Try.prog w = .ok (.agg (cellsM B).toArray) w :=
  run_loadAt_mid w b o _ _ _ hc Try.underlying77 rfl (by rw [cells_len]; kernel_rfl)
def stB (v u : Value) : Sem Unit := Instr.storeAt 77 v u
theorem st_b (v u : Value) : Instr.storeAt 77 v u = stB v u := rfl
theorem size_zeros : Try.zeroCells77.size = 100 := by kernel_rfl
theorem run_stB (w : World) (g : Nat) (hg : g = w.heap.size) (B : Mat) :
    (stB (.pointer (some ⟨g, 0, none⟩)) (.agg (cellsM B).toArray)).run Try.prog (w.alloc (.cells Try.zeroCells77 77)) = .ok () (w.alloc (.cells (cellsM B).toArray 77)) := by
  subst hg
  exact run_storeAt_new w _ _ _ (by rw [List.size_toArray, cells_len]; kernel_rfl) (size_zeros.trans (by rw [List.size_toArray, cells_len])) (all_oneCell_toArray (cells_one B))
theorem run_stB_at (w : World) (g : Nat) (cs : List Value) (B : Mat) (h : Blok w g 77 cs) (hl : cs.length = 100) :
    (stB (.pointer (some ⟨g, 0, none⟩)) (.agg (cellsM B).toArray)).run Try.prog w = .ok () (w.setRow g (cellsM B).toArray) := by
  simp only [stB, Instr.storeAt, Instr.sureAddr, Sem.run_bind, Sem.run_pure, Result.andThen]
  exact run_storeVar_row w g _ _ _ _ h (by rw [List.size_toArray, cells_len]; kernel_rfl) (by rw [List.size_toArray, List.size_toArray, cells_len, hl]) (all_oneCell_toArray (cells_one B))
theorem ra_of_row {w : World} {g : Nat} {t : TypeId} {fr : Nat × Nat} {cs : List Value} (h : w.heap[g]? = some (.cells cs.toArray t fr)) : w.rangeAt g 0 cs := fun j v hv => by
  rw [Nat.zero_add, cell_of_row w g j _ t fr h]
  simpa using hv
theorem Blok.range {w : World} {g : Nat} {t : TypeId} {cs : List Value} (h : Blok w g t cs) : w.rangeAt g 0 cs := ra_of_row h
theorem ra_new (w : World) (g : Nat) (hg : g = w.heap.size) (t : TypeId) (fr : Nat × Nat) (cs : List Value) : (w.alloc (.cells cs.toArray t fr)).rangeAt g 0 cs := by
  subst hg
  exact ra_of_row (heap_alloc_new w _)
theorem zero_cells : Try.zeroCells77 = (List.replicate 100 (Value.int .i64 0)).toArray := by kernel_rfl
end
end Go.Proofs.Ytcbdcdpoackplaa
