/- Small laws on aggregates that are built of parts whose cells are a variable. -/
import Derived.WalkKit
import Derived.Laws.Tables
namespace Go.Proofs.YtcemefojpaicoaaDoor
open Go.RowKit

theorem foldl_set (xs : List Value) : ∀ (k off : Nat) (A old B : List Value), old.length = xs.length → A.length = off + k →
    (xs.zipIdx k).foldl (fun (cs : Array Value) (x : Value × Nat) => cs.setIfInBounds (off + x.2) x.1) (A ++ old ++ B).toArray = (A ++ xs ++ B).toArray := by
  induction xs with
  | nil =>
    intro k off A old B h _
    obtain rfl : old = [] := List.eq_nil_of_length_eq_zero h
    rfl
  | cons x xs ih =>
    intro k off A old B h hA
    cases old with
    | nil => simp at h
    | cons y old =>
      rw [List.zipIdx_cons, List.foldl_cons]
      have e : (A ++ y :: old ++ B).toArray.setIfInBounds (off + k) x = ((A ++ [x]) ++ old ++ B).toArray := by
        rw [← hA]
        simp
      rw [e, ih (k + 1) off (A ++ [x]) old B (by simpa using h) (by simp [hA]; omega)]
      simp

/-- One part, which lies behind the cells A, fills its place. -/
theorem fill_part (place : Nat → Option (Nat × Nat)) (i : Nat) (v : Value) (xs : List Value) (hv : v.cells = xs.toArray) (A old B : List Value) (ho : old.length = xs.length) (hp : place i = some (A.length, xs.length)) (rest : List (Nat × Value)) :
    Instr.fill place (A ++ old ++ B).toArray ((i, v) :: rest) = Instr.fill place (A ++ xs ++ B).toArray rest := by
  have h2 : ¬ (v.cells.size ≠ xs.length ∨ A.length + v.cells.size > (A ++ old ++ B).toArray.size) := by
    rw [hv]
    simp
    omega
  have h3 : v.cells.zipIdx.foldl (fun (cs : Array Value) (x : Value × Nat) => cs.setIfInBounds (A.length + x.2) x.1) (A ++ old ++ B).toArray = (A ++ xs ++ B).toArray := by
    rw [hv]
    have h4 := foldl_set xs 0 A.length A old B ho rfl
    rw [← h4]
    simp
  rw [Instr.fill, hp]
  simp only []
  rw [if_neg (by simpa using h2)]
  exact congrArg (fun c => Instr.fill place c rest) h3

theorem built_struct {P : Program} {t : TypeId} {i : TypeInfo} {fields : Array Field} {places : List (Nat × Nat)} {z : Value} (h1 : P.info? t = some i) (h2 : P.underlying t = some (.struct fields)) (h3 : i.zero = some z)
    (h4 : fields.toList.mapM (fun f => (P.info? f.type).map fun i => (f.offset, i.size)) = some places) (parts : List (Nat × Value)) : P.built t parts = Instr.fill (places.toArray[·]?) z.cells parts := by
  simp [Program.built, h1, h2, h3, h4]

/-- A slice literal of one aggregate. -/
theorem run_buildSlice_one {P : Program} (w : World) (t e : TypeId) (i : TypeInfo) (z : Value) (cs : List Value) (ht : P.underlying t = some (.slice e)) (hi : P.info? e = some i) (hz : i.zero = some z) (hs : i.size = cs.length) (hzs : z.cells.size = cs.length) (hb : cs.length ≤ 1000) (h0 : 0 < cs.length) :
    (Instr.buildSlice t 1 #[(0, .agg cs.toArray)]).run P w = .ok (.slice (some ⟨w.heap.size, 0, none⟩) 1 1) (w.alloc (.cells cs.toArray e)) := by
  have hsz : (sizeOf e).run P w = .ok cs.length w := by simp [sizeOf, typeInfo, hi, hs]
  have hzv : (zeroValue e).run P w = .ok z w := by simp [zeroValue, typeInfo, hi, hz]
  have hf : Instr.fill (fun k => some (k * cs.length, cs.length)) ((Array.range (1 * cs.length)).map (z.cells[· % z.cells.size]!)) [(0, .agg cs.toArray)] = some cs.toArray := by
    obtain ⟨old, hold⟩ : ∃ old : List Value, ((Array.range (1 * cs.length)).map (z.cells[· % z.cells.size]!)) = old.toArray := ⟨_, (Array.toArray_toList).symm⟩
    have hl : old.length = cs.length := by
      have := congrArg Array.size hold
      simpa using this.symm
    rw [hold]
    have h5 := fill_part (fun k => some (k * cs.length, cs.length)) 0 (.agg cs.toArray) cs rfl [] old [] hl (by simp) []
    simp only [List.nil_append, List.append_nil] at h5
    rw [h5]
    rfl
  unfold Instr.buildSlice
  have hng : ¬ (1 * cs.length > 2 ^ 24) := by omega
  have hne : ¬ (1 * cs.length = 0) := by omega
  simp only [Sem.run_bind, run_underlying ht, Result.andThen_ok, hsz, if_neg hng, if_neg hne, Sem.run_pure, hzv, hf]
  simp [newRow, newObj]
  rfl
end Go.Proofs.YtcemefojpaicoaaDoor
