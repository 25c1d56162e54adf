/- Row: the numbers below n, shuffled. Narrow: a span in a span. -/
import Derived.Test.YtmfjfjahemlhkaaGreatGa
namespace Go.Proofs.YtmfjfjahemlhkaaGreat
open Go.RowKit Dt

def RowPost (g n : Nat) (w : World) (e : Ending) (w' : World) : Prop :=
  ∃ (v : Value) (l : List Nat), e = .returned v ∧ l.Perm (List.range n) ∧ w'.ownsRow w.heap.size 3 1 v n (intCells (l.map fun (x : Nat) => (x : Int))) ∧ UrnAt w' g ∧ Kg g w w'
theorem cells_nat_at (l : List Nat) (k x : Nat) (h : l[k]? = some x) : (intCells (l.map fun (x : Nat) => (x : Int)))[k]? = some (.int .i64 (x : Int)) := by simp [intCells, h]
theorem cells_nat_set (l : List Nat) (k x : Nat) : (intCells (l.map fun (x : Nat) => (x : Int))).set k (.int .i64 (x : Int)) = intCells ((l.set k x).map fun (x : Nat) => (x : Int)) := by
  simp [intCells, List.map_set]
end Go.Proofs.YtmfjfjahemlhkaaGreat
