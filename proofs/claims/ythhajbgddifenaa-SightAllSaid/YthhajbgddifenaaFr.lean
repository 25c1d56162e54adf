/- Frames: the blocks that lay there are as they were, but one; lines in memory whose blocks meet a condition. -/
import Derived.Test.YthhajbgddifenaaH
namespace Go.Proofs.Ythhajbgddifenaa
open Go.RowKit Go.Shelf

/-- All blocks that lay there are as they were, but g. -/
def Kg (g : Nat) (w w' : World) : Prop := Keep (fun k => k < w.heap.size ∧ k ≠ g) w w'
section
variable {g : Nat} {a b c w w' : World}
theorem Kg.refl (g : Nat) (w : World) : Kg g w w := Keep.refl _ w
theorem Kg.size (h : Kg g a b) : a.heap.size ≤ b.heap.size := Keep.size h
theorem Kg.heap (h : Kg g a b) {k : Nat} (hk : k < a.heap.size) (hg : k ≠ g) : b.heap[k]? = a.heap[k]? := h.block k ⟨hk, hg⟩
theorem Kg.trans (h : Kg g a b) (k : Kg g b c) : Kg g a c :=
  ⟨k.os.trans h.os, k.tape.trans h.tape, k.output.trans h.output, Nat.le_trans h.size k.size, fun _ hi => (k.heap (Nat.lt_of_lt_of_le hi.1 h.size) hi.2).trans (h.heap hi.1 hi.2)⟩
theorem Kg.of_below (h : Below a.heap.size a b) : Kg g a b := ⟨h.os, h.tape, h.output, h.size, fun k hk => h.block k hk.1⟩
theorem Kg.below {B : Nat} (h : Kg g a b) (hB : B ≤ a.heap.size) (hg : B ≤ g) : Below B a b := ⟨h.os, h.tape, h.output, h.size, fun k hk => h.heap (by omega) (by omega)⟩
theorem Kg.alloc (h : Kg g a b) (o : Obj) : Kg g a (b.alloc o) := h.trans (Kg.of_below ((Below.refl _ _).alloc (Nat.le_refl _) _))
theorem Kg.drewN (h : Kg g a b) (n : Nat) : Kg g a (b.drewN n) := h.trans (Kg.of_below (below_drewN (Below.refl _ _) n))
theorem Kg.drew (h : Kg g a b) : Kg g a b.drew := h.trans (Kg.of_below (Below.refl _ _).drew)
theorem Kg.put (h : Kg g a b) (i : Nat) (u : Value) : Kg g a (b.setCell ⟨g, i, none⟩ u) :=
  h.trans ⟨rfl, rfl, rfl, by simp [World.setCell], fun k hk => Below.heap_setCell _ _ _ _ hk.2⟩
theorem Kg.putNew (h : Kg g a b) {p : Addr} (hp : a.heap.size ≤ p.block) (u : Value) : Kg g a (b.setCell p u) :=
  ⟨h.os, h.tape, h.output, by simp [World.setCell]; exact h.size, fun k hk => (Below.heap_setCell _ _ _ _ (by omega)).trans (h.heap hk.1 hk.2)⟩
theorem Kg.grown {row : Option Nat} (h : Kg g a b) (hg : b.grownBy w' row) (hr : ∀ k, row = some k → a.heap.size ≤ k) : Kg g a w' :=
  ⟨hg.os.trans h.os, hg.tape.trans h.tape, hg.output.trans h.output, Nat.le_trans h.size hg.size, fun k hk => (hg.block k (Nat.lt_of_lt_of_le hk.1 h.size) (fun e => by have := hr k e.symm; omega)).trans (h.heap hk.1 hk.2)⟩
theorem Blok.kg {t : TypeId} {cs : List Value} {k : Nat} (h : Blok a k t cs) (hk : Kg g a b) (hne : k ≠ g) : Blok b k t cs := (hk.heap h.size hne).trans h
end
/-- The urn at block g. -/
def UrnAt (w : World) (g : Nat) : Prop := ∃ x y : Int, Blok w g 91 [.int .u64 x, .int .u64 y]
theorem UrnAt.size {w : World} {g : Nat} (h : UrnAt w g) : g < w.heap.size := by obtain ⟨x, y, h⟩ := h; exact h.size
theorem UrnAt.ne {w : World} {g k : Nat} {t : TypeId} {cs : List Value} (h : UrnAt w g) (hb : Blok w k t cs) (ht : t ≠ 91) : k ≠ g := by
  rintro rfl
  obtain ⟨x, y, h⟩ := h
  have h2 : some (Obj.cells cs.toArray t (0, 0)) = some (Obj.cells [.int .u64 x, .int .u64 y].toArray 91 (0, 0)) := hb.symm.trans h
  injection h2 with h2
  injection h2 with _ h2
  exact ht h2
theorem UrnAt.keep {w w' : World} {g B : Nat} (h : UrnAt w g) (hb : Below B w w') (hg : g < B) : UrnAt w' g := by
  obtain ⟨x, y, h⟩ := h
  exact ⟨x, y, h.below hb hg⟩
theorem UrnAt.alloc {w : World} {g : Nat} (h : UrnAt w g) (o : Obj) : UrnAt (w.alloc o) g := by
  obtain ⟨x, y, h⟩ := h
  exact ⟨x, y, h.alloc o⟩
theorem UrnAt.drewN {w : World} {g : Nat} (h : UrnAt w g) (n : Nat) : UrnAt (w.drewN n) g := h
theorem UrnAt.grown {w w' : World} {g : Nat} {row : Option Nat} (h : UrnAt w g) (hg : w.grownBy w' row) (hr : row ≠ some g) : UrnAt w' g := by
  obtain ⟨x, y, h⟩ := h
  exact ⟨x, y, h.grown hg hr⟩
/-- What a call of the urn comes to: a number, and the urn has gone on. -/
def Drawn (g : Nat) (w : World) (P : Value → Prop) (e : Ending) (w' : World) : Prop := ∃ v, e = .returned v ∧ P v ∧ UrnAt w' g ∧ Kg g w w'
end Go.Proofs.Ythhajbgddifenaa
