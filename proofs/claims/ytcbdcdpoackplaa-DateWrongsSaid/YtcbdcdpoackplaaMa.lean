/- How datings lie in memory: slices of years, spans and notes that read as plain lists. -/
import Derived.Test.YtcbdcdpoackplaaDc
import Derived.Below
import Derived.Deep.Draws
import Derived.Laws.OwnMore
import Derived.WalkSmall
import Derived.Deep.MidRow
namespace Go.Proofs.Ytcbdcdpoackplaa
open Go.RowKit

/-- A slice value of n elements; where there is an element it starts at cell o of block b, b below B, and R holds of b and o. -/
def Sl (B : Nat) (v : Value) (n : Nat) (R : Nat → Nat → Prop) : Prop :=
  ∃ A c, v = .slice A n c ∧ (0 < n → ∃ b o, A = some ⟨b, o, none⟩ ∧ b < B ∧ R b o)
theorem Sl.mono {B B' : Nat} {v : Value} {n : Nat} {R R' : Nat → Nat → Prop} (h : Sl B v n R) (hB : B ≤ B') (hR : ∀ b o, b < B → R b o → R' b o) : Sl B' v n R' := by
  obtain ⟨A, c, rfl, h⟩ := h
  exact ⟨A, c, rfl, fun hn => by obtain ⟨b, o, rfl, hb, hr⟩ := h hn; exact ⟨b, o, rfl, by omega, hR b o hb hr⟩⟩

/-- What lies below block B is as it was. -/
def Same (B : Nat) (w w' : World) : Prop := ∀ b o, b < B → w'.cell? ⟨b, o, none⟩ = w.cell? ⟨b, o, none⟩
theorem Same.of_below {B : Nat} {w w' : World} (h : Below B w w') : Same B w w' := fun _ _ hb => h.cell (p := ⟨_, _, none⟩) hb
theorem Same.mono {B B' : Nat} {w w' : World} (h : Same B w w') (hB : B' ≤ B) : Same B' w w' := fun b o hb => h b o (by omega)
theorem Same.trans {B : Nat} {w w' w'' : World} (h : Same B w w') (h' : Same B w' w'') : Same B w w'' := fun b o hb => (h' b o hb).trans (h b o hb)
theorem Same.refl (B : Nat) (w : World) : Same B w w := fun _ _ _ => rfl

theorem Same.of_two {B : Nat} {a w w' : World} (h : Below B a w) (h' : Below B a w') : Same B w w' := fun _ _ hb => (h'.cell (p := ⟨_, _, none⟩) hb).trans (h.cell (p := ⟨_, _, none⟩) hb).symm

/-- Some numbers in a row in memory. -/
def intsR (w : World) (l : List Int) (b o : Nat) : Prop := ∀ (k : Nat) (x : Int), l[k]? = some x → w.cell? ⟨b, o + k, none⟩ = some (.int .i64 x)
def Ints (w : World) (B : Nat) (v : Value) (l : List Int) : Prop := Sl B v l.length (intsR w l)
def spansR (w : World) (l : List (Int × Int)) (b o : Nat) : Prop :=
  ∀ (k : Nat) (x : Int × Int), l[k]? = some x → w.cell? ⟨b, o + k * 2, none⟩ = some (.int .i64 x.1) ∧ w.cell? ⟨b, o + k * 2 + 1, none⟩ = some (.int .i64 x.2)
def Spans (w : World) (B : Nat) (v : Value) (l : List (Int × Int)) : Prop := Sl B v l.length (spansR w l)
open Dt in
/-- The cells of a note: its kind, its stone, the other one, its years, its span. -/
def notesR (w : World) (B : Nat) (l : List Nt) (b o : Nat) : Prop :=
  ∀ (k : Nat) (x : Nt), l[k]? = some x → w.cell? ⟨b, o + k * 6, none⟩ = some (.int .i64 x.kind) ∧ w.cell? ⟨b, o + k * 6 + 1, none⟩ = some (.int .i64 x.stone) ∧ w.cell? ⟨b, o + k * 6 + 2, none⟩ = some (.int .i64 x.other) ∧
    (∃ v, w.cell? ⟨b, o + k * 6 + 3, none⟩ = some v ∧ Ints w B v x.years) ∧ w.cell? ⟨b, o + k * 6 + 4, none⟩ = some (.int .i64 x.lo) ∧ w.cell? ⟨b, o + k * 6 + 5, none⟩ = some (.int .i64 x.hi)
open Dt in
def Notes (w : World) (B : Nat) (v : Value) (l : List Nt) : Prop := Sl B v l.length (notesR w B l)
open Dt in
/-- A dating, as a value over memory below B. -/
def DatAt (w : World) (B : Nat) (v : Value) (d : Dat) : Prop :=
  ∃ ve vn, v = .agg #[.int .i64 d.stones, ve, vn] ∧ Spans w B ve d.eras ∧ Notes w B vn d.notes
section
variable {w w' : World} {B B' : Nat} {v : Value}
theorem Ints.keep {l : List Int} (h : Ints w B v l) (hs : Same B w w') (hB : B ≤ B') : Ints w' B' v l :=
  Sl.mono h hB fun _ _ hb hr k x hx => (hs _ _ hb).trans (hr k x hx)
theorem Spans.keep {l : List (Int × Int)} (h : Spans w B v l) (hs : Same B w w') (hB : B ≤ B') : Spans w' B' v l :=
  Sl.mono h hB fun _ _ hb hr k x hx => ⟨(hs _ _ hb).trans (hr k x hx).1, (hs _ _ hb).trans (hr k x hx).2⟩
open Dt in
theorem Notes.keep {l : List Nt} (h : Notes w B v l) (hs : Same B w w') (hB : B ≤ B') : Notes w' B' v l :=
  Sl.mono h hB fun _ _ hb hr k x hx => by
    obtain ⟨h1, h2, h3, ⟨u, h4, h5⟩, h6, h7⟩ := hr k x hx
    exact ⟨(hs _ _ hb).trans h1, (hs _ _ hb).trans h2, (hs _ _ hb).trans h3, ⟨u, (hs _ _ hb).trans h4, h5.keep hs hB⟩, (hs _ _ hb).trans h6, (hs _ _ hb).trans h7⟩
open Dt in
theorem DatAt.keep {d : Dat} (h : DatAt w B v d) (hs : Same B w w') (hB : B ≤ B') : DatAt w' B' v d := by
  obtain ⟨ve, vn, rfl, h1, h2⟩ := h
  exact ⟨ve, vn, rfl, h1.keep hs hB, h2.keep hs hB⟩
end

theorem below_setRow {B g : Nat} {w w' : World} (h : Below B w w') (hg : B ≤ g) (cs : Array Value) : Below B w (w'.setRow g cs) :=
  ⟨h.os, h.tape, h.output, by simp; exact h.size, fun i hi => (setRow_other w' g i cs (by omega)).trans (h.block i hi)⟩

/-- Block g is just these cells, of element type t, and may be written. -/
def Blok (w : World) (g : Nat) (t : TypeId) (cs : List Value) : Prop := w.heap[g]? = some (.cells cs.toArray t (0, 0))
section
variable {w w' : World} {g : Nat} {t : TypeId} {cs : List Value}
theorem Blok.size (h : Blok w g t cs) : g < w.heap.size := (Array.getElem?_eq_some_iff.1 h).1
theorem Blok.cell (h : Blok w g t cs) (i : Nat) : w.cell? ⟨g, i, none⟩ = cs[i]? := by
  rw [cell_of_row w g i cs.toArray t (0, 0) h]; simp
theorem Blok.free (h : Blok w g t cs) (i : Nat) : w.frozen? ⟨g, i, none⟩ = false := frozen_of_row w g i cs.toArray t h
theorem Blok.new (w : World) (t : TypeId) (cs : List Value) : Blok (w.alloc (.cells cs.toArray t)) w.heap.size t cs := heap_alloc_new w _
theorem Blok.drewN (h : Blok w g t cs) (n : Nat) : Blok (w.drewN n) g t cs := h
theorem Blok.alloc (h : Blok w g t cs) (o : Obj) : Blok (w.alloc o) g t cs := (Below.heap_alloc w o g h.size).trans h
theorem Blok.below {B : Nat} (h : Blok w g t cs) (hb : Below B w w') (hg : g < B) : Blok w' g t cs := (hb.block g hg).trans h
theorem Blok.far (h : Blok w g t cs) {p : Addr} (hp : g ≠ p.block) (u : Value) : Blok (w.setCell p u) g t cs := (heap_setCell_other w p g u hp).trans h
theorem Blok.put (h : Blok w g t cs) (i : Nat) (u : Value) : Blok (w.setCell ⟨g, i, none⟩ u) g t (cs.set i u) := by
  have := heap_setCell_same w g i cs.toArray t u h
  unfold Blok
  rw [this]
  congr 2
  simp
theorem Blok.setRow (h : Blok w g t cs) (cs' : List Value) : Blok (w.setRow g cs'.toArray) g t cs' := setRow_heap w g _ _ t _ h
theorem Blok.setRow_far (h : Blok w g t cs) {k : Nat} (hk : g ≠ k) (cs' : Array Value) : Blok (w.setRow k cs') g t cs := (setRow_other w k g cs' hk).trans h
end

theorem own_below {w w' : World} {base B : Nat} {e : TypeId} {size n : Nat} {v : Value} {xs : List Value} (h : w.ownsRow base e size v n xs) (hb : Below B w w') (hB : w.heap.size ≤ B) : w'.ownsRow base e size v n xs := by
  refine ⟨h.1, ?_⟩
  rcases h.2 with h2 | ⟨g, cap, cur, hv, hg, hh, r⟩
  · exact .inl h2
  · exact .inr ⟨g, cap, cur, hv, hg, (hb.block g (by have := (Array.getElem?_eq_some_iff.1 hh).1; omega)).trans hh, r⟩

theorem bcell {B : Nat} {w w1 : World} (hb : Below B w w1) {b o : Nat} {v : Value} (h : b < B) (hc : w.cell? ⟨b, o, none⟩ = some v) : w1.cell? ⟨b, o, none⟩ = some v := (hb.cell (p := ⟨b, o, none⟩) h).trans hc
end Go.Proofs.Ytcbdcdpoackplaa
