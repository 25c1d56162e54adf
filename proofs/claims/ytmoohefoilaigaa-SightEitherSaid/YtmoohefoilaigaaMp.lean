/- SightMore: years with more known; a law's line and another one beside it. -/
import Derived.Test.YtmoohefoilaigaaTp
import Derived.Test.YtmoohefoilaigaaMo
import Derived.Test.YtmoohefoilaigaaIw
import Derived.Test.YtmoohefoilaigaaYn
import Derived.Test.YtmoohefoilaigaaCp
import Derived.Test.YtmoohefoilaigaaSp
namespace Go.Proofs.Ytmoohefoilaigaa
open Go.RowKit Go.Shelf

theorem lowTo_in (L : Line) : ∀ (hs : List Nat) (a : Int), lowTo L a hs = a ∨ ∃ h ∈ hs, lowTo L a hs = lowOf L h := by
  intro hs
  induction hs with
  | nil => intro a; exact .inl rfl
  | cons x hs ih =>
    intro a
    have e : lowTo L a (x :: hs) = lowTo L (min a (lowOf L x)) hs := rfl
    rw [e]
    rcases ih (min a (lowOf L x)) with h | ⟨y, hy, h⟩
    · rw [h]
      rcases Int.le_total a (lowOf L x) with h1 | h1
      · left; omega
      · right; exact ⟨x, by simp, by omega⟩
    · exact .inr ⟨y, by simp [hy], h⟩
theorem highTo_in (L : Line) : ∀ (hs : List Nat) (a : Int), highTo L a hs = a ∨ ∃ h ∈ hs, highTo L a hs = highOf L h := by
  intro hs
  induction hs with
  | nil => intro a; exact .inl rfl
  | cons x hs ih =>
    intro a
    have e : highTo L a (x :: hs) = highTo L (max a (highOf L x)) hs := rfl
    rw [e]
    rcases ih (max a (highOf L x)) with h | ⟨y, hy, h⟩
    · rw [h]
      rcases Int.le_total a (highOf L x) with h1 | h1
      · right; exact ⟨x, by simp, by omega⟩
      · left; omega
    · exact .inr ⟨y, by simp [hy], h⟩
theorem years_in {L : Line} (h : handsOf L ≠ []) : (∃ k ∈ handsOf L, (yearsOf L).1 = lowOf L k) ∧ ∃ k ∈ handsOf L, (yearsOf L).2 = highOf L k := by
  unfold yearsOf
  cases hl : handsOf L with
  | nil => exact absurd hl h
  | cons x hs =>
    refine ⟨?_, ?_⟩
    · rcases lowTo_in L hs (lowOf L x) with e | ⟨y, hy, e⟩
      · exact ⟨x, by simp, e⟩
      · exact ⟨y, by simp [hy], e⟩
    · rcases highTo_in L hs (highOf L x) with e | ⟨y, hy, e⟩
      · exact ⟨x, by simp, e⟩
      · exact ⟨y, by simp [hy], e⟩
theorem More.years {X L : Line} (h : More X L) (hx : handsOf X ≠ []) : (yearsOf L).1 ≤ (yearsOf X).1 ∧ (yearsOf X).2 ≤ (yearsOf L).2 := by
  obtain ⟨⟨a, ha, ea⟩, b, hb, eb⟩ := years_in hx
  obtain ⟨k1, H1, m1, x1, l1⟩ := h.hands ha
  obtain ⟨k2, H2, m2, x2, l2⟩ := h.hands hb
  have y1 := (years_hand m1).1
  have y2 := (years_hand m2).2
  rw [low_at l1] at y1
  rw [high_at l2] at y2
  rw [ea, eb, low_at x1, high_at x2]
  exact ⟨y1, y2⟩
theorem More.byte {X L : Line} (h : More X L) {k : Nat} (hk : k < L.squares.length) {x y : ByteArray} (hx : (lettersOf X)[k]? = some x) (hy : (lettersOf L)[k]? = some y) : ∀ u ∈ x.data.toList, u ∈ y.data.toList := by
  intro u hu
  rw [letters_at X k (by rw [h.sq]; exact hk)] at hx
  rw [letters_at L k hk] at hy
  injection hx with hx
  injection hy with hy
  subst hx hy
  obtain ⟨z, hz, e⟩ := mem_orderText.1 hu
  exact mem_orderText.2 ⟨z, h.letters hk hz, e⟩
theorem letters_size {L : Line} {k : Nat} {x : ByteArray} (hx : (lettersOf L)[k]? = some x) : x.size ≤ 256 := by
  have hk : k < L.squares.length := by
    have := (List.getElem?_eq_some_iff.1 hx).1
    simpa [lettersOf] using this
  rw [letters_at L k hk] at hx
  injection hx with hx
  rw [← hx]
  exact orderText_le _

/-- What is so of the other line while it is being changed: what lay there when it was made lies there yet, but for the urn. -/
def XI (g : Nat) (W wr : World) (xb : Nat) (vh vs : Value) (X : Line) : Prop :=
  Kg g W wr ∧ UrnAt wr g ∧ Blok wr xb 25 [vh, .int .i64 X.worn, .int .i64 X.scr, .int .i64 X.total, vs] ∧ HandsB wr vh X.hands ∧ SquaresB wr vs X.squares ∧ W.heap.size ≤ xb
/-- A line of a law, what is true of it, and another line. -/
def Two (w : World) (lb g : Nat) (vh vs vv : Value) (L : Line) (hand : Nat) (lts : ByteArray) (xb : Nat) (xh xs : Value) (X : Line) (wr : World) : Prop :=
  TrueI w lb g vh vs vv L hand lts wr ∧ Blok wr xb 25 [xh, .int .i64 X.worn, .int .i64 X.scr, .int .i64 X.total, xs] ∧ HandsB wr xh X.hands ∧ SquaresB wr xs X.squares
section
variable {w wr w' : World} {lb g hand xb : Nat} {vh vs vv xh xs : Value} {L X : Line} {lts : ByteArray}
theorem Two.below (h : Two w lb g vh vs vv L hand lts xb xh xs X wr) (hb : Below wr.heap.size wr w') : Two w lb g vh vs vv L hand lts xb xh xs X w' :=
  ⟨h.1.below hb, h.2.1.below hb h.2.1.size, h.2.2.1.below hb, h.2.2.2.below hb⟩
theorem Two.alloc (h : Two w lb g vh vs vv L hand lts xb xh xs X wr) (o : Obj) : Two w lb g vh vs vv L hand lts xb xh xs X (wr.alloc o) := h.below ((Below.refl _ _).alloc (Nat.le_refl _) _)
theorem Two.lineX (h : Two w lb g vh vs vv L hand lts xb xh xs X wr) : LineAt wr wr.heap.size (.agg #[xh, .int .i64 X.worn, .int .i64 X.scr, .int .i64 X.total, xs]) X := ⟨xh, xs, rfl, h.2.2.1.hands, h.2.2.2.squares⟩
theorem Two.lineL (h : Two w lb g vh vs vv L hand lts xb xh xs X wr) : LineAt wr wr.heap.size (.agg #[vh, .int .i64 L.worn, .int .i64 L.scr, .int .i64 L.total, vs]) L := h.1.1.line
theorem Two.of {W : World} (h : TrueI w lb g vh vs vv L hand lts W) (hx : XI g W wr xb xh xs X) (hg : w.heap.size ≤ g) : Two w lb g vh vs vv L hand lts xb xh xs X wr := ⟨h.kg hx.1 hx.2.1 hg, hx.2.2.1, hx.2.2.2.1, hx.2.2.2.2.1⟩
end
end Go.Proofs.Ytmoohefoilaigaa
