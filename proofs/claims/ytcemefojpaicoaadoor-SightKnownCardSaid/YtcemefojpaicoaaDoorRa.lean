/- Raw lines: any numbers, wherever their lists lie; what is wrong with them first. -/
import Derived.Test.YtcemefojpaicoaaDoorB
namespace Go.Proofs.YtcemefojpaicoaaDoor
open Go.RowKit

structure RShape where
  letter : Int
  strokes : Int
structure RHand where
  low : Int
  high : Int
  shapes : List RShape
structure RLight where
  shows : Int
  seen : Int
structure RLine where
  hands : List RHand
  worn : Int
  scr : Int
  total : Int
  squares : List (List RLight)

/-- A slice value of n elements: nil, or at an address; where there is an element it lies below block B, and R holds of it. -/
def RSl (B : Nat) (v : Value) (n : Nat) (R : Addr → Prop) : Prop :=
  (v = .slice none 0 0 ∧ n = 0) ∨ ∃ (x : Addr) (c : Nat), v = .slice (some x) n c ∧ (0 < n → x.block < B ∧ R x)
theorem RSl.form {B : Nat} {v : Value} {n : Nat} {R : Addr → Prop} (h : RSl B v n R) : ∃ A c, v = .slice A n c ∧ (0 < n → ∃ x : Addr, A = some x ∧ x.block < B ∧ R x) := by
  rcases h with ⟨rfl, rfl⟩ | ⟨x, c, rfl, h⟩
  · exact ⟨none, 0, rfl, fun h => by omega⟩
  · exact ⟨some x, c, rfl, fun hn => ⟨x, rfl, h hn⟩⟩
theorem RSl.mono {B B' : Nat} {v : Value} {n : Nat} {R R' : Addr → Prop} (h : RSl B v n R) (hB : B ≤ B') (hR : ∀ x : Addr, x.block < B → R x → R' x) : RSl B' v n R' := by
  rcases h with h | ⟨x, c, rfl, h⟩
  · exact .inl h
  · exact .inr ⟨x, c, rfl, fun hn => ⟨by have := (h hn).1; omega, hR x (h hn).1 (h hn).2⟩⟩
theorem Addr.add_block (x : Addr) (n : Nat) : (x.add n).block = x.block := by unfold Addr.add; split <;> rfl
theorem Addr.add0 (x : Addr) : x.add 0 = x := by simp [Addr.add]
theorem Addr.nth (x : Addr) (n j : Nat) : (⟨(x.add n).block, (x.add n).off + (j + 1), none⟩ : Addr) = x.add (n + (j + 1)) := by
  unfold Addr.add
  by_cases h : n = 0
  · subst h; simp
  · rw [if_neg h, if_neg (by omega)]
    simp; omega
/-- What lies below block B is as it was, at whatever address. -/
def SameA (B : Nat) (w w' : World) : Prop := ∀ x : Addr, x.block < B → w'.cell? x = w.cell? x
theorem SameA.of_below {B : Nat} {w w' : World} (h : Below B w w') : SameA B w w' := fun _ hb => h.cell hb
def rlightsR (w : World) (q : List RLight) (x : Addr) : Prop :=
  ∀ k y, q[k]? = some y → w.cell? (x.add (k * 2)) = some (.int .i64 y.shows) ∧ w.cell? (x.add (k * 2 + 1)) = some (.int .i64 y.seen)
def RLights (w : World) (B : Nat) (v : Value) (q : List RLight) : Prop := RSl B v q.length (rlightsR w q)
def rshapesR (w : World) (s : List RShape) (x : Addr) : Prop :=
  ∀ k y, s[k]? = some y → w.cell? (x.add (k * 2)) = some (.int .u8 y.letter) ∧ w.cell? (x.add (k * 2 + 1)) = some (.int .i64 y.strokes)
def RShapes (w : World) (B : Nat) (v : Value) (s : List RShape) : Prop := RSl B v s.length (rshapesR w s)
def rhandsR (w : World) (B : Nat) (s : List RHand) (x : Addr) : Prop :=
  ∀ k y, s[k]? = some y → w.cell? (x.add (k * 3)) = some (.int .i64 y.low) ∧ w.cell? (x.add (k * 3 + 1)) = some (.int .i64 y.high) ∧
    ∃ v, w.cell? (x.add (k * 3 + 2)) = some v ∧ RShapes w B v y.shapes
def RHands (w : World) (B : Nat) (v : Value) (s : List RHand) : Prop := RSl B v s.length (rhandsR w B s)
def rsquaresR (w : World) (B : Nat) (s : List (List RLight)) (x : Addr) : Prop :=
  ∀ k y, s[k]? = some y → ∃ v, w.cell? (x.add k) = some v ∧ RLights w B v y
def RSquares (w : World) (B : Nat) (v : Value) (s : List (List RLight)) : Prop := RSl B v s.length (rsquaresR w B s)
def RLineAt (w : World) (B : Nat) (v : Value) (L : RLine) : Prop :=
  ∃ vh vs, v = .agg #[vh, .int .i64 L.worn, .int .i64 L.scr, .int .i64 L.total, vs] ∧ RHands w B vh L.hands ∧ RSquares w B vs L.squares
section
variable {w w' : World} {B B' : Nat} {v : Value}
theorem RLights.keep {q : List RLight} (h : RLights w B v q) (hs : SameA B w w') (hB : B ≤ B') : RLights w' B' v q :=
  RSl.mono h hB fun x hb hr k y hy => ⟨(hs _ (by rw [Addr.add_block]; exact hb)).trans (hr k y hy).1, (hs _ (by rw [Addr.add_block]; exact hb)).trans (hr k y hy).2⟩
theorem RShapes.keep {q : List RShape} (h : RShapes w B v q) (hs : SameA B w w') (hB : B ≤ B') : RShapes w' B' v q :=
  RSl.mono h hB fun x hb hr k y hy => ⟨(hs _ (by rw [Addr.add_block]; exact hb)).trans (hr k y hy).1, (hs _ (by rw [Addr.add_block]; exact hb)).trans (hr k y hy).2⟩
theorem RHands.keep {q : List RHand} (h : RHands w B v q) (hs : SameA B w w') (hB : B ≤ B') : RHands w' B' v q :=
  RSl.mono h hB fun x hb hr k y hy => by
    obtain ⟨h1, h2, u, h3, h4⟩ := hr k y hy
    exact ⟨(hs _ (by rw [Addr.add_block]; exact hb)).trans h1, (hs _ (by rw [Addr.add_block]; exact hb)).trans h2, u, (hs _ (by rw [Addr.add_block]; exact hb)).trans h3, h4.keep hs hB⟩
theorem RSquares.keep {q : List (List RLight)} (h : RSquares w B v q) (hs : SameA B w w') (hB : B ≤ B') : RSquares w' B' v q :=
  RSl.mono h hB fun x hb hr k y hy => by
    obtain ⟨u, h3, h4⟩ := hr k y hy
    exact ⟨u, (hs _ (by rw [Addr.add_block]; exact hb)).trans h3, h4.keep hs hB⟩
theorem RLineAt.keep {L : RLine} (h : RLineAt w B v L) (hs : SameA B w w') (hB : B ≤ B') : RLineAt w' B' v L := by
  obtain ⟨vh, vs, rfl, h1, h2⟩ := h
  exact ⟨vh, vs, rfl, h1.keep hs hB, h2.keep hs hB⟩
end

/-- The first of n numbers that is not 0. -/
def firstOf (f : Nat → Int) : Nat → Int
  | 0 => 0
  | n + 1 => if firstOf f n = 0 then f n else firstOf f n
theorem firstOf_zero {f : Nat → Int} {n : Nat} (h : ∀ k, k < n → f k = 0) : firstOf f n = 0 := by
  induction n with
  | zero => rfl
  | succ n ih => rw [firstOf, if_pos (ih fun k hk => h k (by omega)), h n (by omega)]
theorem firstOf_at {f : Nat → Int} {n k : Nat} (hk : k < n) (h : firstOf f k = 0) (hf : f k ≠ 0) : firstOf f n = f k := by
  induction n with
  | zero => omega
  | succ n ih =>
    by_cases e : k = n
    · subst e; rw [firstOf, if_pos h]
    · have := ih (by omega)
      rw [firstOf, if_neg (by rw [this]; exact hf), this]
theorem firstOf_iff {f : Nat → Int} {n : Nat} : firstOf f n = 0 ↔ ∀ k, k < n → f k = 0 := by
  constructor
  · induction n with
    | zero => intro _ k hk; omega
    | succ n ih =>
      intro h k hk
      rw [firstOf] at h
      by_cases e : firstOf f n = 0
      · rw [if_pos e] at h
        by_cases e2 : k = n
        · subst e2; exact h
        · exact ih e k (by omega)
      · rw [if_neg e] at h
        exact absurd h e
  · exact firstOf_zero
/-- What is wrong with a letter. -/
def shapeErr (S : List RShape) (k : Nat) : Int :=
  let s := S.getD k ⟨0, 0⟩
  if outB s.letter 65 90 = true then 8 else if outB s.strokes 1 1023 = true then 1 else if 0 < k ∧ s.letter ≤ (S.getD (k - 1) ⟨0, 0⟩).letter then 5 else 0
def handErr (h : RHand) : Int :=
  if outB h.low (-3000) 3000 = true ∨ outB h.high (-3000) 3000 = true then 1 else if h.high < h.low then 5 else if countE h.shapes.length 1 8 ≠ 0 then countE h.shapes.length 1 8 else firstOf (shapeErr h.shapes) h.shapes.length
def lightErr (x : RLight) : Int :=
  if outB x.shows 0 1023 = true ∨ outB x.seen 0 1023 = true then 1 else if diff x.seen.toNat x.shows.toNat ≠ 0 then 2 else 0
def squareErr (q : List RLight) : Int := if 4 < q.length then 6 else firstOf (fun k => lightErr (q.getD k ⟨0, 0⟩)) q.length
def lineErr (L : RLine) : Int :=
  if countE L.hands.length 1 4 ≠ 0 then countE L.hands.length 1 4
  else if firstOf (fun k => handErr (L.hands.getD k ⟨0, 0, []⟩)) L.hands.length ≠ 0 then firstOf (fun k => handErr (L.hands.getD k ⟨0, 0, []⟩)) L.hands.length
  else if outB L.worn 0 10 = true ∨ outB L.scr 0 10 = true ∨ outB L.total 0 40 = true then 1
  else if countE L.squares.length 1 8 ≠ 0 then countE L.squares.length 1 8
  else firstOf (fun k => squareErr (L.squares.getD k [])) L.squares.length
end Go.Proofs.YtcemefojpaicoaaDoor
