/- What package sight computes, said of plain lists and numbers: no memory, no program. -/
import Derived.Lib.BitFns
namespace Go.Proofs.YtcemefojpaicoaaDoor

/-- How many strokes a set below 65536 has, as the table of bytes says it. -/
def pc (x : Nat) : Nat := Lib.onesCount (x / 256) + Lib.onesCount (x % 256)
theorem ones_le (n : Nat) (h : n < 256) : Lib.onesCount n ≤ 8 := by
  have key : ∀ n : Fin 256, Lib.onesCount n.val ≤ 8 := by decide +kernel
  exact key ⟨n, h⟩
theorem pc_le (x : Nat) (h : x < 65536) : pc x ≤ 16 := by
  have a := ones_le (x / 256) (by omega)
  have b := ones_le (x % 256) (by omega)
  unfold pc
  omega
/-- What a set has and another one does not have. -/
def diff (a b : Nat) : Nat := a ^^^ (a &&& b)
theorem diff_lt (a b j : Nat) (ha : a < 2 ^ j) : diff a b < 2 ^ j := Nat.xor_lt_two_pow ha (Nat.lt_of_le_of_lt Nat.and_le_left ha)

structure Shape where
  letter : Nat
  strokes : Nat
structure Hand where
  low : Int
  high : Int
  shapes : List Shape
structure Light where
  shows : Nat
  seen : Nat
structure Line where
  hands : List Hand
  worn : Nat
  scr : Nat
  total : Nat
  squares : List (List Light)

/-- Bounds of what a light, a shape, a hand and a line hold. -/
def Light.ok (x : Light) : Prop := x.shows < 1024 ∧ x.seen < 1024 ∧ diff x.seen x.shows = 0
def Shape.ok (s : Shape) : Prop := 65 ≤ s.letter ∧ s.letter ≤ 90 ∧ 1 ≤ s.strokes ∧ s.strokes < 1024
def Hand.ok (h : Hand) : Prop :=
  -3000 ≤ h.low ∧ h.low ≤ h.high ∧ h.high ≤ 3000 ∧ 1 ≤ h.shapes.length ∧ h.shapes.length ≤ 8 ∧ (∀ s ∈ h.shapes, s.ok) ∧ h.shapes.Pairwise fun a b => a.letter < b.letter
def Line.ok (L : Line) : Prop :=
  1 ≤ L.hands.length ∧ L.hands.length ≤ 4 ∧ (∀ h ∈ L.hands, h.ok) ∧ L.worn ≤ 10 ∧ L.scr ≤ 10 ∧ L.total ≤ 40 ∧ 1 ≤ L.squares.length ∧ L.squares.length ≤ 8 ∧
    ∀ q ∈ L.squares, q.length ≤ 4 ∧ ∀ x ∈ q, x.ok

/-- What was seen in some light, and what was not seen in a light that shows it. -/
def vis (q : List Light) : Nat := q.foldl (fun a x => a ||| x.seen) 0
def hidn (q : List Light) : Nat := q.foldl (fun a x => a ||| diff x.shows x.seen) 0
theorem vis_snoc (q : List Light) (x : Light) : vis (q ++ [x]) = vis q ||| x.seen := by simp [vis]
theorem hidn_snoc (q : List Light) (x : Light) : hidn (q ++ [x]) = hidn q ||| diff x.shows x.seen := by simp [hidn]
theorem vis_lt (q : List Light) (h : ∀ x ∈ q, x.seen < 1024) : vis q < 1024 := by
  have key : ∀ (q : List Light) (a : Nat), a < 1024 → (∀ x ∈ q, x.seen < 1024) → q.foldl (fun a x => a ||| x.seen) a < 1024 := by
    intro q
    induction q with
    | nil => intro a ha _; exact ha
    | cons x q ih =>
      intro a ha hq
      exact ih _ (Nat.or_lt_two_pow (n := 10) ha (hq x (by simp))) fun y hy => hq y (by simp [hy])
  exact key q 0 (by omega) h
theorem hidn_lt (q : List Light) (h : ∀ x ∈ q, x.shows < 1024) : hidn q < 1024 := by
  have key : ∀ (q : List Light) (a : Nat), a < 1024 → (∀ x ∈ q, x.shows < 1024) → q.foldl (fun a x => a ||| diff x.shows x.seen) a < 1024 := by
    intro q
    induction q with
    | nil => intro a ha _; exact ha
    | cons x q ih =>
      intro a ha hq
      exact ih _ (Nat.or_lt_two_pow (n := 10) ha (diff_lt _ _ 10 (hq x (by simp)))) fun y hy => hq y (by simp [hy])
  exact key q 0 (by omega) h

/-- How many marks a letter with some strokes needs in a square at least; 81 if it cannot be there. -/
def cost (wn sc : Nat) (q : List Light) (s : Nat) : Nat :=
  if 0 < pc (vis q &&& hidn q) ∨ sc < pc (diff (vis q) s) ∨ wn < pc (hidn q &&& s) then 81 else pc (diff (vis q) s) + pc (hidn q &&& s)
theorem cost_le (wn sc : Nat) (q : List Light) (s : Nat) (hv : vis q < 1024) (hh : hidn q < 1024) : cost wn sc q s ≤ 81 := by
  have a := pc_le (diff (vis q) s) (Nat.lt_trans (diff_lt _ _ 10 hv) (by decide))
  have b := pc_le (hidn q &&& s) (Nat.lt_of_le_of_lt Nat.and_le_left (by omega))
  unfold cost
  split <;> omega

theorem cost_con {wn sc : Nat} {q : List Light} {s : Nat} (h : 0 < pc (vis q &&& hidn q)) : cost wn sc q s = 81 := by unfold cost; rw [if_pos (.inl h)]
theorem cost_scr {wn sc : Nat} {q : List Light} {s : Nat} (h : sc < pc (diff (vis q) s)) : cost wn sc q s = 81 := by unfold cost; rw [if_pos (.inr (.inl h))]
theorem cost_worn {wn sc : Nat} {q : List Light} {s : Nat} (h : wn < pc (hidn q &&& s)) : cost wn sc q s = 81 := by unfold cost; rw [if_pos (.inr (.inr h))]
theorem cost_sum {wn sc : Nat} {q : List Light} {s : Nat} (h0 : ¬ 0 < pc (vis q &&& hidn q)) (h1 : ¬ sc < pc (diff (vis q) s)) (h2 : ¬ wn < pc (hidn q &&& s)) : cost wn sc q s = pc (diff (vis q) s) + pc (hidn q &&& s) := by
  unfold cost
  rw [if_neg (by omega)]

/-- The least of some numbers. -/
def leastOf (a : Nat) (l : List Nat) : Nat := l.foldl min a
theorem leastOf_le (l : List Nat) (a : Nat) : leastOf a l ≤ a := by
  unfold leastOf
  induction l generalizing a with
  | nil => exact Nat.le_refl _
  | cons x l ih => exact Nat.le_trans (ih _) (Nat.min_le_left _ _)
theorem leastOf_snoc (a : Nat) (l : List Nat) (x : Nat) : leastOf a (l ++ [x]) = min (leastOf a l) x := by simp [leastOf]

/-- A hand's letters, and what each needs in each square. -/
structure Cutter where
  shapes : List Shape
  need : Nat → Nat → Nat
def Cutter.ok (c : Cutter) : Prop := 1 ≤ c.shapes.length ∧ c.shapes.length ≤ 8 ∧ (∀ s ∈ c.shapes, s.ok) ∧ ∀ q i, c.need q i ≤ 81
def Cutter.row (c : Cutter) (q : Nat) : List Nat := (List.range c.shapes.length).map (c.need q)
def Cutter.fewest (c : Cutter) (q : Nat) : Nat := leastOf 81 (c.row q)
theorem Cutter.fewest_le (c : Cutter) (q : Nat) : c.fewest q ≤ 81 := leastOf_le _ _
/-- The cutter of a hand's letters on a line. -/
def cutterOf (L : Line) (S : List Shape) : Cutter := ⟨S, fun q i => cost L.worn L.scr (L.squares.getD q []) (S.getD i ⟨0, 0⟩).strokes⟩
theorem cutterOf_need (L : Line) (S : List Shape) (q i : Nat) : (cutterOf L S).need q i = cost L.worn L.scr (L.squares.getD q []) (S.getD i ⟨0, 0⟩).strokes := by
  simp only [cutterOf]
theorem need_le (L : Line) (hL : L.ok) (S : List Shape) (q i : Nat) : (cutterOf L S).need q i ≤ 81 := by
  rw [cutterOf_need]
  generalize (S.getD i ⟨0, 0⟩).strokes = s
  rcases Nat.lt_or_ge q L.squares.length with hq | hq
  · rw [show L.squares.getD q [] = L.squares[q] by simp [List.getD, hq]]
    have h := (hL.2.2.2.2.2.2.2.2 L.squares[q] (List.getElem_mem hq)).2
    exact cost_le _ _ _ s (vis_lt _ fun x hx => (h x hx).2.1) (hidn_lt _ fun x hx => (h x hx).1)
  · rw [show L.squares.getD q [] = [] by simp [List.getD, hq]]
    exact cost_le _ _ _ s (by simp [vis]) (by simp [hidn])
theorem cutterOf_ok (L : Line) (hL : L.ok) : ∀ c ∈ L.hands.map fun h => cutterOf L h.shapes, c.ok := by
  intro c hc
  obtain ⟨h, hh, rfl⟩ := List.mem_map.1 hc
  have ho := hL.2.2.1 h hh
  exact ⟨ho.2.2.2.1, ho.2.2.2.2.1, ho.2.2.2.2.2.1, fun q i => need_le L hL h.shapes q i⟩
def cuttersOf (L : Line) : List Cutter := L.hands.map fun h => cutterOf L h.shapes
theorem cuttersOf_snoc (L : Line) (k : Nat) (h : Hand) (hh : L.hands[k]? = some h) : (cuttersOf L).take (k + 1) = (cuttersOf L).take k ++ [cutterOf L h.shapes] := by
  obtain ⟨hk, e⟩ := List.getElem?_eq_some_iff.1 hh
  unfold cuttersOf
  rw [List.take_succ_eq_append_getElem (by simpa using hk)]
  simp [e]
end Go.Proofs.YtcemefojpaicoaaDoor
