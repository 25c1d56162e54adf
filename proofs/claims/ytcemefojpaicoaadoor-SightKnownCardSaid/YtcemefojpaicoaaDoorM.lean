/- How lines lie in memory: slices of lights, shapes, hands and squares that read as plain lists. -/
import Derived.Test.YtcemefojpaicoaaDoorS
import Derived.Below
import Derived.Deep.Draws
import Derived.Laws.OwnMore
import Derived.WalkSmall
import Derived.Deep.MidRow
namespace Go.Proofs.YtcemefojpaicoaaDoor
open Go.RowKit

/-- A slice value of n elements; where there is an element it starts at cell o of block b, b below B, and R holds of b and o. -/
def Sl (B : Nat) (v : Value) (n : Nat) (R : Nat → Nat → Prop) : Prop :=
  ∃ A c, v = .slice A n c ∧ (0 < n → ∃ b o, A = some ⟨b, o, none⟩ ∧ b < B ∧ R b o)
theorem Sl.mono {B B' : Nat} {v : Value} {n : Nat} {R R' : Nat → Nat → Prop} (h : Sl B v n R) (hB : B ≤ B') (hR : ∀ b o, b < B → R b o → R' b o) : Sl B' v n R' := by
  obtain ⟨A, c, rfl, h⟩ := h
  exact ⟨A, c, rfl, fun hn => by obtain ⟨b, o, rfl, hb, hr⟩ := h hn; exact ⟨b, o, rfl, by omega, hR b o hb hr⟩⟩

/-- What lies below block B is as it was. -/
def Same (B : Nat) (w w' : World) : Prop := ∀ b o, b < B → w'.cell? ⟨b, o, none⟩ = w.cell? ⟨b, o, none⟩
theorem Same.of_below {B : Nat} {w w' : World} (h : Below B w w') : Same B w w' := fun _ _ hb => h.cell (p := ⟨_, _, none⟩) hb
theorem Same.mono {B B' : Nat} {w w' : World} (h : Same B w w') (hB : B' ≤ B) : Same B' w w' := fun b o hb => h b o (by omega)
theorem Same.trans {B : Nat} {w w' w'' : World} (h : Same B w w') (h' : Same B w' w'') : Same B w w'' := fun b o hb => (h' b o hb).trans (h b o hb)
theorem Same.refl (B : Nat) (w : World) : Same B w w := fun _ _ _ => rfl

theorem Same.of_two {B : Nat} {a w w' : World} (h : Below B a w) (h' : Below B a w') : Same B w w' := fun _ _ hb => (h'.cell (p := ⟨_, _, none⟩) hb).trans (h.cell (p := ⟨_, _, none⟩) hb).symm

def lightsR (w : World) (q : List Light) (b o : Nat) : Prop :=
  ∀ k x, q[k]? = some x → w.cell? ⟨b, o + k * 2, none⟩ = some (.int .i64 x.shows) ∧ w.cell? ⟨b, o + k * 2 + 1, none⟩ = some (.int .i64 x.seen)
def Lights (w : World) (B : Nat) (v : Value) (q : List Light) : Prop := Sl B v q.length (lightsR w q)
def shapesR (w : World) (s : List Shape) (b o : Nat) : Prop :=
  ∀ k x, s[k]? = some x → w.cell? ⟨b, o + k * 2, none⟩ = some (.int .u8 x.letter) ∧ w.cell? ⟨b, o + k * 2 + 1, none⟩ = some (.int .i64 x.strokes)
def Shapes (w : World) (B : Nat) (v : Value) (s : List Shape) : Prop := Sl B v s.length (shapesR w s)
def handsR (w : World) (B : Nat) (s : List Hand) (b o : Nat) : Prop :=
  ∀ k x, s[k]? = some x → w.cell? ⟨b, o + k * 3, none⟩ = some (.int .i64 x.low) ∧ w.cell? ⟨b, o + k * 3 + 1, none⟩ = some (.int .i64 x.high) ∧
    ∃ v, w.cell? ⟨b, o + k * 3 + 2, none⟩ = some v ∧ Shapes w B v x.shapes
def Hands (w : World) (B : Nat) (v : Value) (s : List Hand) : Prop := Sl B v s.length (handsR w B s)
def squaresR (w : World) (B : Nat) (s : List (List Light)) (b o : Nat) : Prop :=
  ∀ k x, s[k]? = some x → ∃ v, w.cell? ⟨b, o + k, none⟩ = some v ∧ Lights w B v x
def Squares (w : World) (B : Nat) (v : Value) (s : List (List Light)) : Prop := Sl B v s.length (squaresR w B s)
/-- A line, as a value over memory below B. -/
def LineAt (w : World) (B : Nat) (v : Value) (L : Line) : Prop :=
  ∃ vh vs, v = .agg #[vh, .int .i64 L.worn, .int .i64 L.scr, .int .i64 L.total, vs] ∧ Hands w B vh L.hands ∧ Squares w B vs L.squares

section
variable {w w' : World} {B B' : Nat} {v : Value}
theorem Lights.keep {q : List Light} (h : Lights w B v q) (hs : Same B w w') (hB : B ≤ B') : Lights w' B' v q :=
  Sl.mono h hB fun _ _ hb hr k x hx => ⟨(hs _ _ hb).trans (hr k x hx).1, (hs _ _ hb).trans (hr k x hx).2⟩
theorem Shapes.keep {q : List Shape} (h : Shapes w B v q) (hs : Same B w w') (hB : B ≤ B') : Shapes w' B' v q :=
  Sl.mono h hB fun _ _ hb hr k x hx => ⟨(hs _ _ hb).trans (hr k x hx).1, (hs _ _ hb).trans (hr k x hx).2⟩
theorem Hands.keep {q : List Hand} (h : Hands w B v q) (hs : Same B w w') (hB : B ≤ B') : Hands w' B' v q :=
  Sl.mono h hB fun _ _ hb hr k x hx => by
    obtain ⟨h1, h2, u, h3, h4⟩ := hr k x hx
    exact ⟨(hs _ _ hb).trans h1, (hs _ _ hb).trans h2, u, (hs _ _ hb).trans h3, h4.keep hs hB⟩
theorem Squares.keep {q : List (List Light)} (h : Squares w B v q) (hs : Same B w w') (hB : B ≤ B') : Squares w' B' v q :=
  Sl.mono h hB fun _ _ hb hr k x hx => by
    obtain ⟨u, h3, h4⟩ := hr k x hx
    exact ⟨u, (hs _ _ hb).trans h3, h4.keep hs hB⟩
theorem LineAt.keep {L : Line} (h : LineAt w B v L) (hs : Same B w w') (hB : B ≤ B') : LineAt w' B' v L := by
  obtain ⟨vh, vs, rfl, h1, h2⟩ := h
  exact ⟨vh, vs, rfl, h1.keep hs hB, h2.keep hs hB⟩
end

theorem below_setRow {B g : Nat} {w w' : World} (h : Below B w w') (hg : B ≤ g) (cs : Array Value) : Below B w (w'.setRow g cs) :=
  ⟨h.os, h.tape, h.output, by simp; exact h.size, fun i hi => (setRow_other w' g i cs (by omega)).trans (h.block i hi)⟩

/-- Block g is just these cells, of element type t, and may be written. -/
def Blok (w : World) (g : Nat) (t : TypeId) (cs : List Value) : Prop := w.heap[g]? = some (.cells cs.toArray t (0, 0))
section
variable {w w' : World} {g : Nat} {t : TypeId} {cs : List Value}
theorem Blok.size (h : Blok w g t cs) : g < w.heap.size := (Array.getElem?_eq_some_iff.1 h).1
theorem Blok.cell (h : Blok w g t cs) (i : Nat) : w.cell? ⟨g, i, none⟩ = cs[i]? := by
  rw [cell_of_row w g i cs.toArray t (0, 0) h]; simp
theorem Blok.free (h : Blok w g t cs) (i : Nat) : w.frozen? ⟨g, i, none⟩ = false := frozen_of_row w g i cs.toArray t h
theorem Blok.new (w : World) (t : TypeId) (cs : List Value) : Blok (w.alloc (.cells cs.toArray t)) w.heap.size t cs := heap_alloc_new w _
theorem Blok.drewN (h : Blok w g t cs) (n : Nat) : Blok (w.drewN n) g t cs := h
theorem Blok.alloc (h : Blok w g t cs) (o : Obj) : Blok (w.alloc o) g t cs := (Below.heap_alloc w o g h.size).trans h
theorem Blok.below {B : Nat} (h : Blok w g t cs) (hb : Below B w w') (hg : g < B) : Blok w' g t cs := (hb.block g hg).trans h
theorem Blok.far (h : Blok w g t cs) {p : Addr} (hp : g ≠ p.block) (u : Value) : Blok (w.setCell p u) g t cs := (heap_setCell_other w p g u hp).trans h
theorem Blok.put (h : Blok w g t cs) (i : Nat) (u : Value) : Blok (w.setCell ⟨g, i, none⟩ u) g t (cs.set i u) := by
  have := heap_setCell_same w g i cs.toArray t u h
  unfold Blok
  rw [this]
  congr 2
  simp
theorem Blok.setRow (h : Blok w g t cs) (cs' : List Value) : Blok (w.setRow g cs'.toArray) g t cs' := setRow_heap w g _ _ t _ h
theorem Blok.setRow_far (h : Blok w g t cs) {k : Nat} (hk : g ≠ k) (cs' : Array Value) : Blok (w.setRow k cs') g t cs := (setRow_other w k g cs' hk).trans h
end

theorem own_below {w w' : World} {base B : Nat} {e : TypeId} {size n : Nat} {v : Value} {xs : List Value} (h : w.ownsRow base e size v n xs) (hb : Below B w w') (hB : w.heap.size ≤ B) : w'.ownsRow base e size v n xs := by
  refine ⟨h.1, ?_⟩
  rcases h.2 with h2 | ⟨g, cap, cur, hv, hg, hh, r⟩
  · exact .inl h2
  · exact .inr ⟨g, cap, cur, hv, hg, (hb.block g (by have := (Array.getElem?_eq_some_iff.1 hh).1; omega)).trans hh, r⟩

/-- 64 needs in a cutter: those of m squares and of the letters that there are. -/
def NeedCells (c : Cutter) (m : Nat) (N : List Value) : Prop :=
  N.length = 64 ∧ (∀ u ∈ N, u.oneCell' = true) ∧ ∀ q i : Nat, q < m → i < c.shapes.length → N[q * 8 + i]? = some (.int .i64 (c.need q i))
/-- As Sl, the block meeting a condition. -/
def SlP (P : Nat → Prop) (v : Value) (n : Nat) (R : Nat → Nat → Prop) : Prop :=
  ∃ A c, v = .slice A n c ∧ (0 < n → ∃ b o, A = some ⟨b, o, none⟩ ∧ P b ∧ R b o)
theorem Sl.toP {B : Nat} {P : Nat → Prop} {v : Value} {n : Nat} {R : Nat → Nat → Prop} (h : Sl B v n R) (hP : ∀ b, b < B → P b) : SlP P v n R := by
  obtain ⟨A, c, rfl, h⟩ := h
  exact ⟨A, c, rfl, fun hn => by obtain ⟨b, o, rfl, hb, hr⟩ := h hn; exact ⟨b, o, rfl, hP b hb, hr⟩⟩
theorem SlP.mono {P P' : Nat → Prop} {v : Value} {n : Nat} {R R' : Nat → Nat → Prop} (h : SlP P v n R) (hP : ∀ b, P b → P' b) (hR : ∀ b o, P b → R b o → R' b o) : SlP P' v n R' := by
  obtain ⟨A, c, rfl, h⟩ := h
  exact ⟨A, c, rfl, fun hn => by obtain ⟨b, o, rfl, hb, hr⟩ := h hn; exact ⟨b, o, rfl, hP b hb, hR b o hb hr⟩⟩
/-- The blocks that meet P are as they were. -/
def SameP (P : Nat → Prop) (w w' : World) : Prop := ∀ b o, P b → w'.cell? ⟨b, o, none⟩ = w.cell? ⟨b, o, none⟩
def ShapesP (w : World) (P : Nat → Prop) (v : Value) (s : List Shape) : Prop := SlP P v s.length (shapesR w s)
theorem ShapesP.keep {w w' : World} {P P' : Nat → Prop} {v : Value} {s : List Shape} (h : ShapesP w P v s) (hs : SameP P w w') (hP : ∀ b, P b → P' b) : ShapesP w' P' v s :=
  SlP.mono h hP fun _ _ hb hr k x hx => ⟨(hs _ _ hb).trans (hr k x hx).1, (hs _ _ hb).trans (hr k x hx).2⟩
theorem ShapesP.one {w : World} {P : Nat → Prop} {v : Value} {s : List Shape} (h : ShapesP w P v s) : v.oneCell' = true := by
  obtain ⟨A, c, rfl, _⟩ := h
  rfl
def cutsR (w : World) (P : Nat → Prop) (m : Nat) (cs : List Cutter) (b o : Nat) : Prop :=
  ∀ (k : Nat) (c : Cutter), cs[k]? = some c → ∃ sv N, w.rangeAt b (o + k * 65) (sv :: N) ∧ sv.oneCell' = true ∧ ShapesP w P sv c.shapes ∧ NeedCells c m N
/-- A slice of cutters in memory whose blocks meet P. -/
def Cuts (w : World) (P : Nat → Prop) (m : Nat) (v : Value) (cs : List Cutter) : Prop := SlP P v cs.length (cutsR w P m cs)
theorem Cuts.keep {w w' : World} {P P' : Nat → Prop} {m : Nat} {v : Value} {cs : List Cutter} (h : Cuts w P m v cs) (hs : SameP P w w') (hP : ∀ b, P b → P' b) : Cuts w' P' m v cs :=
  SlP.mono h hP fun _ _ hb hr k x hx => by
    obtain ⟨sv, N, h1, h2, h3, h4⟩ := hr k x hx
    exact ⟨sv, N, fun j u hu => (hs _ _ hb).trans (h1 j u hu), h2, h3.keep hs hP, h4⟩
theorem Shapes.one {w : World} {B : Nat} {v : Value} {s : List Shape} (h : Shapes w B v s) : v.oneCell' = true := by
  obtain ⟨A, c, rfl, _⟩ := h
  rfl

/-- The cells of some cutters, one after the other. -/
def CutCells (w : World) (B m : Nat) (cs : List Cutter) (xs : List Value) : Prop :=
  ∃ ps : List (List Value), xs = ps.flatten ∧ ps.length = cs.length ∧ (∀ p ∈ ps, p.length = 65) ∧
    ∀ (k : Nat) (c : Cutter) (p : List Value), cs[k]? = some c → ps[k]? = some p → ∃ sv N, p = sv :: N ∧ sv.oneCell' = true ∧ Shapes w B sv c.shapes ∧ NeedCells c m N
theorem flatten_at (L : Nat) : ∀ (ps : List (List Value)) (k j : Nat) (p : List Value), (∀ p ∈ ps, p.length = L) → ps[k]? = some p → j < L → ps.flatten[k * L + j]? = p[j]? := by
  intro ps
  induction ps with
  | nil => intro k j p _ h; simp at h
  | cons a ps ih =>
    intro k j p hl h hj
    have ha : a.length = L := hl a (by simp)
    rw [List.flatten_cons]
    cases k with
    | zero =>
      obtain rfl : a = p := by simpa using h
      rw [List.getElem?_append_left (by omega), Nat.zero_mul, Nat.zero_add]
    | succ k =>
      rw [List.getElem?_append_right (by rw [ha, Nat.succ_mul]; omega), ha, show (k + 1) * L + j - L = k * L + j by rw [Nat.succ_mul]; omega]
      exact ih k j p (fun p hp => hl p (by simp [hp])) (by simpa using h) hj
theorem CutCells.keep {w w' : World} {B B' m : Nat} {cs : List Cutter} {xs : List Value} (h : CutCells w B m cs xs) (hs : Same B w w') (hB : B ≤ B') : CutCells w' B' m cs xs := by
  obtain ⟨ps, h1, h2, h3, h4⟩ := h
  exact ⟨ps, h1, h2, h3, fun k c p hc hp => by
    obtain ⟨sv, N, e, h5, h6, h7⟩ := h4 k c p hc hp
    exact ⟨sv, N, e, h5, h6.keep hs hB, h7⟩⟩
theorem CutCells.nil (w : World) (B m : Nat) : CutCells w B m [] [] := ⟨[], rfl, rfl, by simp, by simp⟩
theorem CutCells.snoc {w : World} {B m : Nat} {cs : List Cutter} {xs : List Value} (h : CutCells w B m cs xs) {c : Cutter} {sv : Value} {N : List Value} (h1 : sv.oneCell' = true) (h2 : Shapes w B sv c.shapes) (h3 : NeedCells c m N) :
    CutCells w B m (cs ++ [c]) (xs ++ sv :: N) := by
  obtain ⟨ps, rfl, e2, e3, e4⟩ := h
  refine ⟨ps ++ [sv :: N], by simp, by simp [e2], ?_, ?_⟩
  · intro p hp
    rcases List.mem_append.1 hp with hp | hp
    · exact e3 p hp
    · obtain rfl : p = sv :: N := by simpa using hp
      simp [h3.1]
  · intro k c' p hc hp
    by_cases hk : k < cs.length
    · rw [List.getElem?_append_left hk] at hc
      rw [List.getElem?_append_left (by omega)] at hp
      exact e4 k c' p hc hp
    · have hk' : k = cs.length := by
        have := (List.getElem?_eq_some_iff.1 hc).1
        simp at this
        omega
      subst hk'
      rw [List.getElem?_append_right (Nat.le_refl _)] at hc
      rw [List.getElem?_append_right (by omega)] at hp
      obtain rfl : c = c' := by simpa using hc
      obtain rfl : sv :: N = p := by simpa [e2] using hp
      exact ⟨sv, N, rfl, h1, h2, h3⟩
theorem Cuts.of_own {w : World} {B base m : Nat} {t : TypeId} {v : Value} {cs : List Cutter} {xs : List Value} (h : w.ownsRow base t 65 v cs.length xs) (hc : CutCells w B m cs xs) :
    Cuts w (fun k => k < B ∨ base ≤ k ∧ k < w.heap.size) m v cs := by
  obtain ⟨ps, rfl, e2, e3, e4⟩ := hc
  rcases h.2 with ⟨rfl, hn⟩ | ⟨g, cap, cur, rfl, hbg, hg, hcap, _, hsz, htake⟩
  · exact ⟨none, 0, by rw [hn], fun h0 => by omega⟩
  · refine ⟨_, _, rfl, fun _ => ⟨g, 0, rfl, .inr ⟨hbg, (Array.getElem?_eq_some_iff.1 hg).1⟩, fun k c hk => ?_⟩⟩
    have hkl : k < ps.length := by rw [e2]; exact (List.getElem?_eq_some_iff.1 hk).1
    obtain ⟨sv, N, e, h5, h6, h7⟩ := e4 k c ps[k] hk (List.getElem?_eq_getElem hkl)
    refine ⟨sv, N, fun j u hu => ?_, h5, Sl.toP h6 fun _ hb => .inl hb, h7⟩
    have hj : j < 65 := by
      have := (List.getElem?_eq_some_iff.1 hu).1
      simp [h7.1] at this
      exact this
    rw [cell_of_row w g _ cur t (0, 0) hg]
    have h8 := flatten_at 65 ps k j ps[k] e3 (List.getElem?_eq_getElem hkl) hj
    rw [← htake, e, hu, List.getElem?_take, if_pos (by omega)] at h8
    rw [show 0 + k * 65 + j = k * 65 + j by omega]
    simpa using h8
end Go.Proofs.YtcemefojpaicoaaDoor
