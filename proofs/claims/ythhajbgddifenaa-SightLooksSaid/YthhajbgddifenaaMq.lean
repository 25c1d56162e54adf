/- SightMore: years with more known; a law's line and another one beside it. · SightMore: the other line while it is being changed. -/
import Derived.Test.YthhajbgddifenaaYn
import Derived.Test.YthhajbgddifenaaRp
import Derived.Test.YthhajbgddifenaaIw
import Derived.Test.YthhajbgddifenaaCp
import Derived.Test.YthhajbgddifenaaSp
import Derived.Test.YthhajbgddifenaaLs
namespace Go.Proofs.Ythhajbgddifenaa
section
open Go.RowKit Go.Shelf

theorem lowTo_in (L : Line) : ∀ (hs : List Nat) (a : Int), lowTo L a hs = a ∨ ∃ h ∈ hs, lowTo L a hs = lowOf L h := by
  intro hs
  induction hs with
  | nil => intro a; exact .inl rfl
  | cons x hs ih =>
    intro a
    have e : lowTo L a (x :: hs) = lowTo L (min a (lowOf L x)) hs := rfl
    rw [e]
    rcases ih (min a (lowOf L x)) with h | ⟨y, hy, h⟩
    · rw [h]
      rcases Int.le_total a (lowOf L x) with h1 | h1
      · left; omega
      · right; exact ⟨x, by simp, by omega⟩
    · exact .inr ⟨y, by simp [hy], h⟩
theorem highTo_in (L : Line) : ∀ (hs : List Nat) (a : Int), highTo L a hs = a ∨ ∃ h ∈ hs, highTo L a hs = highOf L h := by
  intro hs
  induction hs with
  | nil => intro a; exact .inl rfl
  | cons x hs ih =>
    intro a
    have e : highTo L a (x :: hs) = highTo L (max a (highOf L x)) hs := rfl
    rw [e]
    rcases ih (max a (highOf L x)) with h | ⟨y, hy, h⟩
    · rw [h]
      rcases Int.le_total a (highOf L x) with h1 | h1
      · right; exact ⟨x, by simp, by omega⟩
      · left; omega
    · exact .inr ⟨y, by simp [hy], h⟩
theorem years_in {L : Line} (h : handsOf L ≠ []) : (∃ k ∈ handsOf L, (yearsOf L).1 = lowOf L k) ∧ ∃ k ∈ handsOf L, (yearsOf L).2 = highOf L k := by
  unfold yearsOf
  cases hl : handsOf L with
  | nil => exact absurd hl h
  | cons x hs =>
    refine ⟨?_, ?_⟩
    · rcases lowTo_in L hs (lowOf L x) with e | ⟨y, hy, e⟩
      · exact ⟨x, by simp, e⟩
      · exact ⟨y, by simp [hy], e⟩
    · rcases highTo_in L hs (highOf L x) with e | ⟨y, hy, e⟩
      · exact ⟨x, by simp, e⟩
      · exact ⟨y, by simp [hy], e⟩
theorem More.years {X L : Line} (h : More X L) (hx : handsOf X ≠ []) : (yearsOf L).1 ≤ (yearsOf X).1 ∧ (yearsOf X).2 ≤ (yearsOf L).2 := by
  obtain ⟨⟨a, ha, ea⟩, b, hb, eb⟩ := years_in hx
  obtain ⟨k1, H1, m1, x1, l1⟩ := h.hands ha
  obtain ⟨k2, H2, m2, x2, l2⟩ := h.hands hb
  have y1 := (years_hand m1).1
  have y2 := (years_hand m2).2
  rw [low_at l1] at y1
  rw [high_at l2] at y2
  rw [ea, eb, low_at x1, high_at x2]
  exact ⟨y1, y2⟩
theorem More.byte {X L : Line} (h : More X L) {k : Nat} (hk : k < L.squares.length) {x y : ByteArray} (hx : (lettersOf X)[k]? = some x) (hy : (lettersOf L)[k]? = some y) : ∀ u ∈ x.data.toList, u ∈ y.data.toList := by
  intro u hu
  rw [letters_at X k (by rw [h.sq]; exact hk)] at hx
  rw [letters_at L k hk] at hy
  injection hx with hx
  injection hy with hy
  subst hx hy
  obtain ⟨z, hz, e⟩ := mem_orderText.1 hu
  exact mem_orderText.2 ⟨z, h.letters hk hz, e⟩
theorem letters_size {L : Line} {k : Nat} {x : ByteArray} (hx : (lettersOf L)[k]? = some x) : x.size ≤ 256 := by
  have hk : k < L.squares.length := by
    have := (List.getElem?_eq_some_iff.1 hx).1
    simpa [lettersOf] using this
  rw [letters_at L k hk] at hx
  injection hx with hx
  rw [← hx]
  exact orderText_le _

/-- What is so of the other line while it is being changed: what lay there when it was made lies there yet, but for the urn. -/
def XI (g : Nat) (W wr : World) (xb : Nat) (vh vs : Value) (X : Line) : Prop :=
  Kg g W wr ∧ UrnAt wr g ∧ Blok wr xb 25 [vh, .int .i64 X.worn, .int .i64 X.scr, .int .i64 X.total, vs] ∧ HandsB wr vh X.hands ∧ SquaresB wr vs X.squares ∧ W.heap.size ≤ xb
/-- A line of a law, what is true of it, and another line. -/
def Two (w : World) (lb g : Nat) (vh vs vv : Value) (L : Line) (hand : Nat) (lts : ByteArray) (xb : Nat) (xh xs : Value) (X : Line) (wr : World) : Prop :=
  TrueI w lb g vh vs vv L hand lts wr ∧ Blok wr xb 25 [xh, .int .i64 X.worn, .int .i64 X.scr, .int .i64 X.total, xs] ∧ HandsB wr xh X.hands ∧ SquaresB wr xs X.squares
section
variable {w wr w' : World} {lb g hand xb : Nat} {vh vs vv xh xs : Value} {L X : Line} {lts : ByteArray}
theorem Two.below (h : Two w lb g vh vs vv L hand lts xb xh xs X wr) (hb : Below wr.heap.size wr w') : Two w lb g vh vs vv L hand lts xb xh xs X w' :=
  ⟨h.1.below hb, h.2.1.below hb h.2.1.size, h.2.2.1.below hb, h.2.2.2.below hb⟩
theorem Two.alloc (h : Two w lb g vh vs vv L hand lts xb xh xs X wr) (o : Obj) : Two w lb g vh vs vv L hand lts xb xh xs X (wr.alloc o) := h.below ((Below.refl _ _).alloc (Nat.le_refl _) _)
theorem Two.lineX (h : Two w lb g vh vs vv L hand lts xb xh xs X wr) : LineAt wr wr.heap.size (.agg #[xh, .int .i64 X.worn, .int .i64 X.scr, .int .i64 X.total, xs]) X := ⟨xh, xs, rfl, h.2.2.1.hands, h.2.2.2.squares⟩
theorem Two.lineL (h : Two w lb g vh vs vv L hand lts xb xh xs X wr) : LineAt wr wr.heap.size (.agg #[vh, .int .i64 L.worn, .int .i64 L.scr, .int .i64 L.total, vs]) L := h.1.1.line
theorem Two.of {W : World} (h : TrueI w lb g vh vs vv L hand lts W) (hx : XI g W wr xb xh xs X) (hg : w.heap.size ≤ g) : Two w lb g vh vs vv L hand lts xb xh xs X wr := ⟨h.kg hx.1 hx.2.1 hg, hx.2.2.1, hx.2.2.2.1, hx.2.2.2.2.1⟩
end
end
section
open Go.RowKit Go.Shelf

theorem SqOwn.kg {B g : Nat} {w w' : World} {qs : List (List Light)} {lvs : List Value} (h : SqOwn B w qs lvs) (hu : UrnAt w g) (hk : Kg g w w') : SqOwn B w' qs lvs :=
  ⟨h.1, fun k q v h1 h2 => own_kg (h.2.1 k q v h1 h2) hu (by decide) hk, h.2.2⟩
/-- The copy, and a box of it. -/
def Cpy (g : Nat) (W wr : World) (xb gh ch gq cq : Nat) (lvs : List Value) (L : Line) : Prop :=
  Kg g W wr ∧ UrnAt wr g ∧ Blok wr xb 25 [.slice (some ⟨gh, 0, none⟩) L.hands.length ch, .int .i64 L.worn, .int .i64 L.scr, .int .i64 L.total, .slice (some ⟨gq, 0, none⟩) L.squares.length cq] ∧ HandsB wr (.slice (some ⟨gh, 0, none⟩) L.hands.length ch) L.hands ∧
    wr.ownsRow W.heap.size 39 1 (.slice (some ⟨gq, 0, none⟩) L.squares.length cq) L.squares.length lvs ∧ SqOwn W.heap.size wr L.squares lvs ∧ W.heap.size ≤ xb
section
variable {g : Nat} {W wr w' : World} {xb gh ch gq cq : Nat} {lvs : List Value} {L X : Line} {vh vs : Value}
theorem Cpy.kg (h : Cpy g W wr xb gh ch gq cq lvs L) (hk : Kg g wr w') (hu : UrnAt w' g) : Cpy g W w' xb gh ch gq cq lvs L :=
  ⟨h.1.trans hk, hu, h.2.2.1.kg hk (h.2.1.ne h.2.2.1 (by decide)), h.2.2.2.1.kg h.2.1 hk, own_kg h.2.2.2.2.1 h.2.1 (by decide) hk, h.2.2.2.2.2.1.kg h.2.1 hk, h.2.2.2.2.2.2⟩
theorem Cpy.xi (h : Cpy g W wr xb gh ch gq cq lvs L) (h1 : 1 ≤ L.squares.length) : XI g W wr xb (.slice (some ⟨gh, 0, none⟩) L.hands.length ch) (.slice (some ⟨gq, 0, none⟩) L.squares.length cq) L :=
  ⟨h.1, h.2.1, h.2.2.1, h.2.2.2.1, SquaresB.of_own h.2.2.2.2.1 rfl h1 h.2.2.2.2.2.1.lights, h.2.2.2.2.2.2⟩
/-- A cell of the box is stored. -/
theorem XI.put (h : XI g W wr xb vh vs X) (i : Nat) (u : Value) :
    Kg g W (wr.setCell ⟨xb, i, none⟩ u) ∧ UrnAt (wr.setCell ⟨xb, i, none⟩ u) g ∧ Blok (wr.setCell ⟨xb, i, none⟩ u) xb 25 ([vh, .int .i64 X.worn, .int .i64 X.scr, .int .i64 X.total, vs].set i u) ∧ HandsB (wr.setCell ⟨xb, i, none⟩ u) vh X.hands ∧ SquaresB (wr.setCell ⟨xb, i, none⟩ u) vs X.squares ∧ W.heap.size ≤ xb := by
  obtain ⟨hk, hu, hb, hh, hs, hx⟩ := h
  exact ⟨hk.putNew (p := ⟨xb, i, none⟩) hx u, hu.far (p := ⟨xb, i, none⟩) (hu.ne hb (by decide)).symm u, hb.put i u, hh.far (p := ⟨xb, i, none⟩) hb (by decide) (by decide) u, hs.far (p := ⟨xb, i, none⟩) hb (by decide) (by decide) u, hx⟩
theorem XI.kg (h : XI g W wr xb vh vs X) (hk : Kg g wr w') (hu : UrnAt w' g) : XI g W w' xb vh vs X :=
  ⟨h.1.trans hk, hu, h.2.2.1.kg hk (h.2.1.ne h.2.2.1 (by decide)), h.2.2.2.1.kg h.2.1 hk, h.2.2.2.2.1.kg h.2.1 hk, h.2.2.2.2.2⟩
theorem XI.alloc (h : XI g W wr xb vh vs X) (o : Obj) : XI g W (wr.alloc o) xb vh vs X := h.kg ((Kg.refl g wr).alloc o) (h.2.1.alloc o)
theorem XI.total (h : XI g W wr xb vh vs X) (t : Nat) : XI g W (wr.setCell ⟨xb, 3, none⟩ (.int .i64 t)) xb vh vs (X.withTotal t) := by
  obtain ⟨a, b, c, d, e, f⟩ := h.put 3 (.int .i64 t)
  exact ⟨a, b, c, d, e, f⟩
theorem XI.worn (h : XI g W wr xb vh vs X) (t : Nat) : XI g W (wr.setCell ⟨xb, 1, none⟩ (.int .i64 t)) xb vh vs (X.withMarks t X.scr) := by
  obtain ⟨a, b, c, d, e, f⟩ := h.put 1 (.int .i64 t)
  exact ⟨a, b, c, d, e, f⟩
theorem XI.scr (h : XI g W wr xb vh vs X) (t : Nat) : XI g W (wr.setCell ⟨xb, 2, none⟩ (.int .i64 t)) xb vh vs (X.withMarks X.worn t) := by
  obtain ⟨a, b, c, d, e, f⟩ := h.put 2 (.int .i64 t)
  exact ⟨a, b, c, d, e, f⟩
theorem hands_one {w : World} {H : Hand} {sv : Value} (hS : ShapesB w sv H.shapes) : HandsB (w.alloc (.cells #[.int .i64 H.low, .int .i64 H.high, sv] 68)) (.slice (some ⟨w.heap.size, 0, none⟩) 1 1) [H] := by
  refine ⟨w.heap.size, 1, _, [sv], rfl, Blok.new w 68 [.int .i64 H.low, .int .i64 H.high, sv], rfl, rfl, fun k a b h1 h2 => ?_⟩
  rcases k with _ | k
  · obtain rfl : H = a := by simpa using h1
    obtain rfl : sv = b := by simpa using h2
    exact hS.below ((Below.refl _ _).alloc (Nat.le_refl _) _)
  · simp at h1
theorem XI.hand (h : XI g W wr xb vh vs X) {H : Hand} {sv : Value} (hS : ShapesB wr sv H.shapes) :
    XI g W ((wr.alloc (.cells #[.int .i64 H.low, .int .i64 H.high, sv] 68)).setCell ⟨xb, 0, none⟩ (.slice (some ⟨wr.heap.size, 0, none⟩) 1 1)) xb (.slice (some ⟨wr.heap.size, 0, none⟩) 1 1) vs (X.withHand H) := by
  have A := h.alloc (.cells #[.int .i64 H.low, .int .i64 H.high, sv] 68)
  obtain ⟨a, b, c, d, e, f⟩ := A.put 0 (.slice (some ⟨wr.heap.size, 0, none⟩) 1 1)
  exact ⟨a, b, c, (hands_one hS).far (p := ⟨xb, 0, none⟩) A.2.2.1 (by decide) (by decide) _, e, f⟩
theorem SqOwn.ne {B : Nat} {w : World} {qs : List (List Light)} {lvs : List Value} (h : SqOwn B w qs lvs) {i j : Nat} {a b : Value} (ha : lvs[i]? = some a) (hb : lvs[j]? = some b) (hij : i ≠ j) : a.ownBlock = none ∨ a.ownBlock ≠ b.ownBlock := by
  cases ho : a.ownBlock with
  | none => exact .inl rfl
  | some gb =>
    refine .inr fun e => ?_
    have key : ∀ (i j : Nat) (a b : Value), lvs[i]? = some a → lvs[j]? = some b → i < j → a.ownBlock = some gb → b.ownBlock = some gb → False := by
      intro i j a b ha hb hij h1 h2
      obtain ⟨hi, rfl⟩ := List.getElem?_eq_some_iff.1 ha
      obtain ⟨hj, rfl⟩ := List.getElem?_eq_some_iff.1 hb
      exact (List.pairwise_iff_getElem.1 h.2.2 i j hi hj hij) gb h1 h2
    rcases Nat.lt_or_ge i j with h1 | h1
    · exact key i j a b ha hb h1 ho e.symm
    · exact key j i b a hb ha (by omega) e.symm ho
/-- One more light in a square of the other line. -/
theorem Cpy.light {w8 : World} (h : Cpy g W wr xb gh ch gq cq lvs L) {k : Nat} {q : List Light} {A : Option Addr} {c g8 c8 : Nat} {o : Obj} (hk : k < L.squares.length) (hq : L.squares[k]? = some q) (hlv : lvs[k]? = some (.slice A q.length c)) (x : Light)
    (hg : (wr.alloc o).grownBy w8 (Value.slice A q.length c).ownBlock) (own8 : w8.ownsRow W.heap.size 27 2 (.slice (some ⟨g8, 0, none⟩) (q.length + 1) c8) (q.length + 1) (ltCells q ++ [.int .i64 x.shows, .int .i64 x.seen])) :
    XI g W (w8.setCell ⟨gq, k, none⟩ (.slice (some ⟨g8, 0, none⟩) (q.length + 1) c8)) xb (.slice (some ⟨gh, 0, none⟩) L.hands.length ch) (.slice (some ⟨gq, 0, none⟩) L.squares.length cq) (L.withSquare k (q ++ [x])) := by
  obtain ⟨hK, hu, hb, hh, hQ, hS, hx⟩ := h
  have ownL := (hS.2.1 k q _ hq hlv).alloc o
  have ownQ := hQ.alloc o
  have hK8 := (hK.alloc o).grown hg fun j e => (ownL.lt j e).1
  have hu8 := (hu.alloc o).grown hg ((hu.alloc o).own_ne ownL (by decide))
  have hb8 := (hb.alloc o).grown hg (own_ne_row ownL (hb.alloc o) (by decide))
  have hh8 := (hh.below ((Below.refl _ _).alloc (Nat.le_refl _) o)).grown hg fun b t cs hb' ht => own_ne_row ownL hb' (by rintro rfl; rcases ht with ht | ht <;> exact absurd ht (by decide))
  have hQ8 := ownQ.kept hg (own_own_ne ownQ ownL (by decide))
  obtain ⟨cs, hbq⟩ := own_blok hQ8 rfl
  have hgq : W.heap.size ≤ gq := (hQ8.lt gq rfl).1
  have hst := (hQ8.stored k (.slice (some ⟨g8, 0, none⟩) (q.length + 1) c8)).1
  have hk8 : k < lvs.length := by rw [hS.1]; exact hk
  refine ⟨hK8.putNew (p := ⟨gq, k, none⟩) hgq _, hu8.far (p := ⟨gq, k, none⟩) (fun e => hu8.own_ne hQ8 (by decide) (by rw [e]; rfl)) _, hb8.far (p := ⟨gq, k, none⟩) (fun e => own_ne_row hQ8 hb8 (by decide) (by rw [e]; rfl)) _, hh8.far (p := ⟨gq, k, none⟩) hbq (by decide) (by decide) _, ?_, hx⟩
  have hlen : (L.withSquare k (q ++ [x])).squares.length = L.squares.length := by simp [Line.withSquare]
  rw [← hlen] at hst ⊢
  refine SquaresB.of_own hst rfl (by rw [hlen]; omega) ⟨by rw [List.length_set, hlen]; exact hS.1, fun i a v h1 h2 => LightsB.of_own (base := W.heap.size) ?_⟩
  have keep : ∀ {v : Value} {n : Nat} {xs : List Value}, w8.ownsRow W.heap.size 27 2 v n xs → (w8.setCell ⟨gq, k, none⟩ (.slice (some ⟨g8, 0, none⟩) (q.length + 1) c8)).ownsRow W.heap.size 27 2 v n xs := fun h =>
    own_far h (p := ⟨gq, k, none⟩) (own_ne_row h hbq (by decide)) _
  by_cases hik : i = k
  · subst hik
    have e1 : q ++ [x] = a := by
      have : (L.squares.set i (q ++ [x]))[i]? = some a := h1
      rw [List.getElem?_set_self hk] at this
      injection this
    rw [List.getElem?_set_self hk8] at h2
    injection h2 with h2
    subst e1 h2
    rw [ltCells_snoc, List.length_append]
    exact keep own8
  · have e1 : L.squares[i]? = some a := by
      have : (L.squares.set k (q ++ [x]))[i]? = some a := h1
      rwa [List.getElem?_set_ne (fun e => hik e.symm)] at this
    rw [List.getElem?_set_ne (fun e => hik e.symm)] at h2
    exact keep (((hS.2.1 i a v e1 h2).alloc o).kept hg (hS.ne h2 hlv hik))
theorem Line.ok_light (h : L.ok) {k : Nat} {q : List Light} (hq : L.squares[k]? = some q) (h4 : q.length < 4) (x : Light) (hx : x.ok) : (L.withSquare k (q ++ [x])).ok := by
  obtain ⟨h1, h2, h3, h4', h5, h6, h7, h8, h9⟩ := h
  refine ⟨h1, h2, h3, h4', h5, h6, ?_, ?_, fun q' hq' => ?_⟩
  · show 1 ≤ (L.squares.set k _).length; rw [List.length_set]; exact h7
  · show (L.squares.set k _).length ≤ 8; rw [List.length_set]; exact h8
  · rcases List.mem_or_eq_of_mem_set hq' with hq' | rfl
    · exact h9 q' hq'
    · obtain ⟨g1, g2⟩ := h9 q (List.mem_of_getElem? hq)
      refine ⟨by simp; omega, fun y hy => ?_⟩
      rcases List.mem_append.1 hy with hy | hy
      · exact g2 y hy
      · obtain rfl : y = x := by simpa using hy
        exact hx
theorem light_ok {v t : Nat} (hv : v < 32) (ht : t < 32) : Light.ok ⟨t, v &&& t⟩ := by
  refine ⟨by show t < 1024; omega, ?_, ?_⟩
  · show v &&& t < 1024
    exact Nat.lt_of_le_of_lt Nat.and_le_left (by omega)
  · show diff (v &&& t) t = 0
    apply Nat.eq_of_testBit_eq
    intro i
    rw [diff_bit, Nat.testBit_and]
    cases v.testBit i <;> cases t.testBit i <;> simp
theorem Line.ok_marks (h : L.ok) (a b : Nat) (ha : a ≤ 10) (hb : b ≤ 10) : (L.withMarks a b).ok := ⟨h.1, h.2.1, h.2.2.1, ha, hb, h.2.2.2.2.2⟩
theorem Line.ok_hand (h : L.ok) {k : Nat} {H : Hand} (hH : L.hands[k]? = some H) : (L.withHand H).ok :=
  ⟨by simp [Line.withHand], by simp [Line.withHand], fun a ha => by
    obtain rfl : a = H := by simpa [Line.withHand] using ha
    exact h.2.2.1 a (List.mem_of_getElem? hH), h.2.2.2⟩
end
end
end Go.Proofs.Ythhajbgddifenaa
