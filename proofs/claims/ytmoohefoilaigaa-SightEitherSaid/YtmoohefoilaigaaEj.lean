/- SightEither: the line in another order while it is being made. -/
import Derived.Test.YtmoohefoilaigaaEi
import Derived.Test.YtmoohefoilaigaaMq
namespace Go.Proofs.Ytmoohefoilaigaa
open Go.RowKit Go.Shelf

/-- The orders of hands and squares, drawn ahead. -/
def Rows2 (g : Nat) (W wr : World) (vo vq : Value) (hs qs : List Nat) : Prop :=
  Kg g W wr ∧ UrnAt wr g ∧ wr.ownsRow W.heap.size 3 1 vo hs.length (ns hs) ∧ wr.ownsRow W.heap.size 3 1 vq qs.length (ns qs)
section
variable {g : Nat} {W wr w' : World} {vo vq : Value} {hs qs : List Nat}
theorem Rows2.kg (h : Rows2 g W wr vo vq hs qs) (hk : Kg g wr w') (hu : UrnAt w' g) : Rows2 g W w' vo vq hs qs :=
  ⟨h.1.trans hk, hu, own_kg h.2.2.1 h.2.1 (by decide) hk, own_kg h.2.2.2 h.2.1 (by decide) hk⟩
theorem Rows2.alloc (h : Rows2 g W wr vo vq hs qs) (o : Obj) : Rows2 g W (wr.alloc o) vo vq hs qs := h.kg ((Kg.refl g wr).alloc o) (h.2.1.alloc o)
theorem Rows2.below (h : Rows2 g W wr vo vq hs qs) (hb : Below wr.heap.size wr w') : Rows2 g W w' vo vq hs qs := h.kg (Kg.of_below hb) (h.2.1.keep hb h.2.1.size)
theorem Rows2.grown (h : Rows2 g W wr vo vq hs qs) {base size n : Nat} {e : TypeId} {v : Value} {xs : List Value} (ho : wr.ownsRow base e size v n xs) (hB : W.heap.size ≤ base) (h1 : e ≠ 3) (h2 : e ≠ 91) (hg : wr.grownBy w' v.ownBlock) : Rows2 g W w' vo vq hs qs :=
  ⟨h.1.grown hg fun j ej => Nat.le_trans hB (ho.lt j ej).1, h.2.1.grown hg (h.2.1.own_ne ho h2), h.2.2.1.kept hg (own_own_ne h.2.2.1 ho h1.symm), h.2.2.2.kept hg (own_own_ne h.2.2.2 ho h1.symm)⟩
theorem Rows2.put (h : Rows2 g W wr vo vq hs qs) {b : Nat} {t : TypeId} {cs : List Value} (hb : Blok wr b t cs) (hB : W.heap.size ≤ b) (h1 : 3 ≠ t) (h2 : t ≠ 91) (i : Nat) (u : Value) : Rows2 g W (wr.setCell ⟨b, i, none⟩ u) vo vq hs qs :=
  ⟨h.1.putNew (p := ⟨b, i, none⟩) hB u, h.2.1.far (p := ⟨b, i, none⟩) (h.2.1.ne hb h2).symm u, own_far h.2.2.1 (p := ⟨b, i, none⟩) (own_ne_row h.2.2.1 hb h1) u, own_far h.2.2.2 (p := ⟨b, i, none⟩) (own_ne_row h.2.2.2 hb h1) u⟩
/-- The hands so far. -/
def EiH (g : Nat) (W : World) (L : Line) (xb : Nat) (vo vq : Value) (hs qs : List Nat) (k : Nat) (wr : World) : Prop :=
  ∃ (svs : List Value) (vh : Value), Rows2 g W wr vo vq hs qs ∧ Blok wr xb 25 [vh, .int .i64 L.worn, .int .i64 L.scr, .int .i64 L.total, .slice none 0 0] ∧
    wr.ownsRow W.heap.size 68 3 vh k (hdCells (picks ⟨0, 0, []⟩ L.hands (hs.take k)) svs) ∧ HdShapes wr (picks ⟨0, 0, []⟩ L.hands (hs.take k)) svs ∧ W.heap.size ≤ xb
theorem picks_take {α : Type} (d : α) (l : List α) (ps : List Nat) {k j : Nat} (h : ps[k]? = some j) (hj : j < l.length) : picks d l (ps.take (k + 1)) = picks d l (ps.take k) ++ [l[j]] := by
  obtain ⟨hk, e⟩ := List.getElem?_eq_some_iff.1 h
  rw [List.take_succ_eq_append_getElem hk, picks_snoc, e]
  simp [List.getD, hj]
theorem EiH.step {L : Line} {xb k j : Nat} {svs : List Value} {vh sv : Value} {w5 w8 : World} {A8 : Option Addr} {c8 : Nat} (hj : hs[k]? = some j) (hjl : j < L.hands.length)
    (hr : Rows2 g W wr vo vq hs qs) (b1 : Blok wr xb 25 [vh, .int .i64 L.worn, .int .i64 L.scr, .int .i64 L.total, .slice none 0 0]) (ho : wr.ownsRow W.heap.size 68 3 vh k (hdCells (picks ⟨0, 0, []⟩ L.hands (hs.take k)) svs))
    (hsh : HdShapes wr (picks ⟨0, 0, []⟩ L.hands (hs.take k)) svs) (hx : W.heap.size ≤ xb) (hsv : ShapesB wr sv L.hands[j].shapes) (hb5 : Below wr.heap.size wr w5) (hg8 : w5.grownBy w8 vh.ownBlock)
    (own8 : w8.ownsRow W.heap.size 68 3 (.slice A8 (k + 1) c8) (k + 1) (hdCells (picks ⟨0, 0, []⟩ L.hands (hs.take k)) svs ++ [.int .i64 L.hands[j].low, .int .i64 L.hands[j].high, sv])) :
    EiH g W L xb vo vq hs qs (k + 1) (w8.setCell ⟨xb, 0, none⟩ (.slice A8 (k + 1) c8)) := by
  have r5 := hr.below hb5
  have ho5 := own_below ho hb5 (Nat.le_refl _)
  have b5 := b1.below hb5 b1.size
  have b8 := b5.grown hg8 (own_ne_row ho5 b5 (by decide))
  have r8 := r5.grown ho5 (Nat.le_refl _) (by decide) (by decide) hg8
  have hne : ∀ (b : Nat) (cs : List Value), Blok w5 b 86 cs → vh.ownBlock ≠ some b := fun b cs h => own_ne_row ho5 h (by decide)
  have hsn := (hsh.below hb5).snoc (hsv.below hb5)
  have htk := picks_take (⟨0, 0, []⟩ : Hand) L.hands hs hj hjl
  refine ⟨svs ++ [sv], .slice A8 (k + 1) c8, r8.put b8 hx (by decide) (by decide) 0 _, b8.put 0 _, ?_, ?_, hx⟩
  · rw [htk, hdCells_snoc _ _ _ _ hsh.1]
    exact own_far own8 (p := ⟨xb, 0, none⟩) (own_ne_row own8 b8 (by decide)) _
  · rw [htk]
    exact ⟨hsn.1, fun i a b g1 g2 => ((hsn.2 i a b g1 g2).grown hg8 hne).far (p := ⟨xb, 0, none⟩) b8 (by decide) _⟩
/-- The squares so far. -/
def EiQ (g : Nat) (W : World) (L : Line) (xb : Nat) (vh vo vq : Value) (hs qs : List Nat) (k : Nat) (wr : World) : Prop :=
  ∃ (QS : List (List Light)) (lvs : List Value) (vs : Value), Rows2 g W wr vo vq hs qs ∧ Blok wr xb 25 [vh, .int .i64 L.worn, .int .i64 L.scr, .int .i64 L.total, vs] ∧ HandsB wr vh (picks ⟨0, 0, []⟩ L.hands hs) ∧
    wr.ownsRow W.heap.size 39 1 vs k lvs ∧ SqLights wr QS lvs ∧ SqTurned L (qs.take k) QS ∧ W.heap.size ≤ xb
theorem EiQ.step {L : Line} {xb k j : Nat} {QS : List (List Light)} {q : List Light} {lvs : List Value} {vh vs lv : Value} {w5 w8 : World} {A8 : Option Addr} {c8 : Nat} (hj : qs[k]? = some j) (hjl : j < L.squares.length)
    (hr : Rows2 g W wr vo vq hs qs) (b1 : Blok wr xb 25 [vh, .int .i64 L.worn, .int .i64 L.scr, .int .i64 L.total, vs]) (hh : HandsB wr vh (picks ⟨0, 0, []⟩ L.hands hs)) (ho : wr.ownsRow W.heap.size 39 1 vs k lvs)
    (hS : SqLights wr QS lvs) (hT : SqTurned L (qs.take k) QS) (hx : W.heap.size ≤ xb) (hlv : LightsB wr lv q) (hq : q.Perm L.squares[j]) (hb5 : Below wr.heap.size wr w5) (hg8 : w5.grownBy w8 vs.ownBlock)
    (own8 : w8.ownsRow W.heap.size 39 1 (.slice A8 (k + 1) c8) (k + 1) (lvs ++ [lv])) :
    EiQ g W L xb vh vo vq hs qs (k + 1) (w8.setCell ⟨xb, 4, none⟩ (.slice A8 (k + 1) c8)) := by
  have r5 := hr.below hb5
  have ho5 := own_below ho hb5 (Nat.le_refl _)
  have b5 := b1.below hb5 b1.size
  have b8 := b5.grown hg8 (own_ne_row ho5 b5 (by decide))
  have r8 := r5.grown ho5 (Nat.le_refl _) (by decide) (by decide) hg8
  have hsn := (hS.below hb5).snoc (hlv.below hb5)
  have hne : ∀ (b : Nat) (cs : List Value), Blok w5 b 27 cs → vs.ownBlock ≠ some b := fun b cs h => own_ne_row ho5 h (by decide)
  have hh8 := (hh.below hb5).grown hg8 fun b t cs hb' ht => own_ne_row ho5 hb' (by rintro rfl; rcases ht with ht | ht <;> exact absurd ht (by decide))
  have htk : qs.take (k + 1) = qs.take k ++ [j] := by
    obtain ⟨hk, e⟩ := List.getElem?_eq_some_iff.1 hj
    rw [List.take_succ_eq_append_getElem hk, e]
  refine ⟨QS ++ [q], lvs ++ [lv], .slice A8 (k + 1) c8, r8.put b8 hx (by decide) (by decide) 4 _, b8.put 4 _, hh8.far (p := ⟨xb, 4, none⟩) b8 (by decide) (by decide) _, own_far own8 (p := ⟨xb, 4, none⟩) (own_ne_row own8 b8 (by decide)) _, (hsn.grown hg8 hne).far (p := ⟨xb, 4, none⟩) b8 (by decide) _, ?_, hx⟩
  rw [htk]
  exact hT.snoc (List.getElem?_eq_getElem hjl) hq
theorem EiQ.kg {L : Line} {xb k : Nat} {vh : Value} (h : EiQ g W L xb vh vo vq hs qs k wr) (hk : Kg g wr w') (hu : UrnAt w' g) : EiQ g W L xb vh vo vq hs qs k w' := by
  obtain ⟨QS, lvs, vs, a, b, c, d, e, f, x⟩ := h
  exact ⟨QS, lvs, vs, a.kg hk hu, b.kg hk (a.2.1.ne b (by decide)), c.kg a.2.1 hk, own_kg d a.2.1 (by decide) hk, e.kg a.2.1 hk, f, x⟩
end
end Go.Proofs.Ytmoohefoilaigaa
