/- SightEither, plain: the line with its lists in another order. -/
import Derived.Test.YtmoohefoilaigaaMo
import Derived.Test.YtmoohefoilaigaaRw
import Derived.Test.YtmoohefoilaigaaTp
namespace Go.Proofs.Ytmoohefoilaigaa
open Go.RowKit Go.Shelf

def picks {α : Type} (d : α) (l : List α) (ps : List Nat) : List α := ps.map fun j => l.getD j d
theorem picks_snoc {α : Type} (d : α) (l : List α) (ps : List Nat) (j : Nat) : picks d l (ps ++ [j]) = picks d l ps ++ [l.getD j d] := by simp [picks]
theorem picks_len {α : Type} (d : α) (l : List α) (ps : List Nat) : (picks d l ps).length = ps.length := by simp [picks]
theorem picks_perm {α : Type} (d : α) (l : List α) (ps : List Nat) (h : ps.Perm (List.range l.length)) : (picks d l ps).Perm l := by
  have e2 : l = (List.range l.length).map fun k => l.getD k d := by
    apply List.ext_getElem?
    intro j
    rw [List.getElem?_map]
    by_cases hj : j < l.length
    · rw [List.getElem?_range hj, List.getElem?_eq_getElem hj]
      simp [List.getD, hj]
    · rw [List.getElem?_eq_none (by omega), List.getElem?_eq_none (by simpa using hj)]
      rfl
  conv => rhs; rw [e2]
  exact h.map _
theorem picks_at {α : Type} (d : α) (l : List α) (ps : List Nat) {j k : Nat} (h : ps[j]? = some k) (hk : k < l.length) : (picks d l ps)[j]? = l[k]? := by
  unfold picks
  rw [List.getElem?_map, h, List.getElem?_eq_getElem hk]
  simp [List.getD, hk]
theorem perm_lt {ps : List Nat} {n j k : Nat} (h : ps.Perm (List.range n)) (hj : ps[j]? = some k) : k < n := List.mem_range.1 (h.mem_iff.1 (List.mem_of_getElem? hj))
theorem perm_len {ps : List Nat} {n : Nat} (h : ps.Perm (List.range n)) : ps.length = n := by have := h.length_eq; simpa using this
/-- So far: the squares that are numbered so, their lights in another order. -/
def SqTurned (L : Line) (ps : List Nat) (QS : List (List Light)) : Prop := QS.length = ps.length ∧ ∀ (j k : Nat) (q : List Light), ps[j]? = some k → L.squares[k]? = some q → ∃ q' : List Light, QS[j]? = some q' ∧ q'.Perm q
theorem SqTurned.nil (L : Line) : SqTurned L [] [] := ⟨rfl, fun j k q h => by simp at h⟩
theorem SqTurned.snoc {L : Line} {ps : List Nat} {QS : List (List Light)} (h : SqTurned L ps QS) {k : Nat} {q q' : List Light} (hq : L.squares[k]? = some q) (hp : q'.Perm q) : SqTurned L (ps ++ [k]) (QS ++ [q']) := by
  refine ⟨by simp [h.1], fun j k2 q2 h1 h2 => ?_⟩
  by_cases hj : j < ps.length
  · rw [List.getElem?_append_left hj] at h1
    rw [List.getElem?_append_left (by rw [h.1]; exact hj)]
    exact h.2 j k2 q2 h1 h2
  · have hj' : j = ps.length := by
      have := (List.getElem?_eq_some_iff.1 h1).1
      simp at this
      omega
    subst hj'
    have e1 : k = k2 := by simpa using h1
    subst e1
    rw [hq] at h2
    injection h2 with h2
    subst h2
    refine ⟨q', ?_, hp⟩
    rw [← h.1]
    simp
def turnedL (L : Line) (hs : List Nat) (QS : List (List Light)) : Line := ⟨picks ⟨0, 0, []⟩ L.hands hs, L.worn, L.scr, L.total, QS⟩
theorem turned_ok {L : Line} (hL : L.ok) {hs qs : List Nat} {QS : List (List Light)} (hp : hs.Perm (List.range L.hands.length)) (hq : qs.Perm (List.range L.squares.length)) (hS : SqTurned L qs QS) : (turnedL L hs QS).ok := by
  have e1 := perm_len hp
  have e2 := perm_len hq
  obtain ⟨h1, h2, h3, h4, h5, h6, h7, h8, h9⟩ := hL
  refine ⟨by simp [turnedL, picks_len, e1]; exact h1, by simp [turnedL, picks_len, e1]; exact h2, fun h hh => ?_, h4, h5, h6, by simp [turnedL, hS.1, e2]; exact h7, by simp [turnedL, hS.1, e2]; exact h8, fun q hq' => ?_⟩
  · exact h3 h ((picks_perm _ _ _ hp).mem_iff.1 hh)
  · obtain ⟨j, hj⟩ := List.mem_iff_getElem?.1 hq'
    have hj1 : j < QS.length := (List.getElem?_eq_some_iff.1 hj).1
    have hj2 : j < qs.length := by rw [← hS.1]; exact hj1
    have hk := perm_lt hq (List.getElem?_eq_getElem hj2)
    obtain ⟨q', a, b⟩ := hS.2 j qs[j] L.squares[qs[j]] (List.getElem?_eq_getElem hj2) (List.getElem?_eq_getElem hk)
    have e : q = q' := by
      have : (turnedL L hs QS).squares[j]? = some q := hj
      have h' : QS[j]? = some q := this
      rw [a] at h'
      injection h' with h'
      exact h'.symm
    subst e
    obtain ⟨g1, g2⟩ := h9 _ (List.getElem_mem hk)
    exact ⟨by rw [b.length_eq]; exact g1, fun x hx => g2 x (b.mem_iff.1 hx)⟩
theorem turned_turned {L : Line} {hs qs : List Nat} {QS : List (List Light)} (hp : hs.Perm (List.range L.hands.length)) (hq : qs.Perm (List.range L.squares.length)) (hS : SqTurned L qs QS) : Turned (turnedL L hs QS) L hs qs :=
  ⟨rfl, rfl, rfl, hp, hq, by simp [turnedL, picks_len], by simp [turnedL, hS.1], fun j k h => picks_at _ _ _ h (perm_lt hp h), hS.2⟩
theorem Turned.ne {X L : Line} {hs qs : List Nat} (h : Turned X L hs qs) (hn : handsOf L ≠ []) : handsOf X ≠ [] := by
  intro e
  have := h.hands_len
  rw [e] at this
  exact hn (List.length_eq_zero_iff.1 (by simpa using this.symm))
end Go.Proofs.Ytmoohefoilaigaa
