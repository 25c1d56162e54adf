/- SightEnough: how many marks are enough. -/
import Derived.Test.YthhajbgddifenaaNu
import Derived.Test.YthhajbgddifenaaLo
import Derived.Test.YthhajbgddifenaaV
import Derived.Test.YthhajbgddifenaaW
namespace Go.Proofs.Ythhajbgddifenaa
open Go.RowKit Go.Shelf

theorem SquaresB.below {w w' : World} {v : Value} {qs : List (List Light)} (h : SquaresB w v qs) (hk : Below w.heap.size w w') : SquaresB w' v qs := by
  obtain ⟨b, c, cur, lvs, e, hb, ht, hS⟩ := h
  exact ⟨b, c, cur, lvs, e, hb.below hk hb.size, ht, hS.below hk⟩
theorem SquaresB.kg {w w' : World} {g : Nat} {v : Value} {qs : List (List Light)} (h : SquaresB w v qs) (hu : UrnAt w g) (hk : Kg g w w') : SquaresB w' v qs := by
  obtain ⟨b, c, cur, lvs, e, hb, ht, hS⟩ := h
  exact ⟨b, c, cur, lvs, e, hb.kg hk (hu.ne hb (by decide)), ht, hS.kg hu hk⟩
theorem SquaresB.far {w : World} {v : Value} {qs : List (List Light)} (h : SquaresB w v qs) {p : Addr} {t : TypeId} {cs : List Value} (hb' : Blok w p.block t cs) (h1 : t ≠ 39) (h2 : t ≠ 27) (u : Value) : SquaresB (w.setCell p u) v qs := by
  obtain ⟨b, c, cur, lvs, e, hb, ht, hS⟩ := h
  exact ⟨b, c, cur, lvs, e, hb.far (blok_ne hb hb' (fun e => h1 e.symm)) u, ht, hS.far hb' h2 u⟩
/-- A square that is another one. -/
theorem SquaresB.set {w : World} {b n c k : Nat} {qs : List (List Light)} {q : List Light} {lv : Value} (h : SquaresB w (.slice (some ⟨b, 0, none⟩) n c) qs) (hk : k < qs.length) (hq : LightsB w lv q) : SquaresB (w.setCell ⟨b, k, none⟩ lv) (.slice (some ⟨b, 0, none⟩) n c) (qs.set k q) := by
  obtain ⟨b', c', cur, lvs, e, hb, ht, hS⟩ := h
  injection e with e1 e2 e3
  injection e1 with e1
  injection e1 with e1
  subst e1 e2 e3
  have hcl : qs.length ≤ cur.length := by
    have h1 := hS.1
    rw [← ht, List.length_take] at h1
    omega
  refine ⟨b, c, cur.set k lv, lvs.set k lv, by rw [List.length_set], hb.put k lv, ?_, by rw [List.length_set, List.length_set]; exact hS.1, fun i a v h1 h2 => ?_⟩
  · rw [List.length_set, ← ht]
    apply List.ext_getElem?
    intro i
    simp only [List.getElem?_take, List.getElem?_set, List.length_take]
    by_cases hi : i < qs.length <;> by_cases hik : k = i <;> simp_all <;> omega
  · have hfar : ∀ {q' : List Light} {v' : Value}, LightsB w v' q' → LightsB (w.setCell ⟨b, k, none⟩ lv) v' q' := fun h => h.far (p := ⟨b, k, none⟩) hb (by decide) _
    by_cases hik : i = k
    · subst hik
      rw [List.getElem?_set_self hk] at h1
      rw [List.getElem?_set_self (by rw [hS.1]; exact hk)] at h2
      injection h1 with h1
      injection h2 with h2
      subst h1 h2
      exact hfar hq
    · rw [List.getElem?_set_ne (fun e => hik e.symm)] at h1 h2
      exact hfar (hS.2 i a v h1 h2)
theorem SquaresB.slot {w : World} {b n c : Nat} {qs : List (List Light)} (h : SquaresB w (.slice (some ⟨b, 0, none⟩) n c) qs) (k : Nat) (hk : k < qs.length) : ∃ cs, Blok w b 39 cs ∧ k < cs.length := by
  obtain ⟨b', c', cur, lvs, e, hb, ht, hS⟩ := h
  injection e with e1 e2 e3
  injection e1 with e1
  injection e1 with e1
  subst e1 e2 e3
  refine ⟨cur, hb, ?_⟩
  have h1 := hS.1
  rw [← ht, List.length_take] at h1
  omega
theorem light31 : ∀ r : Fin 32, diff r.val 31 = 0 := by decide +kernel
theorem LightsB.two {w : World} {b r : Nat} (h : Blok w b 27 [.int .i64 31, .int .i64 r]) : LightsB w (.slice (some ⟨b, 0, none⟩) 1 1) [⟨31, r⟩] := .inr ⟨b, 1, _, rfl, h, rfl⟩
/-- A line with another square, and with another Total. -/
def Line.withSquare (L : Line) (k : Nat) (q : List Light) : Line := { L with squares := L.squares.set k q }
def Line.withTotal (L : Line) (t : Nat) : Line := { L with total := t }
theorem Line.ok_square {L : Line} (h : L.ok) (k r : Nat) (hr : r < 32) : (L.withSquare k [⟨31, r⟩]).ok := by
  obtain ⟨h1, h2, h3, h4, h5, h6, h7, h8, h9⟩ := h
  refine ⟨h1, h2, h3, h4, h5, h6, ?_, ?_, fun q hq => ?_⟩
  · show 1 ≤ (L.squares.set k _).length; rw [List.length_set]; exact h7
  · show (L.squares.set k _).length ≤ 8; rw [List.length_set]; exact h8
  · rcases List.mem_or_eq_of_mem_set hq with hq | rfl
    · exact h9 q hq
    · refine ⟨by simp, fun x hx => ?_⟩
      obtain rfl : x = ⟨31, r⟩ := by simpa using hx
      exact ⟨by simp, by simp; omega, light31 ⟨r, hr⟩⟩
theorem Line.ok_total {L : Line} (h : L.ok) (t : Nat) (ht : t ≤ 40) : (L.withTotal t).ok := ⟨h.1, h.2.1, h.2.2.1, h.2.2.2.1, h.2.2.2.2.1, ht, h.2.2.2.2.2.2⟩
theorem marks_total (L : Line) (t : Nat) : marksOf (L.withTotal t) = marksOf L := rfl
theorem enough (L : Line) (t : Nat) (ht : t ≤ 40) : handsOf (L.withTotal t) ≠ [] ↔ marksOf L ≤ t := by
  have h := hands_iff (L.withTotal t) (show t < 81 by omega)
  rwa [marks_total] at h
end Go.Proofs.Ythhajbgddifenaa
