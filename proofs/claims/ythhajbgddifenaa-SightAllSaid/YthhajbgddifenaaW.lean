/- Plain laws of the chapter: some hand fits just where the fewest marks do. -/
import Derived.Test.YthhajbgddifenaaJ
namespace Go.Proofs.Ythhajbgddifenaa

theorem leastOf_iff (l : List Nat) (a T : Nat) : leastOf a l ≤ T ↔ a ≤ T ∨ ∃ x ∈ l, x ≤ T := by
  unfold leastOf
  induction l generalizing a with
  | nil => simp
  | cons x l ih =>
    rw [List.foldl_cons, ih]
    constructor
    · rintro (h | ⟨y, hy, h⟩)
      · rcases Nat.le_total a x with h1 | h1
        · exact .inl (by omega)
        · exact .inr ⟨x, by simp, by omega⟩
      · exact .inr ⟨y, by simp [hy], h⟩
    · rintro (h | ⟨y, hy, h⟩)
      · exact .inl (by omega)
      · rcases List.mem_cons.1 hy with rfl | hy
        · exact .inl (by omega)
        · exact .inr ⟨y, hy, h⟩
theorem hands_iff (L : Line) (h : L.total < 81) : handsOf L ≠ [] ↔ marksOf L ≤ L.total := by
  unfold marksOf
  rw [leastOf_iff]
  have e : handsOf L = [] ↔ ∀ k, k < (cuttersOf L).length → fitAt (cuttersOf L) L.squares.length L.total k = none := by
    simp [handsOf, fits, fitsTo]
  constructor
  · intro hne
    refine .inr (Classical.byContradiction fun hno => hne (e.2 fun k hk => ?_))
    have hc : (cuttersOf L)[k]? = some (cuttersOf L)[k] := List.getElem?_eq_getElem hk
    refine fitAt_no _ _ _ _ _ hc fun hle => hno ⟨_, ?_, hle⟩
    exact List.mem_map.2 ⟨_, List.getElem_mem hk, rfl⟩
  · rintro (h' | ⟨x, hx, hle⟩) he
    · omega
    · obtain ⟨c, hc, rfl⟩ := List.mem_map.1 hx
      obtain ⟨k, hk⟩ := List.mem_iff_getElem?.1 hc
      have h1 := e.1 he k (List.getElem?_eq_some_iff.1 hk).1
      rw [fitAt_yes _ _ _ _ c hk hle] at h1
      cases h1
end Go.Proofs.Ythhajbgddifenaa
