/- The ways of a note, gone through one after the other: what has been handed out so far. -/
import Derived.Test.YtcbdcdpoackplaaDc
namespace Go.Proofs.Ytcbdcdpoackplaa.Dt

/-- What is handed out for some ways none of which ends the note. -/
def outs (f : Mat → List Mat) (B : Mat) (l : List Way) : List Mat := l.flatMap fun w => match left B w with | none => [] | some M => f M
/-- None of some ways leaves all as it was. -/
def NoEnd (n : Nat) (B : Mat) (l : List Way) : Prop := ∀ w ∈ l, ∀ M, left B w = some M → ¬ eqOn n M B
theorem goWays_pre {n : Nat} {f : Mat → List Mat} {B : Mat} : ∀ (pre rest : List Way), NoEnd n B pre → goWays n f B (pre ++ rest) = outs f B pre ++ goWays n f B rest
  | [], _, _ => rfl
  | w :: pre, rest, h => by
    have ih := goWays_pre (f := f) pre rest fun w' hw' => h w' (List.mem_cons_of_mem _ hw')
    simp only [List.cons_append, goWays, outs, List.flatMap_cons] at ih ⊢
    cases hl : left B w with
    | none => simpa using ih
    | some M =>
      simp only
      rw [if_neg (h w (List.mem_cons_self ..) M hl), ih, List.append_assoc]
theorem goWays_none {n : Nat} {f : Mat → List Mat} {B : Mat} {w : Way} {rest : List Way} (h : left B w = none) : goWays n f B (w :: rest) = goWays n f B rest := by simp [goWays, h]
theorem goWays_end {n : Nat} {f : Mat → List Mat} {B M : Mat} {w : Way} {rest : List Way} (h : left B w = some M) (he : eqOn n M B) : goWays n f B (w :: rest) = f M := by simp [goWays, h, he]
theorem goWays_on {n : Nat} {f : Mat → List Mat} {B M : Mat} {w : Way} {rest : List Way} (h : left B w = some M) (he : ¬ eqOn n M B) : goWays n f B (w :: rest) = f M ++ goWays n f B rest := by simp [goWays, h, he]
theorem goWays_all {n : Nat} {f : Mat → List Mat} {B : Mat} (l : List Way) (h : NoEnd n B l) : goWays n f B l = outs f B l := by
  have := goWays_pre (n := n) (f := f) (B := B) l [] h
  simpa [goWays] using this
theorem outs_snoc_none {f : Mat → List Mat} {B : Mat} {l : List Way} {w : Way} (h : left B w = none) : outs f B (l ++ [w]) = outs f B l := by simp [outs, h]
theorem outs_snoc_some {f : Mat → List Mat} {B M : Mat} {l : List Way} {w : Way} (h : left B w = some M) : outs f B (l ++ [w]) = outs f B l ++ f M := by simp [outs, h]
theorem NoEnd.snoc_none {n : Nat} {B : Mat} {l : List Way} {w : Way} (h : NoEnd n B l) (hw : left B w = none) : NoEnd n B (l ++ [w]) := by
  intro w' hw' M hM
  rcases List.mem_append.1 hw' with hw' | hw'
  · exact h w' hw' M hM
  · simp at hw'
    subst hw'
    rw [hw] at hM
    cases hM
theorem NoEnd.snoc_some {n : Nat} {B M : Mat} {l : List Way} {w : Way} (h : NoEnd n B l) (hw : left B w = some M) (he : ¬ eqOn n M B) : NoEnd n B (l ++ [w]) := by
  intro w' hw' M' hM
  rcases List.mem_append.1 hw' with hw' | hw'
  · exact h w' hw' M' hM
  · simp at hw'
    subst hw'
    rw [hw] at hM
    injection hM with hM
    rw [← hM]
    exact he
/-- Where a prefix of the ways has been gone through, the next way's part comes next. -/
theorem goWays_next {n : Nat} {f : Mat → List Mat} {B M : Mat} {pre l : List Way} {w : Way} (hp : pre ++ [w] <+: l) (h : NoEnd n B pre) (hw : left B w = some M) :
    outs f B pre ++ f M <+: goWays n f B l := by
  obtain ⟨r, rfl⟩ := hp
  rw [List.append_assoc, goWays_pre pre _ h]
  refine List.prefix_append_right_inj _ |>.2 ?_
  by_cases he : eqOn n M B
  · rw [List.singleton_append, goWays_end hw he]
    exact List.prefix_refl _
  · rw [List.singleton_append, goWays_on hw he]
    exact List.prefix_append _ _
theorem goWays_stop {n : Nat} {f : Mat → List Mat} {B M : Mat} {pre l : List Way} {w : Way} (hp : pre ++ [w] <+: l) (h : NoEnd n B pre) (hw : left B w = some M) (he : eqOn n M B) :
    goWays n f B l = outs f B pre ++ f M := by
  obtain ⟨r, rfl⟩ := hp
  rw [List.append_assoc, goWays_pre pre _ h, List.singleton_append, goWays_end hw he]
/-- A matrix all of whose numbers are small. -/
def Small (B : Mat) : Prop := ∀ i j, i < 10 → j < 10 → B i j ≤ 6000
theorem Small.lo {B : Mat} (h : Small B) (hc : Closed 10 B) (i j : Nat) (hi : i < 10) (hj : j < 10) : -6000 ≤ B i j := by
  have h1 := h j i hj hi
  have h2 := hc.1 i hi
  have h3 := hc.2 i i j hi hi hj
  omega
theorem Small.cut {B : Mat} (h : Small B) (l : Lim) : Small (cut B l) := fun i j hi hj => Int.le_trans (Int.min_le_left _ _) (h i j hi hj)
theorem left_small {B M : Mat} {w : Way} (h : Small B) (hM : left B w = some M) : Small M := by
  unfold left at hM
  cases h1 : refuses B w.1 with
  | true => simp [h1] at hM
  | false =>
    cases h2 : refuses (cut B w.1) w.2 with
    | true => simp [h1, h2] at hM
    | false =>
      simp [h1, h2] at hM
      subst hM
      exact (h.cut _).cut _
theorem unsaid_small {d : Dat} (h : d.Ok) : Small d.unsaid := by
  intro i j hi hj
  have hb : ∀ p, p < 10 → -3000 ≤ (d.base p).1 ∧ (d.base p).2 ≤ 3000 := by
    intro p hp
    unfold Dat.base
    split
    · simp
    · split
      · simp
      · cases hg : d.eras[p - 7]? with
        | none => simp [List.getD_eq_getElem?_getD, hg]
        | some s =>
          have := h.eras.2 s (List.mem_of_getElem? hg)
          simp only [List.getD_eq_getElem?_getD, hg, Option.getD_some]
          exact ⟨this.1, this.2.2⟩
  have h1 := hb i hi
  have h2 := hb j hj
  simp only [Dat.unsaid]
  split <;> omega
/-- The limits of a note's ways are small. -/
theorem ways_small {d : Dat} {x : Nt} (h : x.Ok d) : ∀ w ∈ x.ways, (-6001 ≤ w.1.y ∧ w.1.y ≤ 6001) ∧ -6001 ≤ w.2.y ∧ w.2.y ≤ 6001 := by
  intro w hw
  unfold Nt.ways at hw
  split at hw
  · rename_i hk
    obtain ⟨y, hy, rfl⟩ := List.mem_map.1 hw
    obtain ⟨-, -, -, -, -, hb, -⟩ := h.years hk
    have := hb y hy
    simp only [apart]
    omega
  · rename_i hk
    obtain ⟨-, h1, h2, h3⟩ := h.span hk
    split at hw
    · simp only [List.mem_singleton] at hw
      subst hw
      simp only [apart]
      omega
    · split at hw
      · simp only [List.mem_singleton] at hw
        subst hw
        simp only [apart]
        omega
      · simp only [List.mem_singleton] at hw
        subst hw
        simp only [apart]
        omega
end Go.Proofs.Ytcbdcdpoackplaa.Dt
