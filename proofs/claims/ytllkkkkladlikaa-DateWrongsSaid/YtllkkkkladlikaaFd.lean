/- Datings with a truth, as the statements make them: what they are made of. -/
import Derived.Test.YtllkkkkladlikaaDc
namespace Go.Proofs.Ytllkkkkladlikaa.Dt

/-- The years of all points, out of those of the stones and the first ones of the eras. -/
def xOf (ys fs : List Int) : Nat → Int := fun p => if p = 0 then 0 else if p < 7 then ys.getD (p - 1) 0 else fs.getD (p - 7) 0
theorem xOf_stone (ys fs : List Int) (k : Nat) (y : Int) (hk : k < 6) (h : ys[k]? = some y) : xOf ys fs (1 + k) = y := by
  unfold xOf
  rw [if_neg (by omega), if_pos (by omega), List.getD_eq_getElem?_getD, show 1 + k - 1 = k by omega, h]
  rfl
theorem xOf_era (ys fs : List Int) (k : Nat) (y : Int) (h : fs[k]? = some y) : xOf ys fs (7 + k) = y := by
  unfold xOf
  rw [if_neg (by omega), if_neg (by omega), List.getD_eq_getElem?_getD, show 7 + k - 7 = k by omega, h]
  rfl
structure Made (smax nmax : Nat) (d : Dat) (ys fs : List Int) : Prop where
  ok : d.Ok
  ny : ys.length = d.stones
  nf : fs.length = d.eras.length
  is : d.Is (xOf ys fs)
  years : ∀ y ∈ ys, -400 ≤ y ∧ y ≤ 260
  firsts : ∀ y ∈ fs, -460 ≤ y ∧ y ≤ 200
  stones : d.stones ≤ smax
  notes : d.notes.length ≤ nmax
  eras : d.eras.length ≤ 2
  small : ∀ n ∈ d.notes, (n.kind ≠ 1 → -1000 ≤ n.lo ∧ n.hi ≤ 1000) ∧ ∀ y ∈ n.years, -1000 ≤ y ∧ y ≤ 1000
  smallE : ∀ s ∈ d.eras, -1000 ≤ s.1 ∧ s.2 ≤ 1000
/-- The eras made so far, with their first years. -/
structure Eras (b : Int) (es : List (Int × Int)) (fs : List Int) : Prop where
  len : fs.length = es.length
  span : ∀ (k : Nat) (s : Int × Int) (y : Int), es[k]? = some s → fs[k]? = some y → s.1 ≤ y ∧ y ≤ s.2
  ok : ∀ s ∈ es, SpanOk s.1 s.2 ∧ -1000 ≤ s.1 ∧ s.2 ≤ 1000
  first : ∀ y ∈ fs, b - 59 ≤ y ∧ y ≤ b
theorem Eras.nil (b : Int) : Eras b [] [] := ⟨rfl, by simp, by simp, by simp⟩
theorem Eras.snoc {b : Int} {es : List (Int × Int)} {fs : List Int} (h : Eras b es fs) (s : Int × Int) (y : Int) (h1 : SpanOk s.1 s.2) (h2 : -1000 ≤ s.1 ∧ s.2 ≤ 1000) (h3 : s.1 ≤ y ∧ y ≤ s.2) (h4 : b - 59 ≤ y ∧ y ≤ b) : Eras b (es ++ [s]) (fs ++ [y]) := by
  refine ⟨by simp [h.len], fun k t z ht hz => ?_, fun t ht => ?_, fun z hz => ?_⟩
  · rcases Nat.lt_trichotomy k es.length with hk | hk | hk
    · rw [List.getElem?_append_left hk] at ht
      rw [List.getElem?_append_left (by rw [h.len]; exact hk)] at hz
      exact h.span k t z ht hz
    · subst hk
      rw [List.getElem?_concat_length] at ht
      rw [← h.len, List.getElem?_concat_length] at hz
      injection ht with ht
      injection hz with hz
      subst ht hz
      exact h3
    · rw [List.getElem?_eq_none (by simp; omega)] at ht
      cases ht
  · rcases List.mem_append.1 ht with ht | ht
    · exact h.ok t ht
    · rw [List.mem_singleton.1 ht]
      exact ⟨h1, h2⟩
  · rcases List.mem_append.1 hz with hz | hz
    · exact h.first z hz
    · rw [List.mem_singleton.1 hz]
      exact h4
/-- A note that may be made: valid, right, and of small numbers. -/
structure Fine (stones : Nat) (es : List (Int × Int)) (x : Nat → Int) (n : Nt) : Prop where
  ok : n.Ok ⟨stones, es, []⟩
  right : n.right x
  small : (n.kind ≠ 1 → -1000 ≤ n.lo ∧ n.hi ≤ 1000) ∧ ∀ y ∈ n.years, -1000 ≤ y ∧ y ≤ 1000
theorem made_mk {smax nmax stones : Nat} {es : List (Int × Int)} {ns : List Nt} {ys fs : List Int} {b : Int} (b1 : -400 ≤ b) (b2 : b ≤ 200) (h1 : 1 ≤ stones) (h2 : stones ≤ 6) (hs : stones ≤ smax) (hy : ys.length = stones) (hys : ∀ y ∈ ys, b ≤ y ∧ y ≤ b + 60)
    (he : Eras b es fs) (he2 : es.length ≤ 2) (hn : ∀ n ∈ ns, Fine stones es (xOf ys fs) n) (hn8 : ns.length ≤ 8) (hnm : ns.length ≤ nmax) : Made smax nmax ⟨stones, es, ns⟩ ys fs := by
  refine ⟨⟨⟨h1, h2⟩, ⟨by show es.length ≤ 3; omega, fun s hs => (he.ok s hs).1⟩, ⟨hn8, fun n hn' => ?_⟩⟩, hy, he.len, ⟨by simp [xOf], fun p hp => ?_, fun n hn' => (hn n hn').right⟩, fun y hy' => by have := hys y hy'; omega, fun y hy' => by have := he.first y hy'; omega, hs, hnm, he2, fun n hn' => (hn n hn').small, fun s hs => (he.ok s hs).2⟩
  · have := (hn n hn').ok
    exact ⟨this.stone, this.kind, this.years, this.span, this.within, this.era, this.after⟩
  · unfold Dat.base
    by_cases p0 : p = 0
    · subst p0
      simp [xOf]
    · rw [if_neg p0]
      by_cases p7 : p < 7
      · rw [if_pos p7]
        unfold xOf
        rw [if_neg p0, if_pos p7, List.getD_eq_getElem?_getD]
        cases hg : ys[p - 1]? with
        | none => simp
        | some y =>
          have := hys y (List.mem_of_getElem? hg)
          simp
          omega
      · rw [if_neg p7]
        unfold xOf
        rw [if_neg p0, if_neg p7, List.getD_eq_getElem?_getD, List.getD_eq_getElem?_getD]
        cases hg : fs[p - 7]? with
        | none =>
          have : es[p - 7]? = none := by
            rw [List.getElem?_eq_none_iff] at hg ⊢
            rw [← he.len]
            exact hg
          simp [this]
        | some y =>
          obtain ⟨s, hs⟩ : ∃ s, es[p - 7]? = some s := ⟨_, List.getElem?_eq_getElem (by rw [← he.len]; exact (List.getElem?_eq_some_iff.1 hg).1)⟩
          have := he.span _ s y hs hg
          simp [hs]
          exact this
/-- The years of a note, as they are gathered: those ahead of the true one are less. -/
structure Yrs (at_ k : Nat) (year : Int) (l : List Int) : Prop where
  asc : l.Pairwise (· < ·)
  len : l.length ≤ k
  small : ∀ y ∈ l, -1000 ≤ y ∧ y ≤ 1000
  pre : k ≤ at_ → ∀ y ∈ l, y < year
  post : at_ < k → year ∈ l
theorem Yrs.nil (at_ : Nat) (year : Int) : Yrs at_ 0 year [] := ⟨List.Pairwise.nil, Nat.le_refl _, by simp, by simp, by simp⟩
theorem pair_last {l : List Int} (h : l.Pairwise (· < ·)) (z : Int) (hz : l[l.length - 1]? = some z) : ∀ y ∈ l, y ≤ z := by
  intro y hy
  obtain ⟨i, hi⟩ := List.getElem?_of_mem hy
  have hil := (List.getElem?_eq_some_iff.1 hi).1
  by_cases e : i = l.length - 1
  · subst e
    rw [hi] at hz
    injection hz with hz
    omega
  · have h1 := List.pairwise_iff_getElem.1 h i (l.length - 1) hil (by omega) (by omega)
    have e1 := (List.getElem?_eq_some_iff.1 hi).2
    have e2 := (List.getElem?_eq_some_iff.1 hz).2
    omega
theorem pair_snoc {l : List Int} (h : l.Pairwise (· < ·)) (n : Int) (hn : ∀ y ∈ l, y < n) : (l ++ [n]).Pairwise (· < ·) := by
  rw [List.pairwise_append]
  exact ⟨h, List.pairwise_singleton _ _, fun a ha b hb => by rw [List.mem_singleton.1 hb]; exact hn a ha⟩
theorem Yrs.at {at_ : Nat} {year : Int} {l : List Int} (h : Yrs at_ at_ year l) (hy : -1000 ≤ year ∧ year ≤ 1000) : Yrs at_ (at_ + 1) year (l ++ [year]) := by
  refine ⟨pair_snoc h.asc year (h.pre (Nat.le_refl _)), by have := h.len; simp; omega, fun y hy' => ?_, fun hk => by omega, fun _ => by simp⟩
  rcases List.mem_append.1 hy' with hy' | hy'
  · exact h.small y hy'
  · rw [List.mem_singleton.1 hy']; exact hy
theorem Yrs.more {at_ k : Nat} {year n : Int} {l : List Int} (h : Yrs at_ k year l) (hk : k ≠ at_) (hn : -1000 ≤ n ∧ n ≤ 1000) (h1 : l = [] ∨ ∃ z, l[l.length - 1]? = some z ∧ z < n) (h2 : at_ < k ∨ n < year) : Yrs at_ (k + 1) year (l ++ [n]) := by
  refine ⟨pair_snoc h.asc n (fun y hy => ?_), by have := h.len; simp; omega, fun y hy' => ?_, fun hk' y hy => ?_, fun hk' => ?_⟩
  · rcases h1 with rfl | ⟨z, hz, hlt⟩
    · cases hy
    · have := pair_last h.asc z hz y hy
      omega
  · rcases List.mem_append.1 hy' with hy' | hy'
    · exact h.small y hy'
    · rw [List.mem_singleton.1 hy']; exact hn
  · rcases List.mem_append.1 hy with hy | hy
    · exact h.pre (by omega) y hy
    · rw [List.mem_singleton.1 hy]; omega
  · exact List.mem_append_left _ (h.post (by omega))
theorem Yrs.skip {at_ k : Nat} {year : Int} {l : List Int} (h : Yrs at_ k year l) (hk : k ≠ at_) : Yrs at_ (k + 1) year l :=
  ⟨h.asc, by have := h.len; omega, h.small, fun hk' => h.pre (by omega), fun hk' => h.post (by omega)⟩
theorem Yrs.fine {at_ : Nat} {year : Int} {l : List Int} {stones s : Nat} {es : List (Int × Int)} {x : Nat → Int} (h : Yrs at_ 3 year l) (ha : at_ ≤ 2) (hs : s < stones) (hx : x (1 + s) = year) : Fine stones es x ⟨1, s, 0, l, 0, 0⟩ := by
  have hm := h.post (by omega)
  refine ⟨⟨hs, ⟨Nat.le_refl _, by simp⟩, fun _ => ⟨rfl, rfl, rfl, List.length_pos_of_mem hm, h.len, fun y hy => by have := h.small y hy; omega, h.asc⟩, fun hk => absurd rfl hk, fun hk => by simp at hk, fun hk => by simp at hk, fun hk => by simp at hk⟩, ?_, ⟨fun hk => absurd rfl hk, h.small⟩⟩
  simp only [Nt.right, if_pos]
  rw [hx]
  exact hm
theorem fine_span {stones s : Nat} {es : List (Int × Int)} {x : Nat → Int} {lo hi : Int} (hs : s < stones) (h1 : -1000 ≤ lo) (h2 : lo ≤ x (1 + s)) (h3 : x (1 + s) ≤ hi) (h4 : hi ≤ 1000) : Fine stones es x ⟨2, s, 0, [], lo, hi⟩ :=
  ⟨⟨hs, ⟨by simp, by simp⟩, fun hk => by simp at hk, fun _ => ⟨rfl, by show -3000 ≤ lo; omega, by show lo ≤ hi; omega, by show hi ≤ 3000; omega⟩, fun _ => rfl, fun hk => by simp at hk, fun hk => by simp at hk⟩, by simp [Nt.right]; omega, ⟨fun _ => ⟨h1, h4⟩, by simp⟩⟩
theorem fine_era {stones s k : Nat} {es : List (Int × Int)} {x : Nat → Int} {lo hi : Int} (hs : s < stones) (hk : k < es.length) (h1 : 1 ≤ lo) (h2 : lo ≤ x (1 + s) - x (7 + k) + 1) (h3 : x (1 + s) - x (7 + k) + 1 ≤ hi) (h4 : hi ≤ 1000) : Fine stones es x ⟨3, s, k, [], lo, hi⟩ :=
  ⟨⟨hs, ⟨by simp, by simp⟩, fun hk => by simp at hk, fun _ => ⟨rfl, by show -3000 ≤ lo; omega, by show lo ≤ hi; omega, by show hi ≤ 3000; omega⟩, fun hk => by simp at hk, fun _ => ⟨hk, h1⟩, fun hk => by simp at hk⟩, by simp [Nt.right]; omega, ⟨fun _ => ⟨by show -1000 ≤ lo; omega, h4⟩, by simp⟩⟩
theorem fine_after {stones s t : Nat} {es : List (Int × Int)} {x : Nat → Int} {lo hi : Int} (hs : s < stones) (ht : t < stones) (hst : t ≠ s) (h1 : -1000 ≤ lo) (h2 : lo ≤ x (1 + s) - x (1 + t)) (h3 : x (1 + s) - x (1 + t) ≤ hi) (h4 : hi ≤ 1000) : Fine stones es x ⟨4, s, t, [], lo, hi⟩ :=
  ⟨⟨hs, ⟨by simp, by simp⟩, fun hk => by simp at hk, fun _ => ⟨rfl, by show -3000 ≤ lo; omega, by show lo ≤ hi; omega, by show hi ≤ 3000; omega⟩, fun hk => by simp at hk, fun hk => by simp at hk, fun _ => ⟨ht, hst⟩⟩, by simp [Nt.right]; omega, ⟨fun _ => ⟨h1, h4⟩, by simp⟩⟩
end Go.Proofs.Ytllkkkkladlikaa.Dt
