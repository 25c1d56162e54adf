/- DateWrongs, plainly: all lists of so many notes, in their order; which one is the first. -/
import Derived.Test.YtcbdcdpoackplaaEp
namespace Go.Proofs.Ytcbdcdpoackplaa
open Go.RowKit Dt

/-- All lists of so many numbers from f on, below n, ascending. -/
def listsP : Nat → Nat → Nat → List (List Nat)
  | 0, _, _ => [[]]
  | m + 1, f, n => (List.range' f (n - f)).flatMap fun i => (listsP m (i + 1) n).map (i :: ·)
/-- The first of them, up to the number i. -/
def listsTo (m f i n : Nat) : List (List Nat) := (List.range' f (i - f)).flatMap fun j => (listsP m (j + 1) n).map (j :: ·)
theorem listsTo_start (m f n : Nat) : listsTo m f f n = [] := by simp [listsTo]
theorem listsTo_all (m f n : Nat) : listsTo m f n n = listsP (m + 1) f n := rfl
theorem listsTo_succ (m f i n : Nat) (h : f ≤ i) : listsTo m f (i + 1) n = listsTo m f i n ++ (listsP m (i + 1) n).map (i :: ·) := by
  unfold listsTo
  rw [show i + 1 - f = (i - f) + 1 by omega, List.range'_concat, List.flatMap_append]
  simp
  rw [show f + (i - f) = i by omega]
theorem listsTo_le (m f i n : Nat) (h : f ≤ i) (hn : i ≤ n) : (listsTo m f i n).length ≤ (listsTo m f n n).length := by
  obtain ⟨k, rfl⟩ : ∃ k, n = i + k := ⟨n - i, by omega⟩
  have : ∀ q, (listsTo m f i (i + k)).length ≤ (listsTo m f (i + q) (i + k)).length := by
    intro q
    induction q with
    | zero => exact Nat.le_refl _
    | succ q ih =>
      rw [show i + (q + 1) = (i + q) + 1 by omega, listsTo_succ _ _ _ _ (by omega), List.length_append]
      omega
  exact this k
def natsOf (s : Nat) : List Nat := (List.range 8).filter fun i => s.testBit i
def setOf (l : List Nat) : Nat := l.foldl (fun a i => a + 2 ^ i) 0
def ints (l : List Nat) : List Int := l.map fun i : Nat => (i : Int)
theorem ints_nats (s : Nat) : ints (natsOf s) = setTo s 8 := rfl
set_option maxRecDepth 100000 in
theorem lists_len : ∀ m, m < 6 → ∀ f, f < 7 → ∀ n, n < 6 → (listsP m f n).length ≤ 32 := by decide +kernel
set_option maxRecDepth 100000 in
theorem lists_mem : ∀ n, n < 6 → ∀ m, m < 6 → ∀ l ∈ listsP m 0 n, l.length = m ∧ setOf l < 2 ^ n ∧ natsOf (setOf l) = l := by decide +kernel
set_option maxRecDepth 100000 in
theorem lists_asc : ∀ n, n < 6 → ∀ m, m < 6 → (listsP m 0 n).Pairwise fun a b => cmpL (ints a) (ints b) = -1 := by decide +kernel
set_option maxRecDepth 100000 in
theorem lists_has : ∀ n, n < 6 → ∀ s, s < 2 ^ n → natsOf s ∈ listsP (natsOf s).length 0 n ∧ (natsOf s).length < 6 ∧ setOf (natsOf s) = s := by decide +kernel
theorem set_bit : ∀ s, s < 32 → ∀ i, i < 8 → s.testBit i = decide (i ∈ natsOf s) := by decide +kernel
theorem nats_lt : ∀ n, n < 6 → ∀ s, s < 2 ^ n → ∀ i ∈ natsOf s, i < n := by decide +kernel
/-- No list before the i-th one of so many notes will do. -/
structure NotYet (d : Dat) (many i : Nat) : Prop where
  less : ∀ m, m < many → ∀ l ∈ listsP m 0 d.notes.length, Dat.mayS d (setOf l) = false
  here : ∀ j l, j < i → (listsP many 0 d.notes.length)[j]? = some l → Dat.mayS d (setOf l) = false
theorem NotYet.start (d : Dat) : NotYet d 0 0 := ⟨fun m h => absurd h (by omega), fun j l h => absurd h (by omega)⟩
theorem NotYet.step {d : Dat} {many i : Nat} {l : List Nat} (h : NotYet d many i) (hl : (listsP many 0 d.notes.length)[i]? = some l) (hn : Dat.mayS d (setOf l) = false) : NotYet d many (i + 1) :=
  ⟨h.less, fun j l' hj hl' => by
    by_cases e : j = i
    · subst e
      rw [hl] at hl'
      injection hl' with hl'
      subst hl'
      exact hn
    · exact h.here j l' (by omega) hl'⟩
theorem NotYet.next {d : Dat} {many i : Nat} (h : NotYet d many i) (hi : (listsP many 0 d.notes.length).length ≤ i) : NotYet d (many + 1) 0 :=
  ⟨fun m hm l hl => by
    by_cases e : m = many
    · subst e
      obtain ⟨j, hj⟩ := List.getElem?_of_mem hl
      exact h.here j l (by have := (List.getElem?_eq_some_iff.1 hj).1; omega) hj
    · exact h.less m (by omega) l hl, fun j l h => absurd h (by omega)⟩
theorem NotYet.never {d : Dat} {i : Nat} (h : NotYet d (d.notes.length + 1) i) (h5 : d.notes.length < 6) : False := by
  have hm := may_none d
  obtain ⟨h1, h2, h3⟩ := lists_has d.notes.length h5 (2 ^ d.notes.length - 1) (by have := Nat.pow_pos (n := d.notes.length) (show 0 < 2 by omega); omega)
  have hl : (natsOf (2 ^ d.notes.length - 1)).length ≤ d.notes.length := by
    have : ∀ n, n < 6 → (natsOf (2 ^ n - 1)).length ≤ n := by decide +kernel
    exact this _ h5
  have := h.less _ (by omega) _ h1
  rw [h3, hm] at this
  cases this
/-- The first list that will do is the least set. -/
theorem first_least {d : Dat} {many i s : Nat} {l : List Nat} (h5 : d.notes.length < 6) (hm6 : many < 6) (h : NotYet d many i) (hl : (listsP many 0 d.notes.length)[i]? = some l) (hy : Dat.mayS d (setOf l) = true) (hs : Dat.Least d s) : setTo s 8 = ints l := by
  obtain ⟨h1, h2, h3⟩ := lists_has d.notes.length h5 s hs.low
  obtain ⟨g1, g2, g3⟩ := lists_mem d.notes.length h5 many hm6 l (List.mem_of_getElem? hl)
  have hle := hs.least (setOf l) g2 hy
  have hsm := hs.may
  have hlen : many ≤ (natsOf s).length := by
    refine Nat.le_of_not_lt fun hlt => ?_
    have := h.less _ hlt _ h1
    rw [h3, hsm] at this
    cases this
  unfold cmpS orI at hle
  rw [← ints_nats, ← ints_nats, g3] at hle
  rw [← ints_nats]
  have e1 : (ints (natsOf s)).length = (natsOf s).length := by simp [ints]
  have e2 : (ints l).length = many := by simp [ints, g1]
  rw [e1, e2] at hle
  by_cases hgt : many < (natsOf s).length
  · have : cmpI ((natsOf s).length : Int) (many : Int) = 1 := by
      unfold cmpI
      rw [if_neg (by omega), if_pos (by omega)]
    rw [this] at hle
    simp at hle
  · have hmn : (natsOf s).length = many := by omega
    rw [hmn] at h1 hle
    have : cmpI (many : Int) (many : Int) = 0 := (cmpI_zero _ _).2 rfl
    rw [this, if_pos rfl] at hle
    obtain ⟨j, hj⟩ := List.getElem?_of_mem h1
    obtain ⟨hjl, ej⟩ := List.getElem?_eq_some_iff.1 hj
    obtain ⟨hil, ei⟩ := List.getElem?_eq_some_iff.1 hl
    rcases Nat.lt_trichotomy j i with hji | hji | hji
    · have := h.here j _ hji hj
      rw [h3, hsm] at this
      cases this
    · subst hji
      rw [hl] at hj
      injection hj with hj
      rw [hj]
    · have hp := List.pairwise_iff_getElem.1 (lists_asc d.notes.length h5 many hm6) i j hil hjl hji
      rw [ei, ej] at hp
      have hq := cmpL_neg (ints l) (ints (natsOf s))
      rw [hp] at hq
      omega
end Go.Proofs.Ytcbdcdpoackplaa
