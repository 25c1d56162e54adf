/- SightLooked, plain: a square whose letter is known is as good as left out. -/
import Derived.Test.YthhajbgddifenaaRe
import Derived.Test.YthhajbgddifenaaSp
import Derived.Test.YthhajbgddifenaaRp
namespace Go.Proofs.Ythhajbgddifenaa

theorem mem_lettersG {cs : List Cutter} {m T q : Nat} {z : Fin 256} : z ∈ lettersG cs m T q ↔ ∃ (k : Nat) (c : Cutter) (i : Nat), cs[k]? = some c ∧ c.sum m ≤ T ∧ i < c.shapes.length ∧ c.need q i ≤ c.fewest q + (T - c.sum m) ∧ z = letF (c.shapes.getD i ⟨0, 0⟩).letter := by
  unfold lettersG lettersTo
  rw [List.mem_flatMap]
  constructor
  · rintro ⟨x, hx, hz⟩
    obtain ⟨c, hc, hs, hd⟩ := mem_fits_iff hx
    have e : cs.getD x.1.1 ⟨[], fun _ _ => 0⟩ = c := by simp [List.getD, hc]
    unfold addOf at hz
    rw [e] at hz
    unfold Cutter.choices Cutter.upto at hz
    rw [List.mem_filterMap] at hz
    obtain ⟨i, hi, h⟩ := hz
    by_cases hn : c.need q i ≤ c.fewest q + x.1.2
    · rw [if_pos hn] at h
      injection h with h
      exact ⟨x.1.1, c, i, hc, hs, List.mem_range.1 hi, by rw [hd] at hn; exact hn, h.symm⟩
    · rw [if_neg hn] at h
      cases h
  · rintro ⟨k, c, i, hc, hs, hi, hn, rfl⟩
    refine ⟨_, mem_fits hc hs, ?_⟩
    have e : cs.getD k ⟨[], fun _ _ => 0⟩ = c := by simp [List.getD, hc]
    unfold addOf
    simp only
    rw [e]
    exact mem_choices hi hn
theorem orderOf_congr {a b : List (Fin 256)} (h : ∀ z, z ∈ a ↔ z ∈ b) : orderOf a = orderOf b := by
  unfold orderOf
  apply List.filter_congr
  intro x _
  rw [Bool.eq_iff_iff, List.any_eq_true, List.any_eq_true]
  constructor
  · rintro ⟨z, hz, e⟩; exact ⟨z, (h z).1 hz, e⟩
  · rintro ⟨z, hz, e⟩; exact ⟨z, (h z).2 hz, e⟩
theorem le_leastOf {n a : Nat} {l : List Nat} (ha : n ≤ a) (h : ∀ x ∈ l, n ≤ x) : n ≤ leastOf a l := by
  unfold leastOf
  induction l generalizing a with
  | nil => exact ha
  | cons x l ih =>
    rw [List.foldl_cons]
    have := h x (by simp)
    exact ih (by omega) fun y hy => h y (by simp [hy])

/-- The line without a square, and without the marks that it needs. -/
def Line.without (L : Line) (q n : Nat) : Line := { L with squares := L.squares.eraseIdx q, total := L.total - n }
def skip (q p : Nat) : Nat := if p < q then p else p + 1
theorem without_need (L : Line) (q n : Nat) (S : List Shape) (p i : Nat) : (cutterOf (L.without q n) S).need p i = (cutterOf L S).need (skip q p) i := by
  rw [cutterOf_need, cutterOf_need]
  have e : (L.without q n).squares.getD p [] = L.squares.getD (skip q p) [] := by
    unfold Line.without skip
    simp only [List.getD, List.getElem?_eraseIdx]
    split <;> rfl
  rw [e]
  rfl
theorem without_fewest (L : Line) (q n : Nat) (S : List Shape) (p : Nat) : (cutterOf (L.without q n) S).fewest p = (cutterOf L S).fewest (skip q p) := by
  unfold Cutter.fewest Cutter.row
  have e : (List.range (cutterOf (L.without q n) S).shapes.length).map ((cutterOf (L.without q n) S).need p) = (List.range (cutterOf L S).shapes.length).map ((cutterOf L S).need (skip q p)) := List.map_congr_left fun i _ => without_need L q n S p i
  rw [e]
theorem without_sum_lt (L : Line) (q n : Nat) (S : List Shape) (k : Nat) (hk : k ≤ q) : (cutterOf (L.without q n) S).sum k = (cutterOf L S).sum k := by
  induction k with
  | zero => simp [Cutter.sum]
  | succ k ih => rw [Cutter.sum_succ, Cutter.sum_succ, ih (by omega), without_fewest, show skip q k = k by unfold skip; rw [if_pos (by omega)]]
theorem without_sum (L : Line) (q n : Nat) (S : List Shape) (d : Nat) : (cutterOf (L.without q n) S).sum (q + d) + (cutterOf L S).fewest q = (cutterOf L S).sum (q + d + 1) := by
  induction d with
  | zero => rw [Nat.add_zero, without_sum_lt L q n S q (Nat.le_refl _), Cutter.sum_succ]
  | succ d ih => rw [show q + (d + 1) = q + d + 1 by omega, Cutter.sum_succ, without_fewest, show skip q (q + d) = q + d + 1 by unfold skip; rw [if_neg (by omega)], Cutter.sum_succ (k := q + d + 1)]; omega

theorem known_fewest_other (q z : Nat) (c : Cutter) (p : Nat) (hp : p ≠ q) : (knownC q z c).fewest p = c.fewest p := by
  unfold Cutter.fewest Cutter.row
  have e : (List.range (knownC q z c).shapes.length).map ((knownC q z c).need p) = (List.range c.shapes.length).map (c.need p) := List.map_congr_left fun i _ => by
    show (if p = q ∧ (c.shapes.getD i ⟨0, 0⟩).letter ≠ z then 81 else c.need p i) = c.need p i
    rw [if_neg (fun h => hp h.1)]
  rw [e]
theorem known_fewest (q z : Nat) (c : Cutter) (i : Nat) (hi : i < c.shapes.length) (hz : (c.shapes.getD i ⟨0, 0⟩).letter = z) (h81 : c.need q i ≤ 81) (huniq : ∀ j, j < c.shapes.length → (c.shapes.getD j ⟨0, 0⟩).letter = z → j = i) : (knownC q z c).fewest q = c.need q i := by
  have hs : (knownC q z c).shapes.length = c.shapes.length := rfl
  unfold Cutter.fewest Cutter.row
  apply Nat.le_antisymm
  · refine leastOf_le_mem (List.mem_map.2 ⟨i, List.mem_range.2 hi, ?_⟩)
    show (if q = q ∧ (c.shapes.getD i ⟨0, 0⟩).letter ≠ z then 81 else c.need q i) = c.need q i
    rw [if_neg (fun h => h.2 hz)]
  · refine le_leastOf h81 fun x hx => ?_
    obtain ⟨j, hj, rfl⟩ := List.mem_map.1 hx
    have hj' := List.mem_range.1 hj
    rw [hs] at hj'
    show c.need q i ≤ (if q = q ∧ (c.shapes.getD j ⟨0, 0⟩).letter ≠ z then 81 else c.need q j)
    by_cases e : (c.shapes.getD j ⟨0, 0⟩).letter = z
    · rw [if_neg (fun h => h.2 e), huniq j hj' e]
      exact Nat.le_refl _
    · rw [if_pos ⟨rfl, e⟩]
      exact h81
theorem known_sum_lt (q z : Nat) (c : Cutter) (k : Nat) (hk : k ≤ q) : (knownC q z c).sum k = c.sum k := by
  induction k with
  | zero => simp [Cutter.sum]
  | succ k ih => rw [Cutter.sum_succ, Cutter.sum_succ, ih (by omega), known_fewest_other q z c k (by omega)]
theorem known_sum (q z : Nat) (c : Cutter) (d : Nat) : (knownC q z c).sum (q + d + 1) + c.fewest q = c.sum (q + d + 1) + (knownC q z c).fewest q := by
  induction d with
  | zero => rw [Nat.add_zero, Cutter.sum_succ, Cutter.sum_succ, known_sum_lt q z c q (Nat.le_refl _)]; omega
  | succ d ih =>
    have e := known_fewest_other q z c (q + d + 1) (by omega)
    rw [show q + (d + 1) + 1 = q + d + 1 + 1 by omega, Cutter.sum_succ, Cutter.sum_succ (k := q + d + 1), e]
    omega
theorem letter_uniq {H : Hand} (hH : H.ok) {i j : Nat} (hi : i < H.shapes.length) (hj : j < H.shapes.length) (h : (H.shapes.getD j ⟨0, 0⟩).letter = (H.shapes.getD i ⟨0, 0⟩).letter) : j = i := by
  have hp := hH.2.2.2.2.2.2
  rw [List.pairwise_iff_getElem] at hp
  simp only [List.getD, List.getElem?_eq_getElem hi, List.getElem?_eq_getElem hj, Option.getD_some] at h
  rcases Nat.lt_trichotomy i j with h1 | h1 | h1
  · have := hp i j hi hj h1; omega
  · exact h1.symm
  · have := hp j i hj hi h1; omega

/-- What holds of a letter that fits a square of a line of one hand. -/
structure Knows (L : Line) (H : Hand) (q i z n : Nat) : Prop where
  hand : L.hands = [H]
  ok : L.ok
  sq : q < L.squares.length
  fits : LetterFits L H q i
  letter : (H.shapes.getD i ⟨0, 0⟩).letter = z
  need : (cutterOf L H.shapes).need q i = n
section
variable {L : Line} {H : Hand} {q i z n : Nat}
theorem Knows.hok (h : Knows L H q i z n) : H.ok := h.ok.2.2.1 H (by rw [h.hand]; simp)
theorem Knows.few (h : Knows L H q i z n) : (knownC q z (cutterOf L H.shapes)).fewest q = n := by
  rw [← h.need]
  exact known_fewest q z _ i h.fits.2.1 h.letter (need_le L h.ok H.shapes q i) fun j hj e => letter_uniq h.hok h.fits.2.1 hj (e.trans h.letter.symm)
theorem Knows.le (h : Knows L H q i z n) : n ≤ L.total := by
  obtain ⟨h1, h2, h3⟩ := h.fits
  rw [h.need] at h3
  have h4 : (cutterOf L H.shapes).fewest q ≤ sumOf L H := by
    have h5 := (cutterOf L H.shapes).sum_mono (j := q + 1) (k := L.squares.length) h.sq
    rw [Cutter.sum_succ] at h5
    unfold sumOf
    omega
  omega
theorem Knows.sums (h : Knows L H q i z n) : (cutterOf (L.without q n) H.shapes).sum (L.squares.length - 1) + (cutterOf L H.shapes).fewest q = sumOf L H ∧
    (knownC q z (cutterOf L H.shapes)).sum L.squares.length + (cutterOf L H.shapes).fewest q = sumOf L H + n := by
  have hq := h.sq
  obtain ⟨d, hd⟩ : ∃ d, L.squares.length = q + d + 1 := ⟨L.squares.length - q - 1, by omega⟩
  have h1 := without_sum L q n H.shapes d
  have h2 := known_sum q z (cutterOf L H.shapes) d
  rw [h.few] at h2
  unfold sumOf
  rw [hd, show q + d + 1 - 1 = q + d by omega]
  exact ⟨h1, h2⟩
theorem Knows.len (h : Knows L H q i z n) : (L.without q n).squares.length = L.squares.length - 1 := by
  show (L.squares.eraseIdx q).length = _
  rw [List.length_eraseIdx, if_pos h.sq]
theorem Knows.hands (h : Knows L H q i z n) : handsOf (L.without q n) ≠ [] := by
  have h1 : (0 : Nat) ∈ handsOf (L.without q n) := by
    refine mem_hands.2 ⟨H, by show L.hands[0]? = some H; rw [h.hand]; rfl, ?_⟩
    obtain ⟨h1, h2, h3⟩ := h.fits
    obtain ⟨h4, _⟩ := h.sums
    rw [h.need] at h3
    show (cutterOf (L.without q n) H.shapes).sum (L.without q n).squares.length ≤ L.total - n
    rw [h.len]
    omega
  exact List.ne_nil_of_mem h1
theorem Knows.ok' (h : Knows L H q i z n) (h2 : 2 ≤ L.squares.length) : (L.without q n).ok := by
  obtain ⟨a1, a2, a3, a4, a5, a6, a7, a8, a9⟩ := h.ok
  refine ⟨a1, a2, a3, a4, a5, ?_, ?_, ?_, fun x hx => a9 x (List.mem_of_mem_eraseIdx hx)⟩
  · show L.total - n ≤ 40; omega
  · rw [h.len]; omega
  · rw [h.len]; omega
theorem Knows.size (h : Knows L H q i z n) (p : Nat) : setSize [knownC q z (cutterOf L H.shapes)] L.squares.length L.total (skip q p) = (orderOf (allLetters (L.without q n) p)).length := by
  unfold setSize
  congr 1
  apply orderOf_congr
  intro y
  obtain ⟨s1, s2⟩ := h.sums
  have hle := h.le
  have hsk : skip q p ≠ q := by unfold skip; split <;> omega
  have hf := known_fewest_other q z (cutterOf L H.shapes) (skip q p) hsk
  rw [mem_lettersG, mem_letters]
  have hn : ∀ j, (knownC q z (cutterOf L H.shapes)).need (skip q p) j = (cutterOf (L.without q n) H.shapes).need p j := fun j => by
    rw [without_need]
    show (if skip q p = q ∧ _ then 81 else _) = _
    rw [if_neg (fun e => hsk e.1)]
  have hw := without_fewest L q n H.shapes p
  constructor
  · rintro ⟨k, c, j, hc, hs, hj, hnd, rfl⟩
    rcases k with _ | k
    · have hc' : knownC q z (cutterOf L H.shapes) = c := by simpa using hc
      subst hc'
      refine ⟨0, H, j, by show L.hands[0]? = some H; rw [h.hand]; rfl, ⟨?_, hj, ?_⟩, rfl⟩
      · show (cutterOf (L.without q n) H.shapes).sum (L.without q n).squares.length ≤ L.total - n
        rw [h.len]; omega
      · show _ ≤ (cutterOf (L.without q n) H.shapes).fewest p + (L.total - n - (cutterOf (L.without q n) H.shapes).sum (L.without q n).squares.length)
        rw [h.len, hw, ← hn]
        omega
    · simp at hc
  · rintro ⟨k, H', j, hH, ⟨hs, hj, hnd⟩, rfl⟩
    have hH' : L.hands[k]? = some H' := hH
    rw [h.hand] at hH'
    rcases k with _ | k
    · obtain rfl : H = H' := by simpa using hH'
      have hs' : (cutterOf (L.without q n) H.shapes).sum (L.without q n).squares.length ≤ L.total - n := hs
      have hnd' : (cutterOf (L.without q n) H.shapes).need p j ≤ (cutterOf (L.without q n) H.shapes).fewest p + (L.total - n - (cutterOf (L.without q n) H.shapes).sum (L.without q n).squares.length) := hnd
      rw [h.len] at hs' hnd'
      refine ⟨0, _, j, rfl, by omega, hj, ?_, rfl⟩
      rw [hn, hf, ← hw]
      omega
    · simp at hH'
/-- How many letters some texts have. -/
def manyOf (ts : List ByteArray) : Nat := (ts.map ByteArray.size).sum
theorem manyOf_snoc (ts : List ByteArray) (t : ByteArray) : manyOf (ts ++ [t]) = manyOf ts + t.size := by simp [manyOf]
theorem orderText_size (zs : List (Fin 256)) : (orderText zs).size = (orderOf zs).length := by
  show (((orderOf zs).map UInt8.ofNat).toArray).size = _
  simp
theorem sum_skip (f : Nat → Nat) (q : Nat) : ∀ d, ((List.range (q + d + 1)).map fun o => if o = q then 0 else f o).sum = ((List.range (q + d)).map fun p => f (skip q p)).sum := by
  have low : ∀ k, k ≤ q → ((List.range k).map fun o => if o = q then 0 else f o).sum = ((List.range k).map fun p => f (skip q p)).sum := by
    intro k
    induction k with
    | zero => intro _; rfl
    | succ k ih =>
      intro hk
      have := ih (by omega)
      simp only [List.range_succ, List.map_append, List.sum_append, List.map_cons, List.map_nil, List.sum_cons, List.sum_nil]
      rw [this, if_neg (by omega), show skip q k = k by unfold skip; rw [if_pos (by omega)]]
  intro d
  induction d with
  | zero =>
    have := low q (Nat.le_refl _)
    simp only [Nat.add_zero, List.range_succ, List.map_append, List.sum_append, List.map_cons, List.map_nil, List.sum_cons, List.sum_nil]
    rw [this]
    simp
  | succ d ih =>
    have sr : ∀ (g : Nat → Nat) (k : Nat), ((List.range (k + 1)).map g).sum = ((List.range k).map g).sum + g k := fun g k => by simp [List.range_succ]
    rw [show q + (d + 1) + 1 = q + d + 1 + 1 by omega, sr, show q + (d + 1) = q + d + 1 by omega, sr (fun p => f (skip q p)), ih, if_neg (by omega), show skip q (q + d) = q + d + 1 by unfold skip; rw [if_neg (by omega)]]
theorem Knows.rest (h : Knows L H q i z n) : restSum ((cuttersOf L).map (knownC q z)) L.squares.length L.total q L.squares.length = manyOf (lettersOf (L.without q n)) := by
  have hq := h.sq
  obtain ⟨d, hd⟩ : ∃ d, L.squares.length = q + d + 1 := ⟨L.squares.length - q - 1, by omega⟩
  have ec : (cuttersOf L).map (knownC q z) = [knownC q z (cutterOf L H.shapes)] := by unfold cuttersOf; rw [h.hand]; rfl
  have hl := h.len
  rw [ec]
  unfold restSum manyOf lettersOf
  rw [hl]
  have e1 := sum_skip (setSize [knownC q z (cutterOf L H.shapes)] L.squares.length L.total) q d
  rw [← hd] at e1
  rw [e1, List.map_map, show L.squares.length - 1 = q + d by omega]
  congr 1
  apply List.map_congr_left
  intro p _
  rw [h.size p]
  exact (orderText_size _).symm
end
section
variable {L : Line} {H : Hand} {q i z n : Nat}
/-- The line of a square and a letter alone. -/
def Line.alone (L : Line) (q s : Nat) : Line := ⟨[⟨0, 0, [⟨65, s⟩]⟩], L.worn, L.scr, L.total, [L.squares.getD q []]⟩
theorem Knows.alone_ok (h : Knows L H q i z n) : (L.alone q (H.shapes.getD i ⟨0, 0⟩).strokes).ok := by
  obtain ⟨a1, a2, a3, a4, a5, a6, a7, a8, a9⟩ := h.ok
  have hi := h.fits.2.1
  have hs := h.hok.2.2.2.2.2.1 _ (List.getElem_mem hi)
  have e : H.shapes.getD i ⟨0, 0⟩ = H.shapes[i] := by simp [List.getD, hi]
  rw [e]
  refine ⟨by simp [Line.alone], by simp [Line.alone], fun x hx => ?_, a4, a5, a6, by simp [Line.alone], by simp [Line.alone], fun x hx => ?_⟩
  · obtain rfl : x = ⟨0, 0, [⟨65, H.shapes[i].strokes⟩]⟩ := by simpa [Line.alone] using hx
    refine ⟨by show (-3000 : Int) ≤ 0; decide, Int.le_refl _, by show (0 : Int) ≤ 3000; decide, by simp, by simp, fun s hs' => ?_, by simp⟩
    obtain rfl : s = ⟨65, H.shapes[i].strokes⟩ := by simpa using hs'
    exact ⟨Nat.le_refl 65, by show 65 ≤ 90; decide, hs.2.2.1, hs.2.2.2⟩
  · obtain rfl : x = L.squares.getD q [] := by simpa [Line.alone] using hx
    have e2 : L.squares.getD q [] = L.squares[q]'h.sq := by simp [List.getD, h.sq]
    rw [e2]
    exact a9 _ (List.getElem_mem h.sq)
theorem Knows.marks (h : Knows L H q i z n) : marksOf (L.alone q (H.shapes.getD i ⟨0, 0⟩).strokes) = n := by
  have h81 := need_le L h.ok H.shapes q i
  rw [← h.need]
  rw [cutterOf_need] at h81 ⊢
  unfold marksOf sumsOf cuttersOf
  simp only [Line.alone, List.map_cons, List.map_nil, leastOf, List.foldl_cons, List.foldl_nil, Cutter.sum, List.length_cons, List.length_nil, Nat.zero_add, List.range_one, List.sum_cons, List.sum_nil, Cutter.fewest, Cutter.row, cutterOf]
  simp only [List.getD, List.getElem?_cons_zero, Option.getD_some] at h81 ⊢
  omega
end
end Go.Proofs.Ythhajbgddifenaa
