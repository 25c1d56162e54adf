/- Plain laws: which hands and letters fit, said by membership; with more known, no more fit. -/
import Derived.Test.YthhajbgddifenaaTr
import Derived.Test.YthhajbgddifenaaYr
namespace Go.Proofs.Ythhajbgddifenaa

theorem fitAt_some {cs : List Cutter} {m T i : Nat} {x : Fit cs m T} (h : fitAt cs m T i = some x) : x.1.1 = i ∧ ∃ c, cs[i]? = some c ∧ c.sum m ≤ T ∧ x.1.2 = T - c.sum m := by
  cases hc : cs[i]? with
  | none =>
    exfalso
    unfold fitAt at h
    split at h
    · cases h
    · rename_i c h1 ; rw [hc] at h1 ; cases h1
  | some c =>
    by_cases hs : c.sum m ≤ T
    · rw [fitAt_yes cs m T i c hc hs] at h
      injection h with h
      subst h
      exact ⟨rfl, c, rfl, hs, rfl⟩
    · rw [fitAt_no cs m T i c hc hs] at h
      cases h
theorem mem_fits_iff {cs : List Cutter} {m T : Nat} {x : Fit cs m T} (hx : x ∈ fits cs m T) : ∃ c, cs[x.1.1]? = some c ∧ c.sum m ≤ T ∧ x.1.2 = T - c.sum m := by
  unfold fits fitsTo at hx
  rw [List.mem_filterMap] at hx
  obtain ⟨i, _, h⟩ := hx
  obtain ⟨e, c, hc, hs, hd⟩ := fitAt_some h
  subst e
  exact ⟨c, hc, hs, hd⟩
theorem cutters_of {L : Line} {k : Nat} {c : Cutter} (h : (cuttersOf L)[k]? = some c) : ∃ H, L.hands[k]? = some H ∧ c = cutterOf L H.shapes := by
  unfold cuttersOf at h
  rw [List.getElem?_map, Option.map_eq_some_iff] at h
  obtain ⟨H, h1, h2⟩ := h
  exact ⟨H, h1, h2.symm⟩
/-- The marks that a hand needs at least. -/
def sumOf (L : Line) (H : Hand) : Nat := (cutterOf L H.shapes).sum L.squares.length
theorem mem_hands {L : Line} {k : Nat} : k ∈ handsOf L ↔ ∃ H : Hand, L.hands[k]? = some H ∧ sumOf L H ≤ L.total := by
  constructor
  · intro h
    unfold handsOf at h
    obtain ⟨x, hx, rfl⟩ := List.mem_map.1 h
    obtain ⟨c, hc, hs, _⟩ := mem_fits_iff hx
    obtain ⟨H, hH, rfl⟩ := cutters_of hc
    exact ⟨H, hH, hs⟩
  · rintro ⟨H, hH, hs⟩
    unfold handsOf
    exact List.mem_map.2 ⟨_, mem_fits (cutters_at hH) hs, rfl⟩
/-- The letter with number i of a hand fits square q. -/
def LetterFits (L : Line) (H : Hand) (q i : Nat) : Prop := sumOf L H ≤ L.total ∧ i < H.shapes.length ∧ (cutterOf L H.shapes).need q i ≤ (cutterOf L H.shapes).fewest q + (L.total - sumOf L H)
theorem mem_letters {L : Line} {q : Nat} {z : Fin 256} : z ∈ allLetters L q ↔ ∃ (k : Nat) (H : Hand) (i : Nat), L.hands[k]? = some H ∧ LetterFits L H q i ∧ z = letF (H.shapes.getD i ⟨0, 0⟩).letter := by
  unfold allLetters lettersTo
  rw [List.mem_flatMap]
  constructor
  · rintro ⟨x, hx, hz⟩
    obtain ⟨c, hc, hs, hd⟩ := mem_fits_iff hx
    obtain ⟨H, hH, rfl⟩ := cutters_of hc
    have e : (cuttersOf L).getD x.1.1 ⟨[], fun _ _ => 0⟩ = cutterOf L H.shapes := by simp [List.getD, hc]
    unfold addOf at hz
    rw [e] at hz
    unfold Cutter.choices Cutter.upto at hz
    rw [List.mem_filterMap] at hz
    obtain ⟨i, hi, h⟩ := hz
    by_cases hn : (cutterOf L H.shapes).need q i ≤ (cutterOf L H.shapes).fewest q + x.1.2
    · rw [if_pos hn] at h
      injection h with h
      exact ⟨x.1.1, H, i, hH, ⟨hs, List.mem_range.1 hi, by rw [hd] at hn; exact hn⟩, h.symm⟩
    · rw [if_neg hn] at h
      cases h
  · rintro ⟨k, H, i, hH, ⟨hs, hi, hn⟩, rfl⟩
    have hc := cutters_at hH
    refine ⟨_, mem_fits hc hs, ?_⟩
    have e : (cuttersOf L).getD k ⟨[], fun _ _ => 0⟩ = cutterOf L H.shapes := by simp [List.getD, hc]
    unfold addOf
    simp only
    rw [e]
    exact mem_choices (c := cutterOf L H.shapes) hi hn
theorem mem_orderText {zs : List (Fin 256)} {u : UInt8} : u ∈ (orderText zs).data.toList ↔ ∃ z ∈ zs, u = UInt8.ofNat z.val := by
  show u ∈ (((orderOf zs).map UInt8.ofNat).toArray).toList ↔ _
  simp only [List.mem_map]
  constructor
  · rintro ⟨x, hx, rfl⟩
    obtain ⟨z, hz, rfl⟩ := mem_orderOf.1 hx
    exact ⟨z, hz, rfl⟩
  · rintro ⟨z, hz, rfl⟩
    exact ⟨z.val, mem_orderOf.2 ⟨z, hz, rfl⟩, rfl⟩
theorem orderText_congr {a b : List (Fin 256)} (h : ∀ z, z ∈ a ↔ z ∈ b) : orderText a = orderText b := by
  have e : orderOf a = orderOf b := by
    unfold orderOf
    apply List.filter_congr
    intro x _
    rw [Bool.eq_iff_iff, List.any_eq_true, List.any_eq_true]
    constructor
    · rintro ⟨z, hz, e⟩; exact ⟨z, (h z).1 hz, e⟩
    · rintro ⟨z, hz, e⟩; exact ⟨z, (h z).2 hz, e⟩
  unfold orderText
  rw [e]

/-- What more is known of X: its hands are some of L's, and each letter needs as many marks or more. -/
structure More (X L : Line) : Prop where
  total : X.total ≤ L.total
  sq : X.squares.length = L.squares.length
  hand : ∀ (j : Nat) (H : Hand), X.hands[j]? = some H → ∃ k : Nat, L.hands[k]? = some H
  cost : ∀ (H : Hand) (q i : Nat), H ∈ L.hands → q < L.squares.length → (cutterOf L H.shapes).need q i ≤ (cutterOf X H.shapes).need q i
theorem fold_mono {α : Type} (f g : α → Nat) : ∀ (l : List α) (a b : Nat), a ≤ b → (∀ x ∈ l, f x ≤ g x) → (l.map f).foldl min a ≤ (l.map g).foldl min b := by
  intro l
  induction l with
  | nil => intro a b h _; exact h
  | cons x l ih =>
    intro a b h hl
    simp only [List.map_cons, List.foldl_cons]
    refine ih _ _ ?_ fun y hy => hl y (by simp [hy])
    have := hl x (by simp)
    omega
theorem More.fewest {X L : Line} (h : More X L) {H : Hand} (hH : H ∈ L.hands) {q : Nat} (hq : q < L.squares.length) : (cutterOf L H.shapes).fewest q ≤ (cutterOf X H.shapes).fewest q := by
  unfold Cutter.fewest Cutter.row leastOf
  exact fold_mono _ _ _ _ _ (Nat.le_refl _) fun i _ => h.cost H q i hH hq
theorem More.sums {X L : Line} (h : More X L) {H : Hand} (hH : H ∈ L.hands) (n : Nat) (hn : n ≤ L.squares.length) :
    (cutterOf L H.shapes).sum n ≤ (cutterOf X H.shapes).sum n ∧ ∀ q, q < n → (cutterOf L H.shapes).sum n + (cutterOf X H.shapes).fewest q ≤ (cutterOf X H.shapes).sum n + (cutterOf L H.shapes).fewest q := by
  induction n with
  | zero => exact ⟨by simp [Cutter.sum], fun q hq => by omega⟩
  | succ n ih =>
    obtain ⟨h1, h2⟩ := ih (by omega)
    have h3 := h.fewest hH (q := n) (by omega)
    rw [Cutter.sum_succ, Cutter.sum_succ]
    refine ⟨by omega, fun q hq => ?_⟩
    by_cases e : q = n
    · subst e; omega
    · have := h2 q (by omega); omega
theorem More.hands {X L : Line} (h : More X L) {j : Nat} (hj : j ∈ handsOf X) : ∃ (k : Nat) (H : Hand), k ∈ handsOf L ∧ X.hands[j]? = some H ∧ L.hands[k]? = some H := by
  obtain ⟨H, hH, hs⟩ := mem_hands.1 hj
  obtain ⟨k, hk⟩ := h.hand j H hH
  refine ⟨k, H, mem_hands.2 ⟨H, hk, ?_⟩, hH, hk⟩
  have h1 := (h.sums (List.mem_of_getElem? hk) _ (Nat.le_refl _)).1
  have h2 := h.total
  unfold sumOf at hs ⊢
  rw [h.sq] at hs
  omega
theorem More.letters {X L : Line} (h : More X L) {q : Nat} (hq : q < L.squares.length) {z : Fin 256} (hz : z ∈ allLetters X q) : z ∈ allLetters L q := by
  obtain ⟨j, H, i, hH, ⟨hs, hi, hn⟩, rfl⟩ := mem_letters.1 hz
  obtain ⟨k, hk⟩ := h.hand j H hH
  have hm := List.mem_of_getElem? hk
  obtain ⟨h1, h2⟩ := h.sums hm _ (Nat.le_refl _)
  have h3 := h2 q hq
  have h4 := h.total
  have h5 := h.cost H q i hm hq
  unfold sumOf at hs hn
  rw [h.sq] at hs hn
  refine mem_letters.2 ⟨k, H, i, hk, ⟨?_, hi, ?_⟩, rfl⟩
  · unfold sumOf; omega
  · unfold sumOf; omega
end Go.Proofs.Ythhajbgddifenaa
