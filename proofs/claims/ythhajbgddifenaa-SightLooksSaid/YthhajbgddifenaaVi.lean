/- Plain laws of the chapter: some hand fits just where the fewest marks do. · A truth of a line: which hand cut it, which letters stand there, and which strokes are visible. What is true fits. · Which strokes are visible: a stroke is worn, or one is scratched in, from the least on. -/
import Derived.Test.YthhajbgddifenaaJ
import Derived.Test.YthhajbgddifenaaQ
namespace Go.Proofs.Ythhajbgddifenaa
section

theorem leastOf_iff (l : List Nat) (a T : Nat) : leastOf a l ≤ T ↔ a ≤ T ∨ ∃ x ∈ l, x ≤ T := by
  unfold leastOf
  induction l generalizing a with
  | nil => simp
  | cons x l ih =>
    rw [List.foldl_cons, ih]
    constructor
    · rintro (h | ⟨y, hy, h⟩)
      · rcases Nat.le_total a x with h1 | h1
        · exact .inl (by omega)
        · exact .inr ⟨x, by simp, by omega⟩
      · exact .inr ⟨y, by simp [hy], h⟩
    · rintro (h | ⟨y, hy, h⟩)
      · exact .inl (by omega)
      · rcases List.mem_cons.1 hy with rfl | hy
        · exact .inl (by omega)
        · exact .inr ⟨y, hy, h⟩
theorem hands_iff (L : Line) (h : L.total < 81) : handsOf L ≠ [] ↔ marksOf L ≤ L.total := by
  unfold marksOf
  rw [leastOf_iff]
  have e : handsOf L = [] ↔ ∀ k, k < (cuttersOf L).length → fitAt (cuttersOf L) L.squares.length L.total k = none := by
    simp [handsOf, fits, fitsTo]
  constructor
  · intro hne
    refine .inr (Classical.byContradiction fun hno => hne (e.2 fun k hk => ?_))
    have hc : (cuttersOf L)[k]? = some (cuttersOf L)[k] := List.getElem?_eq_getElem hk
    refine fitAt_no _ _ _ _ _ hc fun hle => hno ⟨_, ?_, hle⟩
    exact List.mem_map.2 ⟨_, List.getElem_mem hk, rfl⟩
  · rintro (h' | ⟨x, hx, hle⟩) he
    · omega
    · obtain ⟨c, hc, rfl⟩ := List.mem_map.1 hx
      obtain ⟨k, hk⟩ := List.mem_iff_getElem?.1 hc
      have h1 := e.1 he k (List.getElem?_eq_some_iff.1 hk).1
      rw [fitAt_yes _ _ _ _ c hk hle] at h1
      cases h1
end
section

theorem pc_sub : ∀ a b : Fin 32, a.val &&& b.val = a.val → pc a.val ≤ pc b.val := by decide +kernel
theorem pc32_le : ∀ a : Fin 32, pc a.val ≤ 5 := by decide +kernel

/-- A square with a letter of strokes s, of which v are visible. -/
def TrueSq (wn sc : Nat) (q : List Light) (s v : Nat) : Prop :=
  s < 32 ∧ v < 32 ∧ pc (diff s v) ≤ wn ∧ pc (diff v s) ≤ sc ∧ ∀ x ∈ q, x.shows < 32 ∧ x.seen = v &&& x.shows

theorem diff_bit (a b i : Nat) : (diff a b).testBit i = (a.testBit i && !b.testBit i) := by
  unfold diff
  rw [Nat.testBit_xor, Nat.testBit_and]
  cases a.testBit i <;> cases b.testBit i <;> rfl
theorem diff_lt32 (a b : Nat) (h : a < 32) : diff a b < 32 := diff_lt a b 5 h
/-- All strokes that some light shows. -/
def shown (q : List Light) : Nat := q.foldl (fun a x => a ||| x.shows) 0
theorem vis_true (v : Nat) : ∀ (q : List Light) (a : Nat), (∀ x ∈ q, x.seen = v &&& x.shows) → q.foldl (fun a x => a ||| x.seen) (v &&& a) = v &&& q.foldl (fun a x => a ||| x.shows) a := by
  intro q
  induction q with
  | nil => intro a _; rfl
  | cons x q ih =>
    intro a h
    rw [List.foldl_cons, List.foldl_cons, h x (by simp), ← Nat.and_or_distrib_left]
    exact ih _ fun y hy => h y (by simp [hy])
theorem hidn_true (v : Nat) : ∀ (q : List Light) (a : Nat), (∀ x ∈ q, x.seen = v &&& x.shows) → q.foldl (fun a x => a ||| diff x.shows x.seen) (diff a v) = diff (q.foldl (fun a x => a ||| x.shows) a) v := by
  intro q
  induction q with
  | nil => intro a _; rfl
  | cons x q ih =>
    intro a h
    rw [List.foldl_cons, List.foldl_cons, show diff a v ||| diff x.shows x.seen = diff (a ||| x.shows) v by
      apply Nat.eq_of_testBit_eq
      intro i
      rw [Nat.testBit_or, diff_bit, diff_bit, diff_bit, h x (by simp), Nat.testBit_and, Nat.testBit_or]
      cases a.testBit i <;> cases v.testBit i <;> cases x.shows.testBit i <;> rfl]
    exact ih _ fun y hy => h y (by simp [hy])
theorem cost_true {wn sc : Nat} {q : List Light} {s v : Nat} (h : TrueSq wn sc q s v) : cost wn sc q s ≤ pc (diff s v) + pc (diff v s) := by
  obtain ⟨h1, h2, h3, h4, h5⟩ := h
  have e1 : vis q = v &&& shown q := by
    have := vis_true v q 0 fun x hx => (h5 x hx).2
    rwa [Nat.and_zero] at this
  have e2 : hidn q = diff (shown q) v := by
    have := hidn_true v q 0 fun x hx => (h5 x hx).2
    rwa [show diff 0 v = 0 by unfold diff; simp] at this
  have l1 : shown q < 32 := by
    have key : ∀ (q : List Light) (a : Nat), a < 32 → (∀ x ∈ q, x.shows < 32) → q.foldl (fun a x => a ||| x.shows) a < 32 := by
      intro q
      induction q with
      | nil => intro a ha _; exact ha
      | cons x q ih => intro a ha hq; exact ih _ (Nat.or_lt_two_pow (n := 5) ha (hq x (by simp))) fun y hy => hq y (by simp [hy])
    exact key q 0 (by omega) fun x hx => (h5 x hx).1
  have z : vis q &&& hidn q = 0 := by
    rw [e1, e2]
    apply Nat.eq_of_testBit_eq
    intro i
    rw [Nat.testBit_and, diff_bit, Nat.testBit_and]
    cases v.testBit i <;> simp
  have a1 : pc (diff (vis q) s) ≤ pc (diff v s) := by
    refine pc_sub ⟨diff (vis q) s, ?_⟩ ⟨diff v s, diff_lt32 v s h2⟩ ?_
    · rw [e1]; exact diff_lt32 _ _ (Nat.lt_of_le_of_lt Nat.and_le_left h2)
    · show diff (vis q) s &&& diff v s = diff (vis q) s
      rw [e1]
      apply Nat.eq_of_testBit_eq
      intro i
      rw [Nat.testBit_and, diff_bit, diff_bit, Nat.testBit_and]
      cases v.testBit i <;> simp
  have a2 : pc (hidn q &&& s) ≤ pc (diff s v) := by
    refine pc_sub ⟨hidn q &&& s, ?_⟩ ⟨diff s v, diff_lt32 s v h1⟩ ?_
    · exact Nat.lt_of_le_of_lt Nat.and_le_right h1
    · show hidn q &&& s &&& diff s v = hidn q &&& s
      rw [e2]
      apply Nat.eq_of_testBit_eq
      intro i
      rw [Nat.testBit_and, Nat.testBit_and, diff_bit, diff_bit]
      cases v.testBit i <;> cases s.testBit i <;> simp
  have z2 : pc (vis q &&& hidn q) = 0 := by rw [z]; decide
  rw [cost_sum (by omega) (by omega) (by omega)]
  omega

/-- What truly is on a line: the hand, and for each square the letter's number in the hand, and the strokes that are visible. -/
structure Truth (L : Line) (hand : Nat) (ks vs : List Nat) : Prop where
  hand_lt : hand < L.hands.length
  len : ks.length = L.squares.length
  len' : vs.length = L.squares.length
  sq : ∀ (i : Nat) (H : Hand) (q : List Light) (k v : Nat), L.hands[hand]? = some H → L.squares[i]? = some q → ks[i]? = some k → vs[i]? = some v → ∃ s, H.shapes[k]? = some s ∧ TrueSq L.worn L.scr q s.strokes v
def markOf (S : List Shape) (k v : Nat) : Nat := pc (diff (S.getD k ⟨0, 0⟩).strokes v) + pc (diff v (S.getD k ⟨0, 0⟩).strokes)
def marksTo (S : List Shape) (ks vs : List Nat) (n : Nat) : Nat := ((List.range n).map fun i => markOf S (ks.getD i 0) (vs.getD i 0)).sum
theorem marksTo_succ (S : List Shape) (ks vs : List Nat) (n : Nat) : marksTo S ks vs (n + 1) = marksTo S ks vs n + markOf S (ks.getD n 0) (vs.getD n 0) := by simp [marksTo, List.range_succ]

theorem leastOf_le_mem {a x : Nat} {l : List Nat} (h : x ∈ l) : leastOf a l ≤ x := by
  unfold leastOf
  induction l generalizing a with
  | nil => cases h
  | cons y l ih =>
    rw [List.foldl_cons]
    rcases List.mem_cons.1 h with rfl | h
    · exact Nat.le_trans (leastOf_le l _) (Nat.min_le_right _ _)
    · exact ih h
theorem fewest_need (c : Cutter) (q k : Nat) (hk : k < c.shapes.length) : c.fewest q ≤ c.need q k := by
  unfold Cutter.fewest Cutter.row
  exact leastOf_le_mem (List.mem_map.2 ⟨k, List.mem_range.2 hk, rfl⟩)

theorem truth_need {L : Line} {hand : Nat} {ks vs : List Nat} (h : Truth L hand ks vs) (H : Hand) (hH : L.hands[hand]? = some H) (i : Nat) (hi : i < L.squares.length) :
    ks.getD i 0 < H.shapes.length ∧ (cutterOf L H.shapes).need i (ks.getD i 0) ≤ markOf H.shapes (ks.getD i 0) (vs.getD i 0) := by
  have h1 : i < ks.length := by rw [h.len]; exact hi
  have h2 : i < vs.length := by rw [h.len']; exact hi
  have e1 : ks.getD i 0 = ks[i] := by simp [List.getD, h1]
  have e2 : vs.getD i 0 = vs[i] := by simp [List.getD, h2]
  obtain ⟨s, hs, ht⟩ := h.sq i H L.squares[i] ks[i] vs[i] hH (List.getElem?_eq_getElem hi) (List.getElem?_eq_getElem h1) (List.getElem?_eq_getElem h2)
  rw [e1, e2]
  refine ⟨(List.getElem?_eq_some_iff.1 hs).1, ?_⟩
  rw [cutterOf_need]
  have e3 : H.shapes.getD ks[i] ⟨0, 0⟩ = s := by simp [List.getD, hs]
  have e4 : L.squares.getD i [] = L.squares[i] := by simp [List.getD, hi]
  rw [e4]
  simp only [markOf]
  rw [e3]
  exact cost_true ht
theorem truth_sum {L : Line} {hand : Nat} {ks vs : List Nat} (h : Truth L hand ks vs) (H : Hand) (hH : L.hands[hand]? = some H) (n : Nat) (hn : n ≤ L.squares.length) :
    (cutterOf L H.shapes).sum n ≤ marksTo H.shapes ks vs n ∧ ∀ i, i < n → (cutterOf L H.shapes).sum n + (cutterOf L H.shapes).need i (ks.getD i 0) ≤ marksTo H.shapes ks vs n + (cutterOf L H.shapes).fewest i := by
  induction n with
  | zero => exact ⟨by simp [Cutter.sum], fun i hi => by omega⟩
  | succ n ih =>
    obtain ⟨h1, h2⟩ := ih (by omega)
    obtain ⟨k1, k2⟩ := truth_need h H hH n (by omega)
    have h3 := fewest_need (cutterOf L H.shapes) n _ k1
    rw [Cutter.sum_succ, marksTo_succ]
    refine ⟨by omega, fun i hi => ?_⟩
    by_cases e : i = n
    · subst e; omega
    · have := h2 i (by omega); omega
theorem cutters_at {L : Line} {hand : Nat} {H : Hand} (hH : L.hands[hand]? = some H) : (cuttersOf L)[hand]? = some (cutterOf L H.shapes) := by
  unfold cuttersOf
  rw [List.getElem?_map, hH]
  rfl
theorem mem_fits {cs : List Cutter} {m T k : Nat} {c : Cutter} (hc : cs[k]? = some c) (hs : c.sum m ≤ T) : (⟨(k, T - c.sum m), c, hc, by omega⟩ : Fit cs m T) ∈ fits cs m T := by
  unfold fits fitsTo
  rw [List.mem_filterMap]
  exact ⟨k, List.mem_range.2 (List.getElem?_eq_some_iff.1 hc).1, fitAt_yes cs m T k c hc hs⟩
/-- The hand that cut the line fits. -/
theorem truth_hand {L : Line} {hand : Nat} {ks vs : List Nat} (h : Truth L hand ks vs) (H : Hand) (hH : L.hands[hand]? = some H) (hm : marksTo H.shapes ks vs L.squares.length ≤ L.total) : hand ∈ handsOf L := by
  unfold handsOf
  exact List.mem_map.2 ⟨_, mem_fits (cutters_at hH) (Nat.le_trans (truth_sum h H hH _ (Nat.le_refl _)).1 hm), rfl⟩
theorem mem_choices {c : Cutter} {q most k : Nat} (hk : k < c.shapes.length) (h : c.need q k ≤ most) : letF (c.shapes.getD k ⟨0, 0⟩).letter ∈ c.choices q most := by
  unfold Cutter.choices Cutter.upto
  rw [List.mem_filterMap]
  exact ⟨k, List.mem_range.2 hk, by rw [if_pos h]⟩
/-- The letters on the line fit. -/
theorem truth_letter {L : Line} {hand : Nat} {ks vs : List Nat} (h : Truth L hand ks vs) (H : Hand) (hH : L.hands[hand]? = some H) (hm : marksTo H.shapes ks vs L.squares.length ≤ L.total) (i : Nat) (hi : i < L.squares.length) :
    letF (H.shapes.getD (ks.getD i 0) ⟨0, 0⟩).letter ∈ allLetters L i := by
  obtain ⟨h1, h2⟩ := truth_sum h H hH _ (Nat.le_refl _)
  have h3 := h2 i hi
  obtain ⟨k1, _⟩ := truth_need h H hH i hi
  have hc := cutters_at hH
  unfold allLetters lettersTo
  rw [List.mem_flatMap]
  refine ⟨_, mem_fits hc (Nat.le_trans h1 hm), ?_⟩
  have e : (cuttersOf L).getD hand ⟨[], fun _ _ => 0⟩ = cutterOf L H.shapes := by simp [List.getD, hc]
  unfold addOf
  simp only
  rw [e]
  exact mem_choices (c := cutterOf L H.shapes) k1 (by omega)
end
section

def hasBit (s k : Nat) : Bool := s / 2 ^ k % 2 == 1
theorem vis_step : ∀ (k : Fin 5) (s v : Fin 32), v.val / 2 ^ k.val = s.val / 2 ^ k.val →
    v.val / 2 ^ (k.val + 1) = s.val / 2 ^ (k.val + 1) ∧
    (hasBit s.val k.val = true → 2 ^ k.val ≤ v.val ∧ (v.val - 2 ^ k.val) / 2 ^ (k.val + 1) = s.val / 2 ^ (k.val + 1) ∧ pc (diff s.val (v.val - 2 ^ k.val)) = pc (diff s.val v.val) + 1 ∧ pc (diff (v.val - 2 ^ k.val) s.val) = pc (diff v.val s.val)) ∧
    (hasBit s.val k.val = false → v.val + 2 ^ k.val < 32 ∧ (v.val + 2 ^ k.val) / 2 ^ (k.val + 1) = s.val / 2 ^ (k.val + 1) ∧ pc (diff s.val (v.val + 2 ^ k.val)) = pc (diff s.val v.val) ∧ pc (diff (v.val + 2 ^ k.val) s.val) = pc (diff v.val s.val) + 1) := by
  decide +kernel
theorem pc_self : ∀ s : Fin 32, pc (diff s.val s.val) = 0 := by decide +kernel
/-- After k strokes: v is visible of s; a may yet be worn of wn, b scratched in of sc. -/
def VisAt (s wn sc k v a b : Nat) : Prop := s < 32 ∧ v < 32 ∧ v / 2 ^ k = s / 2 ^ k ∧ pc (diff s v) + a ≤ wn ∧ pc (diff v s) + b ≤ sc
theorem VisAt.start {s wn sc a b : Nat} (hs : s < 32) (ha : a ≤ wn) (hb : b ≤ sc) : VisAt s wn sc 0 s a b := by
  have h := pc_self ⟨s, hs⟩
  simp only at h
  exact ⟨hs, hs, rfl, by omega, by omega⟩
theorem VisAt.stay {s wn sc k v a b : Nat} (h : VisAt s wn sc k v a b) (hk : k < 5) : VisAt s wn sc (k + 1) v a b := by
  obtain ⟨h1, h2, h3, h4, h5⟩ := h
  exact ⟨h1, h2, (vis_step ⟨k, hk⟩ ⟨s, h1⟩ ⟨v, h2⟩ h3).1, h4, h5⟩
theorem VisAt.wear {s wn sc k v a b : Nat} (h : VisAt s wn sc k v a b) (hk : k < 5) (hb : hasBit s k = true) (ha : 0 < a) :
    2 ^ k ≤ v ∧ VisAt s wn sc (k + 1) (v - 2 ^ k) (a - 1) b ∧ pc (diff s (v - 2 ^ k)) + pc (diff (v - 2 ^ k) s) = pc (diff s v) + pc (diff v s) + 1 := by
  obtain ⟨h1, h2, h3, h4, h5⟩ := h
  obtain ⟨k1, k2, k3, k4⟩ := (vis_step ⟨k, hk⟩ ⟨s, h1⟩ ⟨v, h2⟩ h3).2.1 hb
  simp only at k1 k2 k3 k4
  exact ⟨k1, ⟨h1, Nat.lt_of_le_of_lt (Nat.sub_le _ _) h2, k2, by omega, by omega⟩, by omega⟩
theorem VisAt.scratch {s wn sc k v a b : Nat} (h : VisAt s wn sc k v a b) (hk : k < 5) (hb : hasBit s k = false) (ha : 0 < b) :
    v + 2 ^ k < 32 ∧ VisAt s wn sc (k + 1) (v + 2 ^ k) a (b - 1) ∧ pc (diff s (v + 2 ^ k)) + pc (diff (v + 2 ^ k) s) = pc (diff s v) + pc (diff v s) + 1 := by
  obtain ⟨h1, h2, h3, h4, h5⟩ := h
  obtain ⟨k1, k2, k3, k4⟩ := (vis_step ⟨k, hk⟩ ⟨s, h1⟩ ⟨v, h2⟩ h3).2.2 hb
  simp only at k1 k2 k3 k4
  exact ⟨k1, ⟨h1, k1, k2, by omega, by omega⟩, by omega⟩
end
end Go.Proofs.Ythhajbgddifenaa
