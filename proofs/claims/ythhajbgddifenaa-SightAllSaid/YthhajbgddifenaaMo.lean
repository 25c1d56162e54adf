/- Plain laws: one more light, fewer marks, one hand alone; squares and hands in another order. -/
import Derived.Test.YthhajbgddifenaaPm
import Derived.Test.YthhajbgddifenaaEn
namespace Go.Proofs.Ythhajbgddifenaa

theorem cost_mono {wn sc wn' sc' : Nat} {q q' : List Light} {s : Nat} (h1 : wn' ≤ wn) (h2 : sc' ≤ sc) (hv : pc (vis q &&& hidn q) ≤ pc (vis q' &&& hidn q')) (ha : pc (diff (vis q) s) ≤ pc (diff (vis q') s)) (hb : pc (hidn q &&& s) ≤ pc (hidn q' &&& s)) (h81 : cost wn sc q s ≤ 81) :
    cost wn sc q s ≤ cost wn' sc' q' s := by
  by_cases c : 0 < pc (vis q' &&& hidn q') ∨ sc' < pc (diff (vis q') s) ∨ wn' < pc (hidn q' &&& s)
  · have e : cost wn' sc' q' s = 81 := by unfold cost; rw [if_pos c]
    omega
  · rw [cost_sum (q := q') (by omega) (by omega) (by omega), cost_sum (q := q) (by omega) (by omega) (by omega)]
    omega
def q32 (q : List Light) : Prop := ∀ x ∈ q, x.shows < 32 ∧ x.seen < 32
theorem vis32 (q : List Light) (h : q32 q) : vis q < 32 := by
  have key : ∀ (q : List Light) (a : Nat), a < 32 → q32 q → q.foldl (fun a x => a ||| x.seen) a < 32 := by
    intro q
    induction q with
    | nil => intro a ha _; exact ha
    | cons x q ih => intro a ha hq; exact ih _ (Nat.or_lt_two_pow (n := 5) ha (hq x (by simp)).2) fun y hy => hq y (by simp [hy])
  exact key q 0 (by omega) h
theorem hidn32 (q : List Light) (h : q32 q) : hidn q < 32 := by
  have key : ∀ (q : List Light) (a : Nat), a < 32 → q32 q → q.foldl (fun a x => a ||| diff x.shows x.seen) a < 32 := by
    intro q
    induction q with
    | nil => intro a ha _; exact ha
    | cons x q ih => intro a ha hq; exact ih _ (Nat.or_lt_two_pow (n := 5) ha (diff_lt32 _ _ (hq x (by simp)).1)) fun y hy => hq y (by simp [hy])
  exact key q 0 (by omega) h
theorem pc_sub' {a b : Nat} (ha : a < 32) (hb : b < 32) (h : a &&& b = a) : pc a ≤ pc b := pc_sub ⟨a, ha⟩ ⟨b, hb⟩ h
theorem cost_light {wn sc : Nat} {q : List Light} {x : Light} {s : Nat} (hq : q32 q) (hx : x.shows < 32 ∧ x.seen < 32) : cost wn sc q s ≤ cost wn sc (q ++ [x]) s := by
  have hq' : q32 (q ++ [x]) := by
    intro y hy
    rcases List.mem_append.1 hy with hy | hy
    · exact hq y hy
    · obtain rfl : y = x := by simpa using hy
      exact hx
  have v1 := vis32 q hq
  have v2 := vis32 _ hq'
  have h1 := hidn32 q hq
  have h2 := hidn32 _ hq'
  refine cost_mono (Nat.le_refl _) (Nat.le_refl _) ?_ ?_ ?_ (cost_le _ _ _ _ (by omega) (by omega))
  · refine pc_sub' (Nat.lt_of_le_of_lt Nat.and_le_left v1) (Nat.lt_of_le_of_lt Nat.and_le_left v2) ?_
    rw [vis_snoc, hidn_snoc]
    apply Nat.eq_of_testBit_eq
    intro i
    simp only [Nat.testBit_and, Nat.testBit_or]
    cases (vis q).testBit i <;> cases (hidn q).testBit i <;> simp
  · refine pc_sub' (diff_lt32 _ _ v1) (diff_lt32 _ _ v2) ?_
    rw [vis_snoc]
    apply Nat.eq_of_testBit_eq
    intro i
    simp only [Nat.testBit_and, diff_bit, Nat.testBit_or]
    cases (vis q).testBit i <;> cases s.testBit i <;> simp
  · refine pc_sub' (Nat.lt_of_le_of_lt Nat.and_le_left h1) (Nat.lt_of_le_of_lt Nat.and_le_left h2) ?_
    rw [hidn_snoc]
    apply Nat.eq_of_testBit_eq
    intro i
    simp only [Nat.testBit_and, Nat.testBit_or]
    cases (hidn q).testBit i <;> cases s.testBit i <;> simp
theorem More.refl (L : Line) : More L L := ⟨Nat.le_refl _, rfl, fun j H h => ⟨j, h⟩, fun _ _ _ _ _ => Nat.le_refl _⟩
/-- One more light in a square. -/
theorem More.light {L : Line} (k : Nat) (q : List Light) (x : Light) (hk : L.squares[k]? = some q) (hq : q32 q) (hx : x.shows < 32 ∧ x.seen < 32) : More (L.withSquare k (q ++ [x])) L := by
  refine ⟨Nat.le_refl _, by simp [Line.withSquare], fun j H h => ⟨j, h⟩, fun H p i _ hp => ?_⟩
  rw [cutterOf_need, cutterOf_need]
  by_cases e : p = k
  · subst e
    have e1 : L.squares.getD p [] = q := by simp [List.getD, hk]
    have e2 : (L.withSquare p (q ++ [x])).squares.getD p [] = q ++ [x] := by simp [Line.withSquare, List.getD, hp]
    rw [e1, e2]
    exact cost_light hq hx
  · have e2 : (L.withSquare k (q ++ [x])).squares.getD p [] = L.squares.getD p [] := by simp [Line.withSquare, List.getD, List.getElem?_set, Ne.symm e]
    rw [e2]
    exact Nat.le_refl _
theorem More.total' {L : Line} (t : Nat) (ht : t ≤ L.total) : More (L.withTotal t) L := ⟨ht, rfl, fun j H h => ⟨j, h⟩, fun _ _ _ _ _ => Nat.le_refl _⟩
def Line.withMarks (L : Line) (wn sc : Nat) : Line := { L with worn := wn, scr := sc }
theorem More.marks {L : Line} (hL : L.ok) (wn sc : Nat) (h1 : wn ≤ L.worn) (h2 : sc ≤ L.scr) : More (L.withMarks wn sc) L := by
  refine ⟨Nat.le_refl _, rfl, fun j H h => ⟨j, h⟩, fun H p i _ hp => ?_⟩
  have h3 := need_le L hL H.shapes p i
  rw [cutterOf_need] at h3
  rw [cutterOf_need, cutterOf_need]
  exact cost_mono h1 h2 (Nat.le_refl _) (Nat.le_refl _) (Nat.le_refl _) h3
def Line.withHand (L : Line) (H : Hand) : Line := { L with hands := [H] }
theorem More.one {L : Line} (k : Nat) (H : Hand) (hk : L.hands[k]? = some H) : More (L.withHand H) L := by
  refine ⟨Nat.le_refl _, rfl, fun j H' h => ?_, fun _ _ _ _ _ => Nat.le_refl _⟩
  have h' := List.mem_of_getElem? h
  simp [Line.withHand] at h'
  exact ⟨k, by rw [h', hk]⟩

/-- The same line, its hands, squares and lights in another order: the hand with number j was hs[j], the square with number q was qs[q]. -/
structure Turned (X L : Line) (hs qs : List Nat) : Prop where
  worn : X.worn = L.worn
  scr : X.scr = L.scr
  total : X.total = L.total
  hperm : hs.Perm (List.range L.hands.length)
  qperm : qs.Perm (List.range L.squares.length)
  hlen : X.hands.length = hs.length
  qlen : X.squares.length = qs.length
  hand : ∀ (j k : Nat), hs[j]? = some k → X.hands[j]? = L.hands[k]?
  square : ∀ (j k : Nat) (q : List Light), qs[j]? = some k → L.squares[k]? = some q → ∃ q' : List Light, X.squares[j]? = some q' ∧ q'.Perm q
theorem vis_perm {q q' : List Light} (h : q'.Perm q) : vis q' = vis q := by
  unfold vis
  exact h.foldl_eq' (fun x _ y _ z => by rw [Nat.or_assoc, Nat.or_comm x.seen, ← Nat.or_assoc]) 0
theorem hidn_perm {q q' : List Light} (h : q'.Perm q) : hidn q' = hidn q := by
  unfold hidn
  exact h.foldl_eq' (fun x _ y _ z => by rw [Nat.or_assoc, Nat.or_comm (diff x.shows x.seen), ← Nat.or_assoc]) 0
theorem cost_perm {q q' : List Light} (h : q'.Perm q) (wn sc s : Nat) : cost wn sc q' s = cost wn sc q s := by
  unfold cost
  rw [vis_perm h, hidn_perm h]
theorem Turned.need {X L : Line} {hs qs : List Nat} (h : Turned X L hs qs) (S : List Shape) (j k i : Nat) (hj : qs[j]? = some k) : (cutterOf X S).need j i = (cutterOf L S).need k i := by
  have hk : k < L.squares.length := List.mem_range.1 (h.qperm.mem_iff.1 (List.mem_of_getElem? hj))
  obtain ⟨q', h1, h2⟩ := h.square j k _ hj (List.getElem?_eq_getElem hk)
  rw [cutterOf_need, cutterOf_need, h.worn, h.scr]
  have e1 : X.squares.getD j [] = q' := by simp [List.getD, h1]
  have e2 : L.squares.getD k [] = L.squares[k] := by simp [List.getD, hk]
  rw [e1, e2]
  exact cost_perm h2 _ _ _
theorem Turned.fewest {X L : Line} {hs qs : List Nat} (h : Turned X L hs qs) (S : List Shape) (j k : Nat) (hj : qs[j]? = some k) : (cutterOf X S).fewest j = (cutterOf L S).fewest k := by
  unfold Cutter.fewest Cutter.row
  have e : (List.range (cutterOf X S).shapes.length).map ((cutterOf X S).need j) = (List.range (cutterOf L S).shapes.length).map ((cutterOf L S).need k) := List.map_congr_left fun i _ => h.need S j k i hj
  rw [e]
theorem map_range_getD (qs : List Nat) (f : Nat → Nat) : (List.range qs.length).map (fun j => f (qs.getD j 0)) = qs.map f := by
  apply List.ext_getElem?
  intro i
  rw [List.getElem?_map, List.getElem?_map]
  by_cases hi : i < qs.length
  · simp [List.getElem?_range, hi, List.getD]
  · rw [List.getElem?_eq_none (by simpa using hi), List.getElem?_eq_none (by omega)]
    rfl
theorem Turned.sum {X L : Line} {hs qs : List Nat} (h : Turned X L hs qs) (H : Hand) : sumOf X H = sumOf L H := by
  unfold sumOf Cutter.sum
  rw [h.qlen]
  have e : (List.range qs.length).map (cutterOf X H.shapes).fewest = (List.range qs.length).map fun j => (cutterOf L H.shapes).fewest (qs.getD j 0) := List.map_congr_left fun j hj => by
    have hj' := List.mem_range.1 hj
    exact h.fewest _ j _ (by simp [List.getD, hj'])
  rw [e, map_range_getD qs (cutterOf L H.shapes).fewest]
  exact (h.qperm.map _).sum_nat
theorem Turned.hands_perm {X L : Line} {hs qs : List Nat} (h : Turned X L hs qs) : X.hands.Perm L.hands := by
  have e : X.hands = hs.map fun k => L.hands.getD k ⟨0, 0, []⟩ := by
    apply List.ext_getElem?
    intro j
    rw [List.getElem?_map]
    by_cases hj : j < hs.length
    · have h1 := h.hand j hs[j] (List.getElem?_eq_getElem hj)
      have hk : hs[j] < L.hands.length := List.mem_range.1 (h.hperm.mem_iff.1 (List.getElem_mem hj))
      rw [h1, List.getElem?_eq_getElem hj, List.getElem?_eq_getElem hk]
      simp [List.getD, hk]
    · rw [List.getElem?_eq_none (by rw [h.hlen]; omega), List.getElem?_eq_none (by omega)]
      rfl
  have e2 : L.hands = (List.range L.hands.length).map fun k => L.hands.getD k ⟨0, 0, []⟩ := by
    apply List.ext_getElem?
    intro j
    rw [List.getElem?_map]
    by_cases hj : j < L.hands.length
    · rw [List.getElem?_range hj, List.getElem?_eq_getElem hj]
      simp [List.getD, hj]
    · rw [List.getElem?_eq_none (by omega), List.getElem?_eq_none (by simpa using hj)]
      rfl
  rw [e]
  conv => rhs; rw [e2]
  exact h.hperm.map _
theorem leastOf_perm {a b : List Nat} (h : a.Perm b) (x : Nat) : leastOf x a = leastOf x b := by
  unfold leastOf
  exact h.foldl_eq' (fun x _ y _ z => by omega) x
theorem marks_hands (L : Line) : marksOf L = leastOf 81 (L.hands.map (sumOf L)) := by
  unfold marksOf sumsOf cuttersOf
  rw [List.map_map]
  rfl
theorem Turned.marks {X L : Line} {hs qs : List Nat} (h : Turned X L hs qs) : marksOf X = marksOf L := by
  rw [marks_hands, marks_hands]
  have e : X.hands.map (sumOf X) = X.hands.map (sumOf L) := List.map_congr_left fun H _ => h.sum H
  rw [e]
  exact leastOf_perm (h.hands_perm.map _) _
theorem filterMap_len {α β : Type} (f : Nat → Option α) (l : List β) (g : β → Bool) (hf : ∀ k b, l[k]? = some b → (f k).isSome = g b) : ((List.range l.length).filterMap f).length = (l.filter g).length := by
  have key : ∀ n, n ≤ l.length → ((List.range n).filterMap f).length = ((l.take n).filter g).length := by
    intro n
    induction n with
    | zero => intro _; simp
    | succ n ih =>
      intro hn
      have h1 := hf n l[n] (List.getElem?_eq_getElem (by omega))
      rw [List.range_succ, List.filterMap_append, List.length_append, ih (by omega), List.take_succ_eq_append_getElem (by omega), List.filter_append, List.length_append]
      congr 1
      cases h2 : f n with
      | none => rw [h2] at h1; simp [h2, ← h1]
      | some x => rw [h2] at h1; simp [h2, ← h1]
  have := key l.length (Nat.le_refl _)
  rwa [List.take_length] at this
theorem hands_len (L : Line) : (handsOf L).length = (L.hands.filter fun H => decide (sumOf L H ≤ L.total)).length := by
  unfold handsOf fits fitsTo
  rw [List.length_map]
  have e : (cuttersOf L).length = L.hands.length := by simp [cuttersOf]
  rw [e]
  refine filterMap_len _ _ _ fun k H hk => ?_
  have hc := cutters_at hk
  by_cases hs : sumOf L H ≤ L.total
  · rw [fitAt_yes _ _ _ _ _ hc hs]
    simp [hs]
  · rw [fitAt_no _ _ _ _ _ hc hs]
    simp [hs]
theorem Turned.hands_len {X L : Line} {hs qs : List Nat} (h : Turned X L hs qs) : (handsOf X).length = (handsOf L).length := by
  rw [Go.Proofs.Ythhajbgddifenaa.hands_len, Go.Proofs.Ythhajbgddifenaa.hands_len, h.total]
  have e : (X.hands.filter fun H => decide (sumOf X H ≤ L.total)) = X.hands.filter fun H => decide (sumOf L H ≤ L.total) := List.filter_congr fun H _ => by rw [h.sum H]
  rw [e]
  exact (h.hands_perm.filter _).length_eq
theorem Turned.hands {X L : Line} {hs qs : List Nat} (h : Turned X L hs qs) {j : Nat} (hj : j ∈ handsOf X) : ∃ k : Nat, hs[j]? = some k ∧ k ∈ handsOf L := by
  obtain ⟨H, hH, hs'⟩ := mem_hands.1 hj
  have hl : j < hs.length := by rw [← h.hlen]; exact (List.getElem?_eq_some_iff.1 hH).1
  have h1 := h.hand j hs[j] (List.getElem?_eq_getElem hl)
  rw [hH] at h1
  exact ⟨hs[j], List.getElem?_eq_getElem hl, mem_hands.2 ⟨H, h1.symm, by rw [← h.sum, ← h.total]; exact hs'⟩⟩
theorem Turned.letters {X L : Line} {hs qs : List Nat} (h : Turned X L hs qs) {j k : Nat} (hj : qs[j]? = some k) : orderText (allLetters X j) = orderText (allLetters L k) := by
  apply orderText_congr
  intro z
  rw [mem_letters, mem_letters]
  have key : ∀ (H : Hand) (i : Nat), LetterFits X H j i ↔ LetterFits L H k i := by
    intro H i
    unfold LetterFits
    rw [h.sum, h.total, h.need H.shapes j k i hj, h.fewest H.shapes j k hj]
  constructor
  · rintro ⟨a, H, i, hH, hf, rfl⟩
    obtain ⟨b, hb⟩ := List.mem_iff_getElem?.1 (h.hands_perm.mem_iff.1 (List.mem_of_getElem? hH))
    exact ⟨b, H, i, hb, (key H i).1 hf, rfl⟩
  · rintro ⟨a, H, i, hH, hf, rfl⟩
    obtain ⟨b, hb⟩ := List.mem_iff_getElem?.1 (h.hands_perm.mem_iff.2 (List.mem_of_getElem? hH))
    exact ⟨b, H, i, hb, (key H i).2 hf, rfl⟩
end Go.Proofs.Ythhajbgddifenaa
