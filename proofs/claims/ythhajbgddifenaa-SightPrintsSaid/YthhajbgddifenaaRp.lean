/- Plain laws: which hands and letters fit, said by membership; with more known, no more fit. · Plain laws: one more light, fewer marks, one hand alone; squares and hands in another order. · SightAll, plain: the least number of marks of a square, over all sets that may be visible. · SightAll, plain: all truths of a hand, and what they come to. · SightAll, plain: what all truths come to is what the specification says. · The reference's numbers, plain. -/
import Derived.Test.YthhajbgddifenaaVi
import Derived.Test.YthhajbgddifenaaYr
import Derived.Test.YthhajbgddifenaaSp
namespace Go.Proofs.Ythhajbgddifenaa
section

theorem fitAt_some {cs : List Cutter} {m T i : Nat} {x : Fit cs m T} (h : fitAt cs m T i = some x) : x.1.1 = i ∧ ∃ c, cs[i]? = some c ∧ c.sum m ≤ T ∧ x.1.2 = T - c.sum m := by
  cases hc : cs[i]? with
  | none =>
    exfalso
    unfold fitAt at h
    split at h
    · cases h
    · rename_i c h1 ; rw [hc] at h1 ; cases h1
  | some c =>
    by_cases hs : c.sum m ≤ T
    · rw [fitAt_yes cs m T i c hc hs] at h
      injection h with h
      subst h
      exact ⟨rfl, c, rfl, hs, rfl⟩
    · rw [fitAt_no cs m T i c hc hs] at h
      cases h
theorem mem_fits_iff {cs : List Cutter} {m T : Nat} {x : Fit cs m T} (hx : x ∈ fits cs m T) : ∃ c, cs[x.1.1]? = some c ∧ c.sum m ≤ T ∧ x.1.2 = T - c.sum m := by
  unfold fits fitsTo at hx
  rw [List.mem_filterMap] at hx
  obtain ⟨i, _, h⟩ := hx
  obtain ⟨e, c, hc, hs, hd⟩ := fitAt_some h
  subst e
  exact ⟨c, hc, hs, hd⟩
theorem cutters_of {L : Line} {k : Nat} {c : Cutter} (h : (cuttersOf L)[k]? = some c) : ∃ H, L.hands[k]? = some H ∧ c = cutterOf L H.shapes := by
  unfold cuttersOf at h
  rw [List.getElem?_map, Option.map_eq_some_iff] at h
  obtain ⟨H, h1, h2⟩ := h
  exact ⟨H, h1, h2.symm⟩
/-- The marks that a hand needs at least. -/
def sumOf (L : Line) (H : Hand) : Nat := (cutterOf L H.shapes).sum L.squares.length
theorem mem_hands {L : Line} {k : Nat} : k ∈ handsOf L ↔ ∃ H : Hand, L.hands[k]? = some H ∧ sumOf L H ≤ L.total := by
  constructor
  · intro h
    unfold handsOf at h
    obtain ⟨x, hx, rfl⟩ := List.mem_map.1 h
    obtain ⟨c, hc, hs, _⟩ := mem_fits_iff hx
    obtain ⟨H, hH, rfl⟩ := cutters_of hc
    exact ⟨H, hH, hs⟩
  · rintro ⟨H, hH, hs⟩
    unfold handsOf
    exact List.mem_map.2 ⟨_, mem_fits (cutters_at hH) hs, rfl⟩
/-- The letter with number i of a hand fits square q. -/
def LetterFits (L : Line) (H : Hand) (q i : Nat) : Prop := sumOf L H ≤ L.total ∧ i < H.shapes.length ∧ (cutterOf L H.shapes).need q i ≤ (cutterOf L H.shapes).fewest q + (L.total - sumOf L H)
theorem mem_letters {L : Line} {q : Nat} {z : Fin 256} : z ∈ allLetters L q ↔ ∃ (k : Nat) (H : Hand) (i : Nat), L.hands[k]? = some H ∧ LetterFits L H q i ∧ z = letF (H.shapes.getD i ⟨0, 0⟩).letter := by
  unfold allLetters lettersTo
  rw [List.mem_flatMap]
  constructor
  · rintro ⟨x, hx, hz⟩
    obtain ⟨c, hc, hs, hd⟩ := mem_fits_iff hx
    obtain ⟨H, hH, rfl⟩ := cutters_of hc
    have e : (cuttersOf L).getD x.1.1 ⟨[], fun _ _ => 0⟩ = cutterOf L H.shapes := by simp [List.getD, hc]
    unfold addOf at hz
    rw [e] at hz
    unfold Cutter.choices Cutter.upto at hz
    rw [List.mem_filterMap] at hz
    obtain ⟨i, hi, h⟩ := hz
    by_cases hn : (cutterOf L H.shapes).need q i ≤ (cutterOf L H.shapes).fewest q + x.1.2
    · rw [if_pos hn] at h
      injection h with h
      exact ⟨x.1.1, H, i, hH, ⟨hs, List.mem_range.1 hi, by rw [hd] at hn; exact hn⟩, h.symm⟩
    · rw [if_neg hn] at h
      cases h
  · rintro ⟨k, H, i, hH, ⟨hs, hi, hn⟩, rfl⟩
    have hc := cutters_at hH
    refine ⟨_, mem_fits hc hs, ?_⟩
    have e : (cuttersOf L).getD k ⟨[], fun _ _ => 0⟩ = cutterOf L H.shapes := by simp [List.getD, hc]
    unfold addOf
    simp only
    rw [e]
    exact mem_choices (c := cutterOf L H.shapes) hi hn
theorem mem_orderText {zs : List (Fin 256)} {u : UInt8} : u ∈ (orderText zs).data.toList ↔ ∃ z ∈ zs, u = UInt8.ofNat z.val := by
  show u ∈ (((orderOf zs).map UInt8.ofNat).toArray).toList ↔ _
  simp only [List.mem_map]
  constructor
  · rintro ⟨x, hx, rfl⟩
    obtain ⟨z, hz, rfl⟩ := mem_orderOf.1 hx
    exact ⟨z, hz, rfl⟩
  · rintro ⟨z, hz, rfl⟩
    exact ⟨z.val, mem_orderOf.2 ⟨z, hz, rfl⟩, rfl⟩
theorem orderText_congr {a b : List (Fin 256)} (h : ∀ z, z ∈ a ↔ z ∈ b) : orderText a = orderText b := by
  have e : orderOf a = orderOf b := by
    unfold orderOf
    apply List.filter_congr
    intro x _
    rw [Bool.eq_iff_iff, List.any_eq_true, List.any_eq_true]
    constructor
    · rintro ⟨z, hz, e⟩; exact ⟨z, (h z).1 hz, e⟩
    · rintro ⟨z, hz, e⟩; exact ⟨z, (h z).2 hz, e⟩
  unfold orderText
  rw [e]

/-- What more is known of X: its hands are some of L's, and each letter needs as many marks or more. -/
structure More (X L : Line) : Prop where
  total : X.total ≤ L.total
  sq : X.squares.length = L.squares.length
  hand : ∀ (j : Nat) (H : Hand), X.hands[j]? = some H → ∃ k : Nat, L.hands[k]? = some H
  cost : ∀ (H : Hand) (q i : Nat), H ∈ L.hands → q < L.squares.length → (cutterOf L H.shapes).need q i ≤ (cutterOf X H.shapes).need q i
theorem fold_mono {α : Type} (f g : α → Nat) : ∀ (l : List α) (a b : Nat), a ≤ b → (∀ x ∈ l, f x ≤ g x) → (l.map f).foldl min a ≤ (l.map g).foldl min b := by
  intro l
  induction l with
  | nil => intro a b h _; exact h
  | cons x l ih =>
    intro a b h hl
    simp only [List.map_cons, List.foldl_cons]
    refine ih _ _ ?_ fun y hy => hl y (by simp [hy])
    have := hl x (by simp)
    omega
theorem More.fewest {X L : Line} (h : More X L) {H : Hand} (hH : H ∈ L.hands) {q : Nat} (hq : q < L.squares.length) : (cutterOf L H.shapes).fewest q ≤ (cutterOf X H.shapes).fewest q := by
  unfold Cutter.fewest Cutter.row leastOf
  exact fold_mono _ _ _ _ _ (Nat.le_refl _) fun i _ => h.cost H q i hH hq
theorem More.sums {X L : Line} (h : More X L) {H : Hand} (hH : H ∈ L.hands) (n : Nat) (hn : n ≤ L.squares.length) :
    (cutterOf L H.shapes).sum n ≤ (cutterOf X H.shapes).sum n ∧ ∀ q, q < n → (cutterOf L H.shapes).sum n + (cutterOf X H.shapes).fewest q ≤ (cutterOf X H.shapes).sum n + (cutterOf L H.shapes).fewest q := by
  induction n with
  | zero => exact ⟨by simp [Cutter.sum], fun q hq => by omega⟩
  | succ n ih =>
    obtain ⟨h1, h2⟩ := ih (by omega)
    have h3 := h.fewest hH (q := n) (by omega)
    rw [Cutter.sum_succ, Cutter.sum_succ]
    refine ⟨by omega, fun q hq => ?_⟩
    by_cases e : q = n
    · subst e; omega
    · have := h2 q (by omega); omega
theorem More.hands {X L : Line} (h : More X L) {j : Nat} (hj : j ∈ handsOf X) : ∃ (k : Nat) (H : Hand), k ∈ handsOf L ∧ X.hands[j]? = some H ∧ L.hands[k]? = some H := by
  obtain ⟨H, hH, hs⟩ := mem_hands.1 hj
  obtain ⟨k, hk⟩ := h.hand j H hH
  refine ⟨k, H, mem_hands.2 ⟨H, hk, ?_⟩, hH, hk⟩
  have h1 := (h.sums (List.mem_of_getElem? hk) _ (Nat.le_refl _)).1
  have h2 := h.total
  unfold sumOf at hs ⊢
  rw [h.sq] at hs
  omega
theorem More.letters {X L : Line} (h : More X L) {q : Nat} (hq : q < L.squares.length) {z : Fin 256} (hz : z ∈ allLetters X q) : z ∈ allLetters L q := by
  obtain ⟨j, H, i, hH, ⟨hs, hi, hn⟩, rfl⟩ := mem_letters.1 hz
  obtain ⟨k, hk⟩ := h.hand j H hH
  have hm := List.mem_of_getElem? hk
  obtain ⟨h1, h2⟩ := h.sums hm _ (Nat.le_refl _)
  have h3 := h2 q hq
  have h4 := h.total
  have h5 := h.cost H q i hm hq
  unfold sumOf at hs hn
  rw [h.sq] at hs hn
  refine mem_letters.2 ⟨k, H, i, hk, ⟨?_, hi, ?_⟩, rfl⟩
  · unfold sumOf; omega
  · unfold sumOf; omega
end
section

theorem cost_mono {wn sc wn' sc' : Nat} {q q' : List Light} {s : Nat} (h1 : wn' ≤ wn) (h2 : sc' ≤ sc) (hv : pc (vis q &&& hidn q) ≤ pc (vis q' &&& hidn q')) (ha : pc (diff (vis q) s) ≤ pc (diff (vis q') s)) (hb : pc (hidn q &&& s) ≤ pc (hidn q' &&& s)) (h81 : cost wn sc q s ≤ 81) :
    cost wn sc q s ≤ cost wn' sc' q' s := by
  by_cases c : 0 < pc (vis q' &&& hidn q') ∨ sc' < pc (diff (vis q') s) ∨ wn' < pc (hidn q' &&& s)
  · have e : cost wn' sc' q' s = 81 := by unfold cost; rw [if_pos c]
    omega
  · rw [cost_sum (q := q') (by omega) (by omega) (by omega), cost_sum (q := q) (by omega) (by omega) (by omega)]
    omega
def q32 (q : List Light) : Prop := ∀ x ∈ q, x.shows < 32 ∧ x.seen < 32
theorem vis32 (q : List Light) (h : q32 q) : vis q < 32 := by
  have key : ∀ (q : List Light) (a : Nat), a < 32 → q32 q → q.foldl (fun a x => a ||| x.seen) a < 32 := by
    intro q
    induction q with
    | nil => intro a ha _; exact ha
    | cons x q ih => intro a ha hq; exact ih _ (Nat.or_lt_two_pow (n := 5) ha (hq x (by simp)).2) fun y hy => hq y (by simp [hy])
  exact key q 0 (by omega) h
theorem hidn32 (q : List Light) (h : q32 q) : hidn q < 32 := by
  have key : ∀ (q : List Light) (a : Nat), a < 32 → q32 q → q.foldl (fun a x => a ||| diff x.shows x.seen) a < 32 := by
    intro q
    induction q with
    | nil => intro a ha _; exact ha
    | cons x q ih => intro a ha hq; exact ih _ (Nat.or_lt_two_pow (n := 5) ha (diff_lt32 _ _ (hq x (by simp)).1)) fun y hy => hq y (by simp [hy])
  exact key q 0 (by omega) h
theorem pc_sub' {a b : Nat} (ha : a < 32) (hb : b < 32) (h : a &&& b = a) : pc a ≤ pc b := pc_sub ⟨a, ha⟩ ⟨b, hb⟩ h
theorem cost_light {wn sc : Nat} {q : List Light} {x : Light} {s : Nat} (hq : q32 q) (hx : x.shows < 32 ∧ x.seen < 32) : cost wn sc q s ≤ cost wn sc (q ++ [x]) s := by
  have hq' : q32 (q ++ [x]) := by
    intro y hy
    rcases List.mem_append.1 hy with hy | hy
    · exact hq y hy
    · obtain rfl : y = x := by simpa using hy
      exact hx
  have v1 := vis32 q hq
  have v2 := vis32 _ hq'
  have h1 := hidn32 q hq
  have h2 := hidn32 _ hq'
  refine cost_mono (Nat.le_refl _) (Nat.le_refl _) ?_ ?_ ?_ (cost_le _ _ _ _ (by omega) (by omega))
  · refine pc_sub' (Nat.lt_of_le_of_lt Nat.and_le_left v1) (Nat.lt_of_le_of_lt Nat.and_le_left v2) ?_
    rw [vis_snoc, hidn_snoc]
    apply Nat.eq_of_testBit_eq
    intro i
    simp only [Nat.testBit_and, Nat.testBit_or]
    cases (vis q).testBit i <;> cases (hidn q).testBit i <;> simp
  · refine pc_sub' (diff_lt32 _ _ v1) (diff_lt32 _ _ v2) ?_
    rw [vis_snoc]
    apply Nat.eq_of_testBit_eq
    intro i
    simp only [Nat.testBit_and, diff_bit, Nat.testBit_or]
    cases (vis q).testBit i <;> cases s.testBit i <;> simp
  · refine pc_sub' (Nat.lt_of_le_of_lt Nat.and_le_left h1) (Nat.lt_of_le_of_lt Nat.and_le_left h2) ?_
    rw [hidn_snoc]
    apply Nat.eq_of_testBit_eq
    intro i
    simp only [Nat.testBit_and, Nat.testBit_or]
    cases (hidn q).testBit i <;> cases s.testBit i <;> simp
theorem More.refl (L : Line) : More L L := ⟨Nat.le_refl _, rfl, fun j H h => ⟨j, h⟩, fun _ _ _ _ _ => Nat.le_refl _⟩
/-- One more light in a square. -/
theorem More.light {L : Line} (k : Nat) (q : List Light) (x : Light) (hk : L.squares[k]? = some q) (hq : q32 q) (hx : x.shows < 32 ∧ x.seen < 32) : More (L.withSquare k (q ++ [x])) L := by
  refine ⟨Nat.le_refl _, by simp [Line.withSquare], fun j H h => ⟨j, h⟩, fun H p i _ hp => ?_⟩
  rw [cutterOf_need, cutterOf_need]
  by_cases e : p = k
  · subst e
    have e1 : L.squares.getD p [] = q := by simp [List.getD, hk]
    have e2 : (L.withSquare p (q ++ [x])).squares.getD p [] = q ++ [x] := by simp [Line.withSquare, List.getD, hp]
    rw [e1, e2]
    exact cost_light hq hx
  · have e2 : (L.withSquare k (q ++ [x])).squares.getD p [] = L.squares.getD p [] := by simp [Line.withSquare, List.getD, List.getElem?_set, Ne.symm e]
    rw [e2]
    exact Nat.le_refl _
theorem More.total' {L : Line} (t : Nat) (ht : t ≤ L.total) : More (L.withTotal t) L := ⟨ht, rfl, fun j H h => ⟨j, h⟩, fun _ _ _ _ _ => Nat.le_refl _⟩
def Line.withMarks (L : Line) (wn sc : Nat) : Line := { L with worn := wn, scr := sc }
theorem More.marks {L : Line} (hL : L.ok) (wn sc : Nat) (h1 : wn ≤ L.worn) (h2 : sc ≤ L.scr) : More (L.withMarks wn sc) L := by
  refine ⟨Nat.le_refl _, rfl, fun j H h => ⟨j, h⟩, fun H p i _ hp => ?_⟩
  have h3 := need_le L hL H.shapes p i
  rw [cutterOf_need] at h3
  rw [cutterOf_need, cutterOf_need]
  exact cost_mono h1 h2 (Nat.le_refl _) (Nat.le_refl _) (Nat.le_refl _) h3
def Line.withHand (L : Line) (H : Hand) : Line := { L with hands := [H] }
theorem More.one {L : Line} (k : Nat) (H : Hand) (hk : L.hands[k]? = some H) : More (L.withHand H) L := by
  refine ⟨Nat.le_refl _, rfl, fun j H' h => ?_, fun _ _ _ _ _ => Nat.le_refl _⟩
  have h' := List.mem_of_getElem? h
  simp [Line.withHand] at h'
  exact ⟨k, by rw [h', hk]⟩

/-- The same line, its hands, squares and lights in another order: the hand with number j was hs[j], the square with number q was qs[q]. -/
structure Turned (X L : Line) (hs qs : List Nat) : Prop where
  worn : X.worn = L.worn
  scr : X.scr = L.scr
  total : X.total = L.total
  hperm : hs.Perm (List.range L.hands.length)
  qperm : qs.Perm (List.range L.squares.length)
  hlen : X.hands.length = hs.length
  qlen : X.squares.length = qs.length
  hand : ∀ (j k : Nat), hs[j]? = some k → X.hands[j]? = L.hands[k]?
  square : ∀ (j k : Nat) (q : List Light), qs[j]? = some k → L.squares[k]? = some q → ∃ q' : List Light, X.squares[j]? = some q' ∧ q'.Perm q
theorem vis_perm {q q' : List Light} (h : q'.Perm q) : vis q' = vis q := by
  unfold vis
  exact h.foldl_eq' (fun x _ y _ z => by rw [Nat.or_assoc, Nat.or_comm x.seen, ← Nat.or_assoc]) 0
theorem hidn_perm {q q' : List Light} (h : q'.Perm q) : hidn q' = hidn q := by
  unfold hidn
  exact h.foldl_eq' (fun x _ y _ z => by rw [Nat.or_assoc, Nat.or_comm (diff x.shows x.seen), ← Nat.or_assoc]) 0
theorem cost_perm {q q' : List Light} (h : q'.Perm q) (wn sc s : Nat) : cost wn sc q' s = cost wn sc q s := by
  unfold cost
  rw [vis_perm h, hidn_perm h]
theorem Turned.need {X L : Line} {hs qs : List Nat} (h : Turned X L hs qs) (S : List Shape) (j k i : Nat) (hj : qs[j]? = some k) : (cutterOf X S).need j i = (cutterOf L S).need k i := by
  have hk : k < L.squares.length := List.mem_range.1 (h.qperm.mem_iff.1 (List.mem_of_getElem? hj))
  obtain ⟨q', h1, h2⟩ := h.square j k _ hj (List.getElem?_eq_getElem hk)
  rw [cutterOf_need, cutterOf_need, h.worn, h.scr]
  have e1 : X.squares.getD j [] = q' := by simp [List.getD, h1]
  have e2 : L.squares.getD k [] = L.squares[k] := by simp [List.getD, hk]
  rw [e1, e2]
  exact cost_perm h2 _ _ _
theorem Turned.fewest {X L : Line} {hs qs : List Nat} (h : Turned X L hs qs) (S : List Shape) (j k : Nat) (hj : qs[j]? = some k) : (cutterOf X S).fewest j = (cutterOf L S).fewest k := by
  unfold Cutter.fewest Cutter.row
  have e : (List.range (cutterOf X S).shapes.length).map ((cutterOf X S).need j) = (List.range (cutterOf L S).shapes.length).map ((cutterOf L S).need k) := List.map_congr_left fun i _ => h.need S j k i hj
  rw [e]
theorem map_range_getD (qs : List Nat) (f : Nat → Nat) : (List.range qs.length).map (fun j => f (qs.getD j 0)) = qs.map f := by
  apply List.ext_getElem?
  intro i
  rw [List.getElem?_map, List.getElem?_map]
  by_cases hi : i < qs.length
  · simp [List.getElem?_range, hi, List.getD]
  · rw [List.getElem?_eq_none (by simpa using hi), List.getElem?_eq_none (by omega)]
    rfl
theorem Turned.sum {X L : Line} {hs qs : List Nat} (h : Turned X L hs qs) (H : Hand) : sumOf X H = sumOf L H := by
  unfold sumOf Cutter.sum
  rw [h.qlen]
  have e : (List.range qs.length).map (cutterOf X H.shapes).fewest = (List.range qs.length).map fun j => (cutterOf L H.shapes).fewest (qs.getD j 0) := List.map_congr_left fun j hj => by
    have hj' := List.mem_range.1 hj
    exact h.fewest _ j _ (by simp [List.getD, hj'])
  rw [e, map_range_getD qs (cutterOf L H.shapes).fewest]
  exact (h.qperm.map _).sum_nat
theorem Turned.hands_perm {X L : Line} {hs qs : List Nat} (h : Turned X L hs qs) : X.hands.Perm L.hands := by
  have e : X.hands = hs.map fun k => L.hands.getD k ⟨0, 0, []⟩ := by
    apply List.ext_getElem?
    intro j
    rw [List.getElem?_map]
    by_cases hj : j < hs.length
    · have h1 := h.hand j hs[j] (List.getElem?_eq_getElem hj)
      have hk : hs[j] < L.hands.length := List.mem_range.1 (h.hperm.mem_iff.1 (List.getElem_mem hj))
      rw [h1, List.getElem?_eq_getElem hj, List.getElem?_eq_getElem hk]
      simp [List.getD, hk]
    · rw [List.getElem?_eq_none (by rw [h.hlen]; omega), List.getElem?_eq_none (by omega)]
      rfl
  have e2 : L.hands = (List.range L.hands.length).map fun k => L.hands.getD k ⟨0, 0, []⟩ := by
    apply List.ext_getElem?
    intro j
    rw [List.getElem?_map]
    by_cases hj : j < L.hands.length
    · rw [List.getElem?_range hj, List.getElem?_eq_getElem hj]
      simp [List.getD, hj]
    · rw [List.getElem?_eq_none (by omega), List.getElem?_eq_none (by simpa using hj)]
      rfl
  rw [e]
  conv => rhs; rw [e2]
  exact h.hperm.map _
theorem leastOf_perm {a b : List Nat} (h : a.Perm b) (x : Nat) : leastOf x a = leastOf x b := by
  unfold leastOf
  exact h.foldl_eq' (fun x _ y _ z => by omega) x
theorem marks_hands (L : Line) : marksOf L = leastOf 81 (L.hands.map (sumOf L)) := by
  unfold marksOf sumsOf cuttersOf
  rw [List.map_map]
  rfl
theorem Turned.marks {X L : Line} {hs qs : List Nat} (h : Turned X L hs qs) : marksOf X = marksOf L := by
  rw [marks_hands, marks_hands]
  have e : X.hands.map (sumOf X) = X.hands.map (sumOf L) := List.map_congr_left fun H _ => h.sum H
  rw [e]
  exact leastOf_perm (h.hands_perm.map _) _
theorem filterMap_len {α β : Type} (f : Nat → Option α) (l : List β) (g : β → Bool) (hf : ∀ k b, l[k]? = some b → (f k).isSome = g b) : ((List.range l.length).filterMap f).length = (l.filter g).length := by
  have key : ∀ n, n ≤ l.length → ((List.range n).filterMap f).length = ((l.take n).filter g).length := by
    intro n
    induction n with
    | zero => intro _; simp
    | succ n ih =>
      intro hn
      have h1 := hf n l[n] (List.getElem?_eq_getElem (by omega))
      rw [List.range_succ, List.filterMap_append, List.length_append, ih (by omega), List.take_succ_eq_append_getElem (by omega), List.filter_append, List.length_append]
      congr 1
      cases h2 : f n with
      | none => rw [h2] at h1; simp [h2, ← h1]
      | some x => rw [h2] at h1; simp [h2, ← h1]
  have := key l.length (Nat.le_refl _)
  rwa [List.take_length] at this
theorem hands_len (L : Line) : (handsOf L).length = (L.hands.filter fun H => decide (sumOf L H ≤ L.total)).length := by
  unfold handsOf fits fitsTo
  rw [List.length_map]
  have e : (cuttersOf L).length = L.hands.length := by simp [cuttersOf]
  rw [e]
  refine filterMap_len _ _ _ fun k H hk => ?_
  have hc := cutters_at hk
  by_cases hs : sumOf L H ≤ L.total
  · rw [fitAt_yes _ _ _ _ _ hc hs]
    simp [hs]
  · rw [fitAt_no _ _ _ _ _ hc hs]
    simp [hs]
theorem Turned.hands_len {X L : Line} {hs qs : List Nat} (h : Turned X L hs qs) : (handsOf X).length = (handsOf L).length := by
  rw [Go.Proofs.Ythhajbgddifenaa.hands_len, Go.Proofs.Ythhajbgddifenaa.hands_len, h.total]
  have e : (X.hands.filter fun H => decide (sumOf X H ≤ L.total)) = X.hands.filter fun H => decide (sumOf L H ≤ L.total) := List.filter_congr fun H _ => by rw [h.sum H]
  rw [e]
  exact (h.hands_perm.filter _).length_eq
theorem Turned.hands {X L : Line} {hs qs : List Nat} (h : Turned X L hs qs) {j : Nat} (hj : j ∈ handsOf X) : ∃ k : Nat, hs[j]? = some k ∧ k ∈ handsOf L := by
  obtain ⟨H, hH, hs'⟩ := mem_hands.1 hj
  have hl : j < hs.length := by rw [← h.hlen]; exact (List.getElem?_eq_some_iff.1 hH).1
  have h1 := h.hand j hs[j] (List.getElem?_eq_getElem hl)
  rw [hH] at h1
  exact ⟨hs[j], List.getElem?_eq_getElem hl, mem_hands.2 ⟨H, h1.symm, by rw [← h.sum, ← h.total]; exact hs'⟩⟩
theorem Turned.letters {X L : Line} {hs qs : List Nat} (h : Turned X L hs qs) {j k : Nat} (hj : qs[j]? = some k) : orderText (allLetters X j) = orderText (allLetters L k) := by
  apply orderText_congr
  intro z
  rw [mem_letters, mem_letters]
  have key : ∀ (H : Hand) (i : Nat), LetterFits X H j i ↔ LetterFits L H k i := by
    intro H i
    unfold LetterFits
    rw [h.sum, h.total, h.need H.shapes j k i hj, h.fewest H.shapes j k hj]
  constructor
  · rintro ⟨a, H, i, hH, hf, rfl⟩
    obtain ⟨b, hb⟩ := List.mem_iff_getElem?.1 (h.hands_perm.mem_iff.1 (List.mem_of_getElem? hH))
    exact ⟨b, H, i, hb, (key H i).1 hf, rfl⟩
  · rintro ⟨a, H, i, hH, hf, rfl⟩
    obtain ⟨b, hb⟩ := List.mem_iff_getElem?.1 (h.hands_perm.mem_iff.2 (List.mem_of_getElem? hH))
    exact ⟨b, H, i, hb, (key H i).2 hf, rfl⟩
end
section

def fitsV (q : List Light) (v : Nat) : Bool := q.all fun x => (v &&& x.shows) == x.seen
def sqmAt (wn sc : Nat) (q : List Light) (s v : Nat) : Nat := if fitsV q v = true ∧ pc (diff s v) ≤ wn ∧ pc (diff v s) ≤ sc then pc (diff s v) + pc (diff v s) else 99
def sqmTo (wn sc : Nat) (q : List Light) (s n : Nat) : Nat := leastOf 99 ((List.range n).map (sqmAt wn sc q s))
/-- What the law's squareMarks tells. -/
def sqm (wn sc : Nat) (q : List Light) (s : Nat) : Nat := sqmTo wn sc q s 16
theorem sqmTo_succ (wn sc : Nat) (q : List Light) (s n : Nat) : sqmTo wn sc q s (n + 1) = min (sqmTo wn sc q s n) (sqmAt wn sc q s n) := by
  unfold sqmTo
  rw [List.range_succ, List.map_append]
  exact leastOf_snoc _ _ _
theorem sqmTo_le (wn sc : Nat) (q : List Light) (s n : Nat) : sqmTo wn sc q s n ≤ 99 := leastOf_le _ _

theorem vis_test (q : List Light) (i : Nat) : (vis q).testBit i = q.any fun x => x.seen.testBit i := by
  have key : ∀ (q : List Light) (a : Nat), (q.foldl (fun a x => a ||| x.seen) a).testBit i = (a.testBit i || q.any fun x => x.seen.testBit i) := by
    intro q
    induction q with
    | nil => intro a; simp
    | cons x q ih => intro a; rw [List.foldl_cons, ih, Nat.testBit_or, List.any_cons, Bool.or_assoc]
  have := key q 0
  simpa [vis] using this
theorem hidn_test (q : List Light) (i : Nat) : (hidn q).testBit i = q.any fun x => x.shows.testBit i && !x.seen.testBit i := by
  have key : ∀ (q : List Light) (a : Nat), (q.foldl (fun a x => a ||| diff x.shows x.seen) a).testBit i = (a.testBit i || q.any fun x => x.shows.testBit i && !x.seen.testBit i) := by
    intro q
    induction q with
    | nil => intro a; simp
    | cons x q ih => intro a; rw [List.foldl_cons, ih, Nat.testBit_or, diff_bit, List.any_cons, Bool.or_assoc]
  have := key q 0
  simpa [hidn] using this
def q16 (q : List Light) : Prop := ∀ x ∈ q, x.shows < 16 ∧ x.seen < 16 ∧ diff x.seen x.shows = 0
theorem q16.q32 {q : List Light} (h : q16 q) : q32 q := fun x hx => ⟨by have := (h x hx).1; omega, by have := (h x hx).2.1; omega⟩
theorem vis16 {q : List Light} (h : q16 q) : vis q < 16 := by
  have key : ∀ (q : List Light) (a : Nat), a < 16 → q16 q → q.foldl (fun a x => a ||| x.seen) a < 16 := by
    intro q
    induction q with
    | nil => intro a ha _; exact ha
    | cons x q ih => intro a ha hq; exact ih _ (Nat.or_lt_two_pow (n := 4) ha (hq x (by simp)).2.1) fun y hy => hq y (by simp [hy])
  exact key q 0 (by omega) h
theorem pc_zero : ∀ a : Fin 32, pc a.val = 0 → a.val = 0 := by decide +kernel
/-- The set that needs the fewest marks. -/
def bestV (q : List Light) (s : Nat) : Nat := vis q ||| diff s (hidn q)
theorem bestV_lt {q : List Light} {s : Nat} (hq : q16 q) (hs : s < 16) : bestV q s < 16 := Nat.or_lt_two_pow (n := 4) (vis16 hq) (diff_lt s _ 4 hs)
theorem bestV_bit (q : List Light) (s i : Nat) : (bestV q s).testBit i = ((vis q).testBit i || (s.testBit i && !(hidn q).testBit i)) := by
  unfold bestV
  rw [Nat.testBit_or, diff_bit]
theorem apart_bit {q : List Light} (hz : vis q &&& hidn q = 0) (i : Nat) : ((vis q).testBit i && (hidn q).testBit i) = false := by
  rw [← Nat.testBit_and, hz, Nat.zero_testBit]
theorem bestV_fits {q : List Light} {s : Nat} (hq : q16 q) (hz : vis q &&& hidn q = 0) : fitsV q (bestV q s) = true := by
  unfold fitsV
  rw [List.all_eq_true]
  intro x hx
  rw [beq_iff_eq]
  apply Nat.eq_of_testBit_eq
  intro i
  have h1 := apart_bit hz i
  have h2 : (diff x.seen x.shows).testBit i = false := by rw [(hq x hx).2.2, Nat.zero_testBit]
  rw [diff_bit] at h2
  have h3 : x.seen.testBit i = true → (vis q).testBit i = true := fun h => by rw [vis_test, List.any_eq_true]; exact ⟨x, hx, h⟩
  have h4 : (x.shows.testBit i && !x.seen.testBit i) = true → (hidn q).testBit i = true := fun h => by rw [hidn_test, List.any_eq_true]; exact ⟨x, hx, h⟩
  rw [Nat.testBit_and, bestV_bit]
  revert h1 h2 h3 h4
  cases x.seen.testBit i <;> cases x.shows.testBit i <;> cases (vis q).testBit i <;> cases (hidn q).testBit i <;> cases s.testBit i <;> simp
theorem bestV_worn {q : List Light} {s : Nat} (hz : vis q &&& hidn q = 0) : diff s (bestV q s) = hidn q &&& s := by
  apply Nat.eq_of_testBit_eq
  intro i
  have h1 := apart_bit hz i
  rw [diff_bit, bestV_bit, Nat.testBit_and]
  revert h1
  cases (vis q).testBit i <;> cases (hidn q).testBit i <;> cases s.testBit i <;> simp
theorem bestV_scr (q : List Light) (s : Nat) : diff (bestV q s) s = diff (vis q) s := by
  apply Nat.eq_of_testBit_eq
  intro i
  rw [diff_bit, bestV_bit, diff_bit]
  cases (vis q).testBit i <;> cases (hidn q).testBit i <;> cases s.testBit i <;> simp
theorem sqm_cost {wn sc : Nat} {q : List Light} {s : Nat} (hq : q16 q) (hs : s < 16) : sqm wn sc q s = if cost wn sc q s = 81 then 99 else cost wn sc q s := by
  have v32 := vis32 q hq.q32
  have h32 := hidn32 q hq.q32
  have low : ∀ v, v < 16 → sqmAt wn sc q s v = 99 ∨ (cost wn sc q s ≤ sqmAt wn sc q s v ∧ sqmAt wn sc q s v ≤ 10) := by
    intro v hv
    by_cases c : fitsV q v = true ∧ pc (diff s v) ≤ wn ∧ pc (diff v s) ≤ sc
    · right
      unfold sqmAt
      rw [if_pos c]
      have h1 : TrueSq wn sc q s v := ⟨by omega, by omega, c.2.1, c.2.2, fun x hx => ⟨(hq.q32 x hx).1, by
        have := List.all_eq_true.1 c.1 x hx
        exact (beq_iff_eq.1 this).symm⟩⟩
      have a1 := pc32_le ⟨diff s v, diff_lt32 s v (by omega)⟩
      have a2 := pc32_le ⟨diff v s, diff_lt32 v s (by omega)⟩
      exact ⟨cost_true h1, Nat.add_le_add a1 a2⟩
    · left
      unfold sqmAt
      rw [if_neg c]
  by_cases h81 : cost wn sc q s = 81
  · rw [if_pos h81]
    apply Nat.le_antisymm (leastOf_le _ _)
    have key : ∀ n, n ≤ 16 → 99 ≤ sqmTo wn sc q s n := by
      intro n
      induction n with
      | zero => intro _; exact Nat.le_refl _
      | succ n ih =>
        intro hn
        have := ih (by omega)
        rw [sqmTo_succ]
        rcases low n (by omega) with h | h <;> omega
    exact key 16 (Nat.le_refl _)
  · rw [if_neg h81]
    have h80 : ¬ (0 < pc (vis q &&& hidn q) ∨ sc < pc (diff (vis q) s) ∨ wn < pc (hidn q &&& s)) := by
      intro c
      apply h81
      unfold cost
      rw [if_pos c]
    have hz : vis q &&& hidn q = 0 := pc_zero ⟨vis q &&& hidn q, Nat.lt_of_le_of_lt Nat.and_le_left v32⟩ (by show pc (vis q &&& hidn q) = 0; omega)
    have hc : cost wn sc q s = pc (diff (vis q) s) + pc (hidn q &&& s) := cost_sum (by omega) (by omega) (by omega)
    have hb : sqmAt wn sc q s (bestV q s) = cost wn sc q s := by
      unfold sqmAt
      rw [bestV_worn hz, bestV_scr, if_pos ⟨bestV_fits hq hz, by omega, by omega⟩, hc]
      omega
    apply Nat.le_antisymm
    · rw [← hb]
      exact leastOf_le_mem (List.mem_map.2 ⟨_, List.mem_range.2 (bestV_lt hq hs), rfl⟩)
    · have hc20 : cost wn sc q s ≤ 10 := by
        have a1 := pc32_le ⟨diff (vis q) s, diff_lt32 _ _ v32⟩
        have a2 := pc32_le ⟨hidn q &&& s, Nat.lt_of_le_of_lt Nat.and_le_left h32⟩
        have a1' : pc (diff (vis q) s) ≤ 5 := a1
        have a2' : pc (hidn q &&& s) ≤ 5 := a2
        omega
      have key : ∀ n, n ≤ 16 → cost wn sc q s ≤ sqmTo wn sc q s n := by
        intro n
        induction n with
        | zero => intro _; show _ ≤ 99; omega
        | succ n ih =>
          intro hn
          have := ih (by omega)
          rw [sqmTo_succ]
          rcases low n (by omega) with h | h <;> omega
      exact key 16 (Nat.le_refl _)
end
section

/-- The marks that a square needs for the letter with number k of a hand. -/
def mkAt (L : Line) (S : List Shape) (q k : Nat) : Nat := sqm L.worn L.scr (L.squares.getD q []) (S.getD k ⟨0, 0⟩).strokes
/-- A way to go on: the letters' numbers so far, and the marks. -/
abbrev Way := List Nat × Nat
/-- What the walk comes to from here, d squares being left. -/
def ext (L : Line) (S : List Shape) : Nat → Way → List Way
  | 0, x => [x]
  | d + 1, x => (List.range S.length).flatMap fun k => if mkAt L S x.1.length k < 99 then ext L S d (x.1 ++ [k], x.2 + mkAt L S x.1.length k) else []
/-- The same, the letters with numbers below k alone being tried for the next square. -/
def extTo (L : Line) (S : List Shape) (d : Nat) (x : Way) (k : Nat) : List Way := (List.range k).flatMap fun k => if mkAt L S x.1.length k < 99 then ext L S d (x.1 ++ [k], x.2 + mkAt L S x.1.length k) else []
theorem extTo_all (L : Line) (S : List Shape) (d : Nat) (x : Way) : extTo L S d x S.length = ext L S (d + 1) x := rfl
theorem extTo_zero (L : Line) (S : List Shape) (d : Nat) (x : Way) : extTo L S d x 0 = [] := rfl
theorem extTo_succ (L : Line) (S : List Shape) (d : Nat) (x : Way) (k : Nat) : extTo L S d x (k + 1) = extTo L S d x k ++ if mkAt L S x.1.length k < 99 then ext L S d (x.1 ++ [k], x.2 + mkAt L S x.1.length k) else [] := by
  unfold extTo
  rw [List.range_succ, List.flatMap_append]
  simp

/-- What was found so far: the letters of each square, the hands, the least marks. -/
structure Found where
  letters : List (List UInt8)
  hands : List Nat
  marks : Nat
def addByte (l : List UInt8) (u : UInt8) : List UInt8 := if u ∈ l then l else l ++ [u]
def byteAt (S : List Shape) (k : Nat) : UInt8 := UInt8.ofNat (S.getD k ⟨0, 0⟩).letter
/-- The letters of a truth are added, in the squares below n. -/
def addTo (S : List Shape) (ks : List Nat) (ls : List (List UInt8)) : Nat → List (List UInt8)
  | 0 => ls
  | n + 1 => (addTo S ks ls n).set n (addByte ((addTo S ks ls n).getD n []) (byteAt S (ks.getD n 0)))
theorem addTo_length (S : List Shape) (ks : List Nat) (ls : List (List UInt8)) (n : Nat) : (addTo S ks ls n).length = ls.length := by
  induction n with
  | zero => rfl
  | succ n ih => rw [addTo, List.length_set, ih]
def addHand (hs : List Nat) (h : Nat) : List Nat := if h ∈ hs then hs else hs ++ [h]
/-- A way to its end. -/
def Found.add (T : Nat) (S : List Shape) (h : Nat) (f : Found) (x : Way) : Found :=
  if x.2 ≤ T then ⟨addTo S x.1 f.letters x.1.length, addHand f.hands h, min f.marks x.2⟩ else ⟨f.letters, f.hands, min f.marks x.2⟩
def Found.adds (T : Nat) (S : List Shape) (h : Nat) (f : Found) (xs : List Way) : Found := xs.foldl (Found.add T S h) f
theorem Found.adds_append (T : Nat) (S : List Shape) (h : Nat) (f : Found) (xs ys : List Way) : f.adds T S h (xs ++ ys) = (f.adds T S h xs).adds T S h ys := by simp [Found.adds]
/-- The hands below n, one after the other. -/
def foundTo (L : Line) : Nat → Found
  | 0 => ⟨List.replicate L.squares.length [], [], 999⟩
  | n + 1 => (foundTo L n).adds L.total (L.hands.getD n ⟨0, 0, []⟩).shapes n (ext L (L.hands.getD n ⟨0, 0, []⟩).shapes L.squares.length ([], 0))
def foundAll (L : Line) : Found := foundTo L L.hands.length

/-- A line of few squares, with strokes and lights of the strokes 0 to 3. -/
structure Slim (L : Line) : Prop where
  ok : L.ok
  hands : L.hands.length ≤ 2
  squares : L.squares.length ≤ 3
  shapes : ∀ h ∈ L.hands, h.shapes.length ≤ 3 ∧ ∀ s ∈ h.shapes, s.strokes < 16
  lights : ∀ q ∈ L.squares, q16 q
section
variable {L : Line} (hL : Slim L) {H : Hand} (hH : H ∈ L.hands)
include hL hH
theorem mk_need {q k : Nat} (hq : q < L.squares.length) (hk : k < H.shapes.length) : mkAt L H.shapes q k = if (cutterOf L H.shapes).need q k = 81 then 99 else (cutterOf L H.shapes).need q k := by
  have e1 : L.squares.getD q [] = L.squares[q] := by simp [List.getD, hq]
  have e2 : H.shapes.getD k ⟨0, 0⟩ = H.shapes[k] := by simp [List.getD, hk]
  rw [cutterOf_need]
  unfold mkAt
  rw [e1, e2]
  exact sqm_cost (hL.lights _ (List.getElem_mem hq)) ((hL.shapes H hH).2 _ (List.getElem_mem hk))
theorem mk_lt {q k : Nat} (hq : q < L.squares.length) (hk : k < H.shapes.length) : mkAt L H.shapes q k < 99 ↔ (cutterOf L H.shapes).need q k < 81 := by
  have h1 := mk_need hL hH hq hk
  have h2 := need_le L hL.ok H.shapes q k
  by_cases h : (cutterOf L H.shapes).need q k = 81
  · rw [if_pos h] at h1; omega
  · rw [if_neg h] at h1; omega
theorem mk_eq {q k : Nat} (hq : q < L.squares.length) (hk : k < H.shapes.length) (h : mkAt L H.shapes q k < 99) : mkAt L H.shapes q k = (cutterOf L H.shapes).need q k := by
  have h1 := mk_need hL hH hq hk
  by_cases h2 : (cutterOf L H.shapes).need q k = 81
  · rw [if_pos h2] at h1; omega
  · rw [if_neg h2] at h1; exact h1
end

def sumTo (L : Line) (S : List Shape) (ks : List Nat) (n : Nat) : Nat := ((List.range n).map fun q => mkAt L S q (ks.getD q 0)).sum
theorem sumTo_succ (L : Line) (S : List Shape) (ks : List Nat) (n : Nat) : sumTo L S ks (n + 1) = sumTo L S ks n + mkAt L S n (ks.getD n 0) := by simp [sumTo, List.range_succ]
theorem sumTo_congr {L : Line} {S : List Shape} {ks ks' : List Nat} {n : Nat} (h : ∀ q, q < n → ks.getD q 0 = ks'.getD q 0) : sumTo L S ks n = sumTo L S ks' n := by
  induction n with
  | zero => simp [sumTo]
  | succ n ih => rw [sumTo_succ, sumTo_succ, ih (fun q hq => h q (by omega)), h n (by omega)]
/-- A way of n letters that may be. -/
structure WayOk (L : Line) (S : List Shape) (n : Nat) (y : Way) : Prop where
  len : y.1.length = n
  lt : ∀ q, q < n → y.1.getD q 0 < S.length ∧ mkAt L S q (y.1.getD q 0) < 99
  sum : y.2 = sumTo L S y.1 n
theorem WayOk.nil (L : Line) (S : List Shape) : WayOk L S 0 ([], 0) := ⟨rfl, fun q hq => by omega, by simp [sumTo]⟩
theorem getD_snoc_lt {l : List Nat} {k q : Nat} (hq : q < l.length) : (l ++ [k]).getD q 0 = l.getD q 0 := by simp [List.getD, List.getElem?_append_left hq]
theorem getD_snoc_eq (l : List Nat) (k : Nat) : (l ++ [k]).getD l.length 0 = k := by simp [List.getD]
theorem WayOk.snoc {L : Line} {S : List Shape} {n : Nat} {x : Way} (h : WayOk L S n x) {k : Nat} (hk : k < S.length) (hm : mkAt L S n k < 99) : WayOk L S (n + 1) (x.1 ++ [k], x.2 + mkAt L S n k) := by
  have hl := h.len
  refine ⟨by simp [hl], fun q hq => ?_, ?_⟩
  · by_cases e : q = n
    · subst e
      have := getD_snoc_eq x.1 k
      rw [hl] at this
      rw [this]
      exact ⟨hk, hm⟩
    · rw [getD_snoc_lt (by omega)]
      exact h.lt q (by omega)
  · show x.2 + mkAt L S n k = sumTo L S (x.1 ++ [k]) (n + 1)
    have e := getD_snoc_eq x.1 k
    rw [hl] at e
    rw [sumTo_succ, e, h.sum, sumTo_congr (ks := x.1 ++ [k]) (ks' := x.1) fun q hq => getD_snoc_lt (by omega)]
theorem take_getD {l : List Nat} {n q : Nat} (hq : q < n) : (l.take n).getD q 0 = l.getD q 0 := by simp [List.getD, hq]
theorem mem_ext (L : Line) (S : List Shape) : ∀ (d n : Nat) (x y : Way), WayOk L S n x → (y ∈ ext L S d x ↔ WayOk L S (n + d) y ∧ y.1.take n = x.1) := by
  intro d
  induction d with
  | zero =>
    intro n x y hx
    show y ∈ [x] ↔ _
    rw [List.mem_singleton]
    constructor
    · rintro rfl
      exact ⟨hx, List.take_of_length_le (by rw [hx.len]; exact Nat.le_refl _)⟩
    · rintro ⟨hy, ht⟩
      have e : y.1 = x.1 := by rw [← ht, List.take_of_length_le (by rw [hy.len]; exact Nat.le_refl _)]
      refine Prod.ext e ?_
      rw [hy.sum, hx.sum, e, Nat.add_zero]
  | succ d ih =>
    intro n x y hx
    have hl := hx.len
    show y ∈ (List.range S.length).flatMap _ ↔ _
    rw [List.mem_flatMap]
    constructor
    · rintro ⟨k, hk, hy⟩
      have hk' := List.mem_range.1 hk
      rw [hl] at hy
      by_cases hm : mkAt L S n k < 99
      · rw [if_pos hm] at hy
        obtain ⟨h1, h2⟩ := (ih (n + 1) _ y (hx.snoc hk' hm)).1 hy
        refine ⟨by rw [show n + (d + 1) = n + 1 + d by omega]; exact h1, ?_⟩
        have h3 : (y.1.take (n + 1)).take n = (x.1 ++ [k]).take n := by rw [h2]
        rw [List.take_take, Nat.min_eq_left (by omega), ← hl, List.take_left] at h3
        rw [← hl]
        exact h3
      · rw [if_neg hm] at hy
        cases hy
    · rintro ⟨hy, ht⟩
      obtain ⟨g1, g2⟩ := hy.lt n (by omega)
      refine ⟨y.1.getD n 0, List.mem_range.2 g1, ?_⟩
      rw [hl, if_pos g2]
      refine (ih (n + 1) _ y (hx.snoc g1 g2)).2 ⟨by rw [show n + 1 + d = n + (d + 1) by omega]; exact hy, ?_⟩
      have hn : n < y.1.length := by rw [hy.len]; omega
      rw [List.take_succ_eq_append_getElem hn, ht]
      simp [List.getD, hn]
theorem mem_ways {L : Line} {S : List Shape} {m : Nat} {y : Way} : y ∈ ext L S m ([], 0) ↔ WayOk L S m y := by
  rw [mem_ext L S m 0 ([], 0) y (WayOk.nil L S), Nat.zero_add]
  exact ⟨fun h => h.1, fun h => ⟨h, rfl⟩⟩
section
variable {L : Line} (hL : Slim L) {H : Hand} (hH : H ∈ L.hands)
include hL hH
/-- A way needs as many marks as the fewest, and more where it has another letter. -/
theorem way_sum {y : Way} (hy : WayOk L H.shapes L.squares.length y) : sumOf L H ≤ y.2 ∧ ∀ q, q < L.squares.length → sumOf L H + (cutterOf L H.shapes).need q (y.1.getD q 0) ≤ y.2 + (cutterOf L H.shapes).fewest q := by
  have key : ∀ n, n ≤ L.squares.length → (cutterOf L H.shapes).sum n ≤ sumTo L H.shapes y.1 n ∧ ∀ q, q < n → (cutterOf L H.shapes).sum n + (cutterOf L H.shapes).need q (y.1.getD q 0) ≤ sumTo L H.shapes y.1 n + (cutterOf L H.shapes).fewest q := by
    intro n
    induction n with
    | zero => intro _; exact ⟨by simp [Cutter.sum], fun q hq => by omega⟩
    | succ n ih =>
      intro hn
      obtain ⟨h1, h2⟩ := ih (by omega)
      obtain ⟨g1, g2⟩ := hy.lt n (by omega)
      have h3 := mk_eq hL hH (by omega) g1 g2
      have h4 := fewest_need (cutterOf L H.shapes) n _ g1
      rw [Cutter.sum_succ, sumTo_succ]
      refine ⟨by omega, fun q hq => ?_⟩
      by_cases e : q = n
      · subst e; omega
      · have := h2 q (by omega); omega
  have := key _ (Nat.le_refl _)
  rw [← hy.sum] at this
  exact this
theorem way_fits {y : Way} (hy : WayOk L H.shapes L.squares.length y) (hT : y.2 ≤ L.total) {q : Nat} (hq : q < L.squares.length) : LetterFits L H q (y.1.getD q 0) := by
  obtain ⟨h1, h2⟩ := way_sum hL hH hy
  have := h2 q hq
  exact ⟨by omega, (hy.lt q hq).1, by omega⟩
omit hL hH in
theorem leastOf_mem (a : Nat) (l : List Nat) : leastOf a l = a ∨ leastOf a l ∈ l := by
  unfold leastOf
  induction l generalizing a with
  | nil => exact .inl rfl
  | cons x l ih =>
    rw [List.foldl_cons]
    rcases ih (min a x) with h | h
    · rw [h]
      rcases Nat.le_total a x with h1 | h1
      · left; omega
      · right; rw [Nat.min_eq_right h1]; simp
    · right; simp [h]
omit hL hH in
theorem fewest_at (c : Cutter) (q : Nat) (h : c.fewest q < 81) : ∃ k, k < c.shapes.length ∧ c.need q k = c.fewest q := by
  unfold Cutter.fewest at h ⊢
  rcases leastOf_mem 81 (c.row q) with e | e
  · omega
  · obtain ⟨k, hk, e⟩ := List.mem_map.1 e
    exact ⟨k, List.mem_range.1 hk, e⟩
/-- Letters whose marks are known make a way. -/
theorem way_of (f : Nat → Nat) (hf : ∀ q, q < L.squares.length → f q < H.shapes.length ∧ (cutterOf L H.shapes).need q (f q) < 81) :
    WayOk L H.shapes L.squares.length ((List.range L.squares.length).map f, ((List.range L.squares.length).map fun q => (cutterOf L H.shapes).need q (f q)).sum) := by
  have hg : ∀ q, q < L.squares.length → ((List.range L.squares.length).map f).getD q 0 = f q := fun q hq => by simp [List.getD, hq]
  refine ⟨by simp, fun q hq => ?_, ?_⟩
  · show ((List.range L.squares.length).map f).getD q 0 < _ ∧ mkAt L H.shapes q (((List.range L.squares.length).map f).getD q 0) < 99
    rw [hg q hq]
    exact ⟨(hf q hq).1, (mk_lt hL hH hq (hf q hq).1).2 (hf q hq).2⟩
  · show _ = sumTo L H.shapes ((List.range L.squares.length).map f) L.squares.length
    unfold sumTo
    refine congrArg List.sum (List.map_congr_left fun q hq => ?_)
    have hq' := List.mem_range.1 hq
    rw [hg q hq', mk_eq hL hH hq' (hf q hq').1 ((mk_lt hL hH hq' (hf q hq').1).2 (hf q hq').2)]
omit hL hH in
theorem fewest_lt (h : sumOf L H < 81) {q : Nat} (hq : q < L.squares.length) : (cutterOf L H.shapes).fewest q < 81 := by
  have h5 := (cutterOf L H.shapes).sum_mono (j := q + 1) (k := L.squares.length) hq
  rw [Cutter.sum_succ] at h5
  unfold sumOf at h
  omega
/-- A letter that fits stands in a way. -/
theorem way_letter {q i : Nat} (hq : q < L.squares.length) (h : LetterFits L H q i) : ∃ y, WayOk L H.shapes L.squares.length y ∧ y.2 ≤ L.total ∧ y.1.getD q 0 = i := by
  obtain ⟨h1, h2, h3⟩ := h
  have hT : L.total ≤ 40 := hL.ok.2.2.2.2.2.1
  have hch : ∀ p, ∃ k, p < L.squares.length → k < H.shapes.length ∧ (cutterOf L H.shapes).need p k = (cutterOf L H.shapes).fewest p := fun p => by
    by_cases hp : p < L.squares.length
    · obtain ⟨k, hk, e⟩ := fewest_at (cutterOf L H.shapes) p (fewest_lt (by omega) hp)
      exact ⟨k, fun _ => ⟨hk, e⟩⟩
    · exact ⟨0, fun h => absurd h hp⟩
  obtain ⟨f0, hf0⟩ : ∃ f0 : Nat → Nat, ∀ p, p < L.squares.length → f0 p < H.shapes.length ∧ (cutterOf L H.shapes).need p (f0 p) = (cutterOf L H.shapes).fewest p := ⟨fun p => (hch p).choose, fun p => (hch p).choose_spec⟩
  have hfq := fewest_lt (H := H) (by omega) hq
  have hle : (cutterOf L H.shapes).fewest q ≤ sumOf L H := by
    have h5 := (cutterOf L H.shapes).sum_mono (j := q + 1) (k := L.squares.length) hq
    rw [Cutter.sum_succ] at h5
    unfold sumOf
    omega
  have hw := way_of hL hH (fun p => if p = q then i else f0 p) (fun p hp => by
    by_cases e : p = q
    · subst e
      show (if p = p then i else f0 p) < _ ∧ (cutterOf L H.shapes).need p (if p = p then i else f0 p) < 81
      rw [if_pos rfl]
      exact ⟨h2, by omega⟩
    · show (if p = q then i else f0 p) < _ ∧ (cutterOf L H.shapes).need p (if p = q then i else f0 p) < 81
      rw [if_neg e]
      exact ⟨(hf0 p hp).1, by rw [(hf0 p hp).2]; exact fewest_lt (by omega) hp⟩)
  refine ⟨_, hw, ?_, ?_⟩
  · have key : ∀ n, n ≤ L.squares.length → ((List.range n).map fun p => (cutterOf L H.shapes).need p (if p = q then i else f0 p)).sum + (if q < n then (cutterOf L H.shapes).fewest q else 0) = (cutterOf L H.shapes).sum n + (if q < n then (cutterOf L H.shapes).need q i else 0) := by
      intro n
      induction n with
      | zero => intro _; simp [Cutter.sum]
      | succ n ih =>
        intro hn
        have := ih (by omega)
        rw [Cutter.sum_succ]
        simp only [List.range_succ, List.map_append, List.sum_append, List.map_cons, List.map_nil, List.sum_cons, List.sum_nil]
        by_cases e : n = q
        · subst e
          rw [if_pos rfl, if_pos (by omega), if_pos (by omega)]
          rw [if_neg (by omega), if_neg (by omega)] at this
          omega
        · have := (hf0 n (by omega)).2
          rw [if_neg e]
          by_cases e2 : q < n
          · rw [if_pos (by omega), if_pos (by omega)]
            rw [if_pos e2, if_pos e2] at ih
            have := ih (by omega)
            omega
          · rw [if_neg (by omega), if_neg (by omega)]
            rw [if_neg e2, if_neg e2] at ih
            have := ih (by omega)
            omega
    have := key _ (Nat.le_refl _)
    rw [if_pos hq, if_pos hq] at this
    show ((List.range L.squares.length).map fun p => (cutterOf L H.shapes).need p (if p = q then i else f0 p)).sum ≤ L.total
    unfold sumOf at h1 h3 hle
    omega
  · simp [List.getD, hq]
/-- If there are not too many marks there is a way with as few. -/
theorem way_least (h : sumOf L H < 81) : ∃ y, WayOk L H.shapes L.squares.length y ∧ y.2 = sumOf L H := by
  have hch : ∀ p, ∃ k, p < L.squares.length → k < H.shapes.length ∧ (cutterOf L H.shapes).need p k = (cutterOf L H.shapes).fewest p := fun p => by
    by_cases hp : p < L.squares.length
    · obtain ⟨k, hk, e⟩ := fewest_at (cutterOf L H.shapes) p (fewest_lt h hp)
      exact ⟨k, fun _ => ⟨hk, e⟩⟩
    · exact ⟨0, fun h => absurd h hp⟩
  obtain ⟨f0, hf0⟩ : ∃ f0 : Nat → Nat, ∀ p, p < L.squares.length → f0 p < H.shapes.length ∧ (cutterOf L H.shapes).need p (f0 p) = (cutterOf L H.shapes).fewest p := ⟨fun p => (hch p).choose, fun p => (hch p).choose_spec⟩
  refine ⟨_, way_of hL hH f0 (fun p hp => ⟨(hf0 p hp).1, by rw [(hf0 p hp).2]; exact fewest_lt h hp⟩), ?_⟩
  show ((List.range L.squares.length).map fun q => (cutterOf L H.shapes).need q (f0 q)).sum = (cutterOf L H.shapes).sum L.squares.length
  unfold Cutter.sum
  exact congrArg List.sum (List.map_congr_left fun p hp => (hf0 p (List.mem_range.1 hp)).2)
/-- A way needs few marks. -/
theorem way_few {y : Way} (hy : WayOk L H.shapes L.squares.length y) : y.2 ≤ 60 := by
  have h10 : L.worn ≤ 10 ∧ L.scr ≤ 10 := ⟨hL.ok.2.2.2.1, hL.ok.2.2.2.2.1⟩
  have key : ∀ n, n ≤ L.squares.length → sumTo L H.shapes y.1 n ≤ 20 * n := by
    intro n
    induction n with
    | zero => intro _; simp [sumTo]
    | succ n ih =>
      intro hn
      have := ih (by omega)
      obtain ⟨g1, g2⟩ := hy.lt n (by omega)
      have h3 := mk_eq hL hH (by omega) g1 g2
      have h4 := (mk_lt hL hH (by omega) g1).1 g2
      rw [cutterOf_need] at h3 h4
      rw [sumTo_succ, h3]
      unfold cost at h4 ⊢
      split at h4
      · omega
      · rename_i c
        rw [if_neg c]
        omega
  have := key _ (Nat.le_refl _)
  rw [← hy.sum] at this
  have := hL.squares
  omega
end
end
section

theorem addByte_mem {l : List UInt8} {u v : UInt8} : v ∈ addByte l u ↔ v ∈ l ∨ v = u := by
  unfold addByte
  split
  · rename_i h
    exact ⟨.inl, fun h' => h'.elim id fun e => e ▸ h⟩
  · simp
theorem addByte_nodup {l : List UInt8} (u : UInt8) (h : l.Nodup) : (addByte l u).Nodup := by
  unfold addByte
  split
  · exact h
  · rename_i hu
    exact List.nodup_append.2 ⟨h, by simp, fun a ha b hb => by
      obtain rfl : b = u := by simpa using hb
      rintro rfl
      exact hu ha⟩
theorem addTo_getD (S : List Shape) (ks : List Nat) (ls : List (List UInt8)) : ∀ n, n ≤ ls.length → ∀ q, (addTo S ks ls n).getD q [] = if q < n then addByte (ls.getD q []) (byteAt S (ks.getD q 0)) else ls.getD q [] := by
  intro n
  induction n with
  | zero => intro _ q; rw [if_neg (by omega)]; rfl
  | succ n ih =>
    intro hn q
    have hl := addTo_length S ks ls n
    rw [addTo]
    by_cases e : q = n
    · subst e
      rw [if_pos (by omega)]
      have e1 : ((addTo S ks ls q).set q (addByte ((addTo S ks ls q).getD q []) (byteAt S (ks.getD q 0)))).getD q [] = addByte ((addTo S ks ls q).getD q []) (byteAt S (ks.getD q 0)) := by
        simp only [List.getD, List.getElem?_set_self (show q < (addTo S ks ls q).length by omega), Option.getD_some]
      rw [e1, ih (by omega), if_neg (by omega)]
    · have e1 : ∀ x, ((addTo S ks ls n).set n x).getD q [] = (addTo S ks ls n).getD q [] := fun x => by simp only [List.getD, List.getElem?_set_ne (Ne.symm e)]
      rw [e1, ih (by omega)]
      by_cases e2 : q < n
      · rw [if_pos e2, if_pos (by omega)]
      · rw [if_neg e2, if_neg (by omega)]
theorem addHand_eq (n : Nat) (hs : List Nat) (h : ∀ x ∈ hs, x < n) : addHand hs n = hs ++ [n] := by
  unfold addHand
  rw [if_neg (fun hm => by have := h n hm; omega)]
/-- What holds of what was found of some ways of a hand. -/
structure Adds (T m : Nat) (S : List Shape) (h : Nat) (f : Found) (xs : List Way) (f' : Found) : Prop where
  len : f'.letters.length = m
  marks : f'.marks ≤ f.marks ∧ (∀ x ∈ xs, f'.marks ≤ x.2) ∧ (f'.marks = f.marks ∨ ∃ x ∈ xs, f'.marks = x.2)
  hands : f'.hands = if ∃ x ∈ xs, x.2 ≤ T then addHand f.hands h else f.hands
  letters : ∀ q, q < m → ∀ u, u ∈ f'.letters.getD q [] ↔ u ∈ f.letters.getD q [] ∨ ∃ x ∈ xs, x.2 ≤ T ∧ u = byteAt S (x.1.getD q 0)
  nodup : (∀ q, q < m → (f.letters.getD q []).Nodup) → ∀ q, q < m → (f'.letters.getD q []).Nodup
theorem adds_all (T m : Nat) (S : List Shape) (h : Nat) (f : Found) (hf : f.letters.length = m) : ∀ xs : List Way, (∀ x ∈ xs, x.1.length = m) → Adds T m S h f xs (f.adds T S h xs) := by
  intro xs
  suffices H : ∀ rs : List Way, (∀ x ∈ rs.reverse, x.1.length = m) → Adds T m S h f rs.reverse (f.adds T S h rs.reverse) by
    intro hx
    have := H xs.reverse (by simpa using hx)
    simpa using this
  intro rs
  induction rs with
  | nil => exact fun _ => ⟨hf, ⟨Nat.le_refl _, by simp, .inl rfl⟩, by simp [Found.adds], fun q hq u => by simp [Found.adds], fun h => h⟩
  | cons x rs ih =>
    intro hx
    rw [List.reverse_cons] at hx ⊢
    have hxl : x.1.length = m := hx x (by simp)
    obtain ⟨a1, ⟨a2, a3, a4⟩, a5, a6, a7⟩ := ih fun y hy => hx y (by simp at hy ⊢; exact .inl hy)
    obtain ⟨g, hg⟩ : ∃ g, g = f.adds T S h rs.reverse := ⟨_, rfl⟩
    rw [Found.adds_append, ← hg]
    rw [← hg] at a1 a2 a3 a4 a5 a6 a7
    have e : g.adds T S h [x] = g.add T S h x := rfl
    rw [e]
    unfold Found.add
    by_cases ht : x.2 ≤ T
    · rw [if_pos ht]
      refine ⟨by rw [addTo_length]; exact a1, ⟨Nat.le_trans (Nat.min_le_left _ _) a2, fun y hy => ?_, ?_⟩, ?_, fun q hq u => ?_, fun hn q hq => ?_⟩
      · rcases List.mem_append.1 hy with hy | hy
        · exact Nat.le_trans (Nat.min_le_left _ _) (a3 y hy)
        · obtain rfl : y = x := by simpa using hy
          exact Nat.min_le_right _ _
      · show min g.marks x.2 = _ ∨ _
        rcases Nat.le_total g.marks x.2 with c | c
        · rw [Nat.min_eq_left c]
          rcases a4 with a4 | ⟨y, hy, e⟩
          · exact .inl a4
          · exact .inr ⟨y, List.mem_append_left _ hy, e⟩
        · rw [Nat.min_eq_right c]
          exact .inr ⟨x, by simp, rfl⟩
      · show addHand g.hands h = _
        rw [if_pos ⟨x, by simp, ht⟩, a5]
        by_cases c : ∃ y ∈ rs.reverse, y.2 ≤ T
        · rw [if_pos c]
          by_cases hm : h ∈ f.hands <;> simp [addHand, hm]
        · rw [if_neg c]
      · rw [addTo_getD S x.1 g.letters x.1.length (by omega) q, if_pos (by omega), addByte_mem, a6 q hq u]
        constructor
        · rintro ((h1 | ⟨y, hy, h2⟩) | h1)
          · exact .inl h1
          · exact .inr ⟨y, List.mem_append_left _ hy, h2⟩
          · exact .inr ⟨x, by simp, ht, h1⟩
        · rintro (h1 | ⟨y, hy, h2, h3⟩)
          · exact .inl (.inl h1)
          · rcases List.mem_append.1 hy with hy | hy
            · exact .inl (.inr ⟨y, hy, h2, h3⟩)
            · obtain rfl : y = x := by simpa using hy
              exact .inr h3
      · rw [addTo_getD S x.1 g.letters x.1.length (by omega) q, if_pos (by omega)]
        exact addByte_nodup _ (a7 hn q hq)
    · rw [if_neg ht]
      refine ⟨a1, ⟨Nat.le_trans (Nat.min_le_left _ _) a2, fun y hy => ?_, ?_⟩, ?_, fun q hq u => ?_, a7⟩
      · rcases List.mem_append.1 hy with hy | hy
        · exact Nat.le_trans (Nat.min_le_left _ _) (a3 y hy)
        · obtain rfl : y = x := by simpa using hy
          exact Nat.min_le_right _ _
      · show min g.marks x.2 = _ ∨ _
        rcases Nat.le_total g.marks x.2 with c | c
        · rw [Nat.min_eq_left c]
          rcases a4 with a4 | ⟨y, hy, e⟩
          · exact .inl a4
          · exact .inr ⟨y, List.mem_append_left _ hy, e⟩
        · rw [Nat.min_eq_right c]
          exact .inr ⟨x, by simp, rfl⟩
      · show g.hands = _
        rw [a5]
        have : (∃ y ∈ rs.reverse ++ [x], y.2 ≤ T) ↔ ∃ y ∈ rs.reverse, y.2 ≤ T := by
          constructor
          · rintro ⟨y, hy, h1⟩
            rcases List.mem_append.1 hy with hy | hy
            · exact ⟨y, hy, h1⟩
            · obtain rfl : y = x := by simpa using hy
              exact absurd h1 ht
          · rintro ⟨y, hy, h1⟩
            exact ⟨y, List.mem_append_left _ hy, h1⟩
        simp only [this]
      · show u ∈ g.letters.getD q [] ↔ _
        rw [a6 q hq u]
        constructor
        · rintro (h1 | ⟨y, hy, h2⟩)
          · exact .inl h1
          · exact .inr ⟨y, List.mem_append_left _ hy, h2⟩
        · rintro (h1 | ⟨y, hy, h2, h3⟩)
          · exact .inl h1
          · rcases List.mem_append.1 hy with hy | hy
            · exact .inr ⟨y, hy, h2, h3⟩
            · obtain rfl : y = x := by simpa using hy
              exact absurd h2 ht
/-- Does a hand fit? -/
def handFits (L : Line) (k : Nat) : Bool := match L.hands[k]? with
  | some H => decide (sumOf L H ≤ L.total)
  | none => false
/-- What holds of what was found of the hands below n. -/
structure FoundOk (L : Line) (n : Nat) (f : Found) : Prop where
  len : f.letters.length = L.squares.length
  few : f.marks ≤ 999
  marks : ∀ k H, k < n → L.hands[k]? = some H → ∀ y, WayOk L H.shapes L.squares.length y → f.marks ≤ y.2
  least : f.marks = 999 ∨ ∃ k H y, k < n ∧ L.hands[k]? = some H ∧ WayOk L H.shapes L.squares.length y ∧ f.marks = y.2
  hands : f.hands = (List.range n).filter (handFits L)
  letters : ∀ q, q < L.squares.length → ∀ u, u ∈ f.letters.getD q [] ↔ ∃ k H y, k < n ∧ L.hands[k]? = some H ∧ WayOk L H.shapes L.squares.length y ∧ y.2 ≤ L.total ∧ u = byteAt H.shapes (y.1.getD q 0)
  nodup : ∀ q, q < L.squares.length → (f.letters.getD q []).Nodup
theorem foundTo_ok {L : Line} (hL : Slim L) : ∀ n, n ≤ L.hands.length → FoundOk L n (foundTo L n) := by
  intro n
  induction n with
  | zero =>
    intro _
    have e : ∀ q, (List.replicate L.squares.length ([] : List UInt8)).getD q [] = [] := fun q => by
      simp only [List.getD, List.getElem?_replicate]
      split <;> rfl
    refine ⟨by simp [foundTo], Nat.le_refl _, fun k H hk => by omega, .inl rfl, rfl, fun q hq u => ?_, fun q hq => ?_⟩
    · show u ∈ (List.replicate L.squares.length ([] : List UInt8)).getD q [] ↔ _
      rw [e]
      constructor
      · intro h; cases h
      · rintro ⟨k, _, _, hk, _⟩; omega
    · show ((List.replicate L.squares.length ([] : List UInt8)).getD q []).Nodup
      rw [e]
      exact List.nodup_nil
  | succ n ih =>
    intro hn
    obtain ⟨b1, b2, b3, b4, b5, b6, b7⟩ := ih (by omega)
    have hH : L.hands[n]? = some L.hands[n] := List.getElem?_eq_getElem (by omega)
    have hm : L.hands[n] ∈ L.hands := List.getElem_mem _
    have eH : L.hands.getD n ⟨0, 0, []⟩ = L.hands[n] := by simp [List.getD, hH]
    have hT : L.total ≤ 40 := hL.ok.2.2.2.2.2.1
    obtain ⟨a1, ⟨a2, a3, a4⟩, a5, a6, a7⟩ := adds_all L.total L.squares.length L.hands[n].shapes n (foundTo L n) b1 (ext L L.hands[n].shapes L.squares.length ([], 0)) fun x hx => (mem_ways.1 hx).len
    have e : foundTo L (n + 1) = (foundTo L n).adds L.total L.hands[n].shapes n (ext L L.hands[n].shapes L.squares.length ([], 0)) := by rw [foundTo, eH]
    rw [e]
    have hlast : ∀ {k H}, k < n + 1 → L.hands[k]? = some H → k < n ∨ (k = n ∧ H = L.hands[n]) := fun {k H} hk hkH => by
      by_cases c : k < n
      · exact .inl c
      · right
        have c' : k = n := by omega
        subst c'
        rw [hH] at hkH
        injection hkH with hkH
        exact ⟨rfl, hkH.symm⟩
    refine ⟨a1, Nat.le_trans a2 b2, fun k H hk hkH y hy => ?_, ?_, ?_, fun q hq u => ?_, a7 b7⟩
    · rcases hlast hk hkH with c | ⟨rfl, rfl⟩
      · exact Nat.le_trans a2 (b3 k H c hkH y hy)
      · exact a3 y (mem_ways.2 hy)
    · rcases a4 with a4 | ⟨y, hy, a4⟩
      · rcases b4 with b4 | ⟨k, H, y, h1, h2, h3, h4⟩
        · exact .inl (a4.trans b4)
        · exact .inr ⟨k, H, y, by omega, h2, h3, a4.trans h4⟩
      · exact .inr ⟨n, _, y, by omega, hH, mem_ways.1 hy, a4⟩
    · rw [a5, List.range_succ, List.filter_append, b5]
      have hf : handFits L n = decide (sumOf L L.hands[n] ≤ L.total) := by unfold handFits; rw [hH]
      have hiff : (∃ x ∈ ext L L.hands[n].shapes L.squares.length ([], 0), x.2 ≤ L.total) ↔ sumOf L L.hands[n] ≤ L.total := by
        constructor
        · rintro ⟨x, hx, h1⟩
          exact Nat.le_trans (way_sum hL hm (mem_ways.1 hx)).1 h1
        · intro h
          obtain ⟨y, hy, e⟩ := way_least hL hm (show sumOf L L.hands[n] < 81 by omega)
          exact ⟨y, mem_ways.2 hy, by omega⟩
      by_cases c : sumOf L L.hands[n] ≤ L.total
      · rw [if_pos (hiff.2 c), addHand_eq n _ (fun x hx => List.mem_range.1 (List.mem_filter.1 hx).1)]
        simp [hf, c]
      · rw [if_neg (fun h => c (hiff.1 h))]
        simp [hf, c]
    · rw [a6 q hq u, b6 q hq u]
      constructor
      · rintro (⟨k, H, y, h1, h2⟩ | ⟨y, hy, h1, h2⟩)
        · exact ⟨k, H, y, by omega, h2⟩
        · exact ⟨n, _, y, by omega, hH, mem_ways.1 hy, h1, h2⟩
      · rintro ⟨k, H, y, h1, h2, h3, h4, h5⟩
        rcases hlast h1 h2 with c | ⟨rfl, rfl⟩
        · exact .inl ⟨k, H, y, c, h2, h3, h4, h5⟩
        · exact .inr ⟨y, mem_ways.2 h3, h4, h5⟩
section
variable {L : Line} (hL : Slim L)
include hL
theorem found_all : FoundOk L L.hands.length (foundAll L) := foundTo_ok hL _ (Nat.le_refl _)
omit hL in
theorem hands_filter : handsOf L = (List.range L.hands.length).filter (handFits L) := by
  unfold handsOf fits fitsTo
  have hlen : (cuttersOf L).length = L.hands.length := by simp [cuttersOf]
  rw [hlen]
  have key : ∀ n, n ≤ L.hands.length → ((List.range n).filterMap (fitAt (cuttersOf L) L.squares.length L.total)).map (fun x => x.1.1) = (List.range n).filter (handFits L) := by
    intro n
    induction n with
    | zero => intro _; rfl
    | succ n ih =>
      intro hn
      have hH : L.hands[n]? = some L.hands[n] := List.getElem?_eq_getElem (by omega)
      have hc := cutters_at hH
      have hf : handFits L n = decide (sumOf L L.hands[n] ≤ L.total) := by unfold handFits; rw [hH]
      rw [List.range_succ, List.filterMap_append, List.map_append, List.filter_append, ih (by omega)]
      congr 1
      by_cases c : sumOf L L.hands[n] ≤ L.total
      · have e := fitAt_yes (cuttersOf L) L.squares.length L.total n _ hc c
        simp [e, hf, c]
      · have e := fitAt_no (cuttersOf L) L.squares.length L.total n _ hc c
        simp [e, hf, c]
  exact key _ (Nat.le_refl _)
theorem found_hands : (foundAll L).hands = handsOf L := by rw [hands_filter]; exact (found_all hL).hands
/-- No way at all: Marks says that there is none; else it is the least. -/
theorem found_marks : (marksOf L = 81 ∧ (foundAll L).marks = 999) ∨ (marksOf L ≠ 81 ∧ (foundAll L).marks = marksOf L ∧ marksOf L < 999) := by
  obtain ⟨b1, b2, b3, b4, _, _, _⟩ := found_all hL
  have hle : marksOf L ≤ 81 := leastOf_le _ _
  rcases b4 with h9 | ⟨k, H, y, hk, hkH, hy, e⟩
  · left
    refine ⟨?_, h9⟩
    rcases leastOf_mem 81 (sumsOf L) with h | h
    · exact h
    · obtain ⟨c, hc, h1⟩ := List.mem_map.1 h
      obtain ⟨H, hH, rfl⟩ := List.mem_map.1 hc
      obtain ⟨k, hk, hkH⟩ := List.mem_iff_getElem.1 hH
      by_cases c : sumOf L H < 81
      · exfalso
        obtain ⟨y, hy, e⟩ := way_least hL hH c
        have := b3 k H hk (by rw [List.getElem?_eq_getElem hk, hkH]) y hy
        omega
      · have h2 : sumOf L H = marksOf L := h1
        omega
  · right
    have hH := List.mem_of_getElem? hkH
    have h60 := way_few hL hH hy
    have hs := (way_sum hL hH hy).1
    have hmem : sumOf L H ∈ sumsOf L := List.mem_map.2 ⟨_, List.mem_map.2 ⟨H, hH, rfl⟩, rfl⟩
    have h1 : marksOf L ≤ sumOf L H := leastOf_le_mem hmem
    refine ⟨by omega, ?_, by omega⟩
    rcases leastOf_mem 81 (sumsOf L) with h | h
    · have : marksOf L = 81 := h
      omega
    · obtain ⟨c, hc, h2⟩ := List.mem_map.1 h
      obtain ⟨H', hH', rfl⟩ := List.mem_map.1 hc
      obtain ⟨k', hk', hkH'⟩ := List.mem_iff_getElem.1 hH'
      have h3 : sumOf L H' = marksOf L := h2
      obtain ⟨y', hy', e'⟩ := way_least hL hH' (by omega)
      have := b3 k' H' hk' (by rw [List.getElem?_eq_getElem hk', hkH']) y' hy'
      omega
theorem found_letters {q : Nat} (hq : q < L.squares.length) (u : UInt8) : u ∈ (foundAll L).letters.getD q [] ↔ u ∈ (orderText (allLetters L q)).data.toList := by
  rw [(found_all hL).letters q hq u, mem_orderText]
  have hlet : ∀ {H : Hand} {i : Nat}, H ∈ L.hands → i < H.shapes.length → byteAt H.shapes i = UInt8.ofNat (letF (H.shapes.getD i ⟨0, 0⟩).letter).val := fun {H i} hH hi => by
    have hs := (hL.ok.2.2.1 H hH).2.2.2.2.2.1 _ (List.getElem_mem hi)
    have e : H.shapes.getD i ⟨0, 0⟩ = H.shapes[i] := by simp [List.getD, hi]
    unfold byteAt
    rw [e, letF_lt _ (by have := hs.2.1; omega)]
  constructor
  · rintro ⟨k, H, y, hk, hkH, hy, ht, rfl⟩
    have hH := List.mem_of_getElem? hkH
    have hf := way_fits hL hH hy ht hq
    exact ⟨_, mem_letters.2 ⟨k, H, _, hkH, hf, rfl⟩, hlet hH hf.2.1⟩
  · rintro ⟨z, hz, rfl⟩
    obtain ⟨k, H, i, hkH, hf, rfl⟩ := mem_letters.1 hz
    have hH := List.mem_of_getElem? hkH
    obtain ⟨y, hy, ht, e⟩ := way_letter hL hH hq hf
    exact ⟨k, H, y, (List.getElem?_eq_some_iff.1 hkH).1, hkH, hy, ht, by rw [e]; exact (hlet hH hf.2.1).symm⟩
end
theorem nodup_sub : ∀ (a b : List UInt8), a.Nodup → (∀ x ∈ a, x ∈ b) → a.length ≤ b.length := by
  intro a
  induction a with
  | nil => intro b _ _; simp
  | cons x a ih =>
    intro b hn hs
    obtain ⟨h1, h2⟩ := List.nodup_cons.1 hn
    have hx : x ∈ b := hs x (by simp)
    have := ih (b.erase x) h2 fun y hy => (List.mem_erase_of_ne (by rintro rfl; exact h1 hy)).2 (hs y (by simp [hy]))
    rw [List.length_erase_of_mem hx] at this
    have hb : 0 < b.length := List.length_pos_of_mem hx
    simp only [List.length_cons]
    omega
theorem orderText_rising (zs : List (Fin 256)) : (orderText zs).data.toList.Pairwise fun a b => a.toNat < b.toNat := by
  show (((orderOf zs).map UInt8.ofNat).toArray).toList.Pairwise _
  show ((orderOf zs).map UInt8.ofNat).Pairwise _
  rw [List.pairwise_map]
  have h256 : ∀ x ∈ orderOf zs, x < 256 := fun x hx => by
    obtain ⟨z, _, rfl⟩ := mem_orderOf.1 hx
    exact z.isLt
  refine (orderOf_sorted zs).imp_of_mem fun {a b} ha hb hab => ?_
  rw [UInt8.toNat_ofNat', UInt8.toNat_ofNat']
  have h1 := h256 a ha
  have h2 := h256 b hb
  rw [Nat.mod_eq_of_lt (by omega), Nat.mod_eq_of_lt (by omega)]
  exact hab
theorem found_len {L : Line} (hL : Slim L) {q : Nat} (hq : q < L.squares.length) : ((foundAll L).letters.getD q []).length = (orderText (allLetters L q)).size := by
  have e : (orderText (allLetters L q)).size = (orderText (allLetters L q)).data.toList.length := by rw [Array.length_toList]; rfl
  rw [e]
  have hn2 : (orderText (allLetters L q)).data.toList.Nodup := (orderText_rising _).imp fun {a b} h e => by rw [e] at h; omega
  exact Nat.le_antisymm (nodup_sub _ _ ((found_all hL).nodup q hq) fun x hx => (found_letters hL hq x).1 hx) (nodup_sub _ _ hn2 fun x hx => (found_letters hL hq x).2 hx)
end
section

def cntTo (s : Nat) : Nat → Nat
  | 0 => 0
  | k + 1 => cntTo s k + s / 2 ^ k % 2
theorem cntTo_le (s k : Nat) : cntTo s k ≤ k := by
  induction k with
  | zero => exact Nat.le_refl _
  | succ k ih =>
    have := Nat.mod_lt (s / 2 ^ k) (show 0 < 2 by decide)
    simp only [cntTo]
    omega
theorem cnt_pc : ∀ s : Fin 1024, cntTo s.val 10 = pc s.val := by decide +kernel
theorem div_pow_zero {s j d : Nat} (h : s / 2 ^ j = 0) : s / 2 ^ (j + d) = 0 := by
  rw [Nat.pow_add, ← Nat.div_div_eq_div_mul, h, Nat.zero_div]
theorem cntTo_done {s j : Nat} (h : s / 2 ^ j = 0) : ∀ d, cntTo s (j + d) = cntTo s j := by
  intro d
  induction d with
  | zero => rfl
  | succ d ih => rw [← Nat.add_assoc, cntTo, ih, div_pow_zero h]; rfl
theorem cnt_end {s j : Nat} (hs : s < 1024) (hj : j ≤ 10) (h : s / 2 ^ j = 0) : cntTo s j = pc s := by
  rw [← cnt_pc ⟨s, hs⟩, ← cntTo_done h (10 - j)]
  congr 1
  omega
/-- All that was shown. -/
def shn (q : List Light) : Nat := q.foldl (fun a x => a ||| x.shows) 0
theorem shn_snoc (q : List Light) (x : Light) : shn (q ++ [x]) = shn q ||| x.shows := by simp [shn]
/-- Where a light says otherwise than those ahead of it. -/
def clashAt (q : List Light) (k : Nat) : Nat := (vis (q.take k) ^^^ (q.getD k ⟨0, 0⟩).seen) &&& (shn (q.take k) &&& (q.getD k ⟨0, 0⟩).shows)
theorem take_snoc_getD {α : Type} {q : List α} {k : Nat} {d : α} (hk : k < q.length) : q.take (k + 1) = q.take k ++ [q.getD k d] := by
  rw [List.take_succ_eq_append_getElem hk]
  simp [List.getD, hk]
theorem seen_shows {x : Light} (hx : diff x.seen x.shows = 0) (i : Nat) : x.seen.testBit i = true → x.shows.testBit i = true := by
  intro h
  have h2 : (diff x.seen x.shows).testBit i = false := by rw [hx, Nat.zero_testBit]
  rw [diff_bit, h] at h2
  simpa using h2
theorem shn_bit {q : List Light} (hq : ∀ x ∈ q, diff x.seen x.shows = 0) : ∀ k, k ≤ q.length → ∀ i, (shn (q.take k)).testBit i = ((vis (q.take k)).testBit i || (hidn (q.take k)).testBit i) := by
  intro k
  induction k with
  | zero => intro _ i; simp [shn, vis, hidn]
  | succ k ih =>
    intro hk i
    have hx : diff (q.getD k ⟨0, 0⟩).seen (q.getD k ⟨0, 0⟩).shows = 0 := hq _ (by simp [List.getD, show k < q.length by omega])
    have h1 := seen_shows hx i
    rw [take_snoc_getD (d := ⟨0, 0⟩) (by omega), shn_snoc, vis_snoc, hidn_snoc, Nat.testBit_or, Nat.testBit_or, Nat.testBit_or, diff_bit, ih (by omega)]
    revert h1
    cases (q.getD k ⟨0, 0⟩).seen.testBit i <;> cases (q.getD k ⟨0, 0⟩).shows.testBit i <;> cases (vis (q.take k)).testBit i <;> cases (hidn (q.take k)).testBit i <;> simp
theorem clash_step {q : List Light} (hq : ∀ x ∈ q, diff x.seen x.shows = 0) {k : Nat} (hk : k < q.length) (h0 : vis (q.take k) &&& hidn (q.take k) = 0) :
    vis (q.take (k + 1)) &&& hidn (q.take (k + 1)) = clashAt q k := by
  apply Nat.eq_of_testBit_eq
  intro i
  have hx : diff (q.getD k ⟨0, 0⟩).seen (q.getD k ⟨0, 0⟩).shows = 0 := hq _ (by simp [List.getD, hk])
  have h1 := seen_shows hx i
  have h2 := shn_bit hq k (by omega) i
  have h3 : ((vis (q.take k)).testBit i && (hidn (q.take k)).testBit i) = false := by rw [← Nat.testBit_and, h0, Nat.zero_testBit]
  unfold clashAt
  rw [take_snoc_getD (d := ⟨0, 0⟩) hk, vis_snoc, hidn_snoc, Nat.testBit_and, Nat.testBit_or, Nat.testBit_or, diff_bit, Nat.testBit_and, Nat.testBit_xor, Nat.testBit_and, h2]
  revert h1 h3
  cases (q.getD k ⟨0, 0⟩).seen.testBit i <;> cases (q.getD k ⟨0, 0⟩).shows.testBit i <;> cases (vis (q.take k)).testBit i <;> cases (hidn (q.take k)).testBit i <;> simp
theorem clash_none {q : List Light} (hq : ∀ x ∈ q, diff x.seen x.shows = 0) : ∀ n, n ≤ q.length → (∀ k, k < n → clashAt q k = 0) → vis (q.take n) &&& hidn (q.take n) = 0 := by
  intro n
  induction n with
  | zero => intro _ _; simp [vis]
  | succ n ih =>
    intro hn h
    rw [clash_step hq (by omega) (ih (by omega) fun k hk => h k (by omega))]
    exact h n (by omega)
theorem and_grow {a b c d : Nat} (h : a &&& b ≠ 0) : (a ||| c) &&& (b ||| d) ≠ 0 := by
  intro e
  apply h
  apply Nat.eq_of_testBit_eq
  intro i
  have h2 : ((a ||| c) &&& (b ||| d)).testBit i = false := by rw [e, Nat.zero_testBit]
  rw [Nat.testBit_and, Nat.testBit_or, Nat.testBit_or] at h2
  rw [Nat.testBit_and, Nat.zero_testBit]
  revert h2
  cases a.testBit i <;> cases b.testBit i <;> simp
theorem clash_stays {q : List Light} {k : Nat} (h : vis (q.take k) &&& hidn (q.take k) ≠ 0) : ∀ d, k + d ≤ q.length → vis (q.take (k + d)) &&& hidn (q.take (k + d)) ≠ 0 := by
  intro d
  induction d with
  | zero => intro _; exact h
  | succ d ih =>
    intro hd
    rw [← Nat.add_assoc, take_snoc_getD (d := ⟨0, 0⟩) (by omega), vis_snoc, hidn_snoc]
    exact and_grow (ih (by omega))
theorem pc_zero1024 : ∀ a : Fin 1024, pc a.val = 0 ↔ a.val = 0 := by decide +kernel
/-- A light that says otherwise: no letter can be there. -/
theorem cost_clash {wn sc : Nat} {q : List Light} {s k : Nat} (hok : ∀ x ∈ q, x.ok) (hk : k < q.length) (hb : ∀ j, j < k → clashAt q j = 0) (h : clashAt q k ≠ 0) : cost wn sc q s = 81 := by
  have hq : ∀ x ∈ q, diff x.seen x.shows = 0 := fun x hx => (hok x hx).2.2
  have h0 := clash_none hq k (by omega) hb
  have h1 : vis (q.take (k + 1)) &&& hidn (q.take (k + 1)) ≠ 0 := by rw [clash_step hq hk h0]; exact h
  have h2 := clash_stays h1 (q.length - (k + 1)) (by omega)
  rw [show k + 1 + (q.length - (k + 1)) = q.length by omega, List.take_length] at h2
  apply cost_con
  have hv := vis_lt q fun x hx => (hok x hx).2.1
  have := (pc_zero1024 ⟨vis q &&& hidn q, Nat.lt_of_le_of_lt Nat.and_le_left hv⟩).1
  have h3 : ¬ pc (vis q &&& hidn q) = 0 := fun e => h2 (this e)
  omega
theorem hid_of {q : List Light} (hok : ∀ x ∈ q, x.ok) (hc : ∀ j, j < q.length → clashAt q j = 0) (s : Nat) : diff (s &&& shn q) (vis q) = hidn q &&& s ∧ vis q &&& hidn q = 0 := by
  have hq : ∀ x ∈ q, diff x.seen x.shows = 0 := fun x hx => (hok x hx).2.2
  have h0 := clash_none hq q.length (Nat.le_refl _) hc
  rw [List.take_length] at h0
  refine ⟨?_, h0⟩
  apply Nat.eq_of_testBit_eq
  intro i
  have h2 := shn_bit hq q.length (Nat.le_refl _) i
  rw [List.take_length] at h2
  have h3 : ((vis q).testBit i && (hidn q).testBit i) = false := by rw [← Nat.testBit_and, h0, Nat.zero_testBit]
  rw [diff_bit, Nat.testBit_and, Nat.testBit_and, h2]
  revert h3
  cases (vis q).testBit i <;> cases (hidn q).testBit i <;> cases s.testBit i <;> simp
/-- The reference's cost. -/
def up (n : Nat) : Nat := if n = 81 then 1000 else n
theorem cost_ref {wn sc : Nat} {q : List Light} {s : Nat} (hok : ∀ x ∈ q, x.ok) (hc : ∀ j, j < q.length → clashAt q j = 0) (hw : wn ≤ 10) (hsc : sc ≤ 10) :
    up (cost wn sc q s) = if wn < pc (diff (s &&& shn q) (vis q)) ∨ sc < pc (diff (vis q) s) then 1000 else pc (diff (s &&& shn q) (vis q)) + pc (diff (vis q) s) := by
  obtain ⟨h1, h2⟩ := hid_of hok hc s
  rw [h1]
  have h3 : pc (vis q &&& hidn q) = 0 := by rw [h2]; rfl
  by_cases a : sc < pc (diff (vis q) s)
  · rw [cost_scr a, if_pos (.inr a)]
    rfl
  · by_cases b : wn < pc (hidn q &&& s)
    · rw [cost_worn b, if_pos (.inl b)]
      rfl
    · rw [cost_sum (by omega) a b, if_neg (by omega)]
      unfold up
      rw [if_neg (by omega)]
      omega
end
end Go.Proofs.Ythhajbgddifenaa
