/- SightAll, plain: all truths of a hand, and what they come to. -/
import Derived.Test.YthhajbgddifenaaAm
namespace Go.Proofs.Ythhajbgddifenaa

/-- The marks that a square needs for the letter with number k of a hand. -/
def mkAt (L : Line) (S : List Shape) (q k : Nat) : Nat := sqm L.worn L.scr (L.squares.getD q []) (S.getD k ⟨0, 0⟩).strokes
/-- A way to go on: the letters' numbers so far, and the marks. -/
abbrev Way := List Nat × Nat
/-- What the walk comes to from here, d squares being left. -/
def ext (L : Line) (S : List Shape) : Nat → Way → List Way
  | 0, x => [x]
  | d + 1, x => (List.range S.length).flatMap fun k => if mkAt L S x.1.length k < 99 then ext L S d (x.1 ++ [k], x.2 + mkAt L S x.1.length k) else []
/-- The same, the letters with numbers below k alone being tried for the next square. -/
def extTo (L : Line) (S : List Shape) (d : Nat) (x : Way) (k : Nat) : List Way := (List.range k).flatMap fun k => if mkAt L S x.1.length k < 99 then ext L S d (x.1 ++ [k], x.2 + mkAt L S x.1.length k) else []
theorem extTo_all (L : Line) (S : List Shape) (d : Nat) (x : Way) : extTo L S d x S.length = ext L S (d + 1) x := rfl
theorem extTo_zero (L : Line) (S : List Shape) (d : Nat) (x : Way) : extTo L S d x 0 = [] := rfl
theorem extTo_succ (L : Line) (S : List Shape) (d : Nat) (x : Way) (k : Nat) : extTo L S d x (k + 1) = extTo L S d x k ++ if mkAt L S x.1.length k < 99 then ext L S d (x.1 ++ [k], x.2 + mkAt L S x.1.length k) else [] := by
  unfold extTo
  rw [List.range_succ, List.flatMap_append]
  simp

/-- What was found so far: the letters of each square, the hands, the least marks. -/
structure Found where
  letters : List (List UInt8)
  hands : List Nat
  marks : Nat
def addByte (l : List UInt8) (u : UInt8) : List UInt8 := if u ∈ l then l else l ++ [u]
def byteAt (S : List Shape) (k : Nat) : UInt8 := UInt8.ofNat (S.getD k ⟨0, 0⟩).letter
/-- The letters of a truth are added, in the squares below n. -/
def addTo (S : List Shape) (ks : List Nat) (ls : List (List UInt8)) : Nat → List (List UInt8)
  | 0 => ls
  | n + 1 => (addTo S ks ls n).set n (addByte ((addTo S ks ls n).getD n []) (byteAt S (ks.getD n 0)))
theorem addTo_length (S : List Shape) (ks : List Nat) (ls : List (List UInt8)) (n : Nat) : (addTo S ks ls n).length = ls.length := by
  induction n with
  | zero => rfl
  | succ n ih => rw [addTo, List.length_set, ih]
def addHand (hs : List Nat) (h : Nat) : List Nat := if h ∈ hs then hs else hs ++ [h]
/-- A way to its end. -/
def Found.add (T : Nat) (S : List Shape) (h : Nat) (f : Found) (x : Way) : Found :=
  if x.2 ≤ T then ⟨addTo S x.1 f.letters x.1.length, addHand f.hands h, min f.marks x.2⟩ else ⟨f.letters, f.hands, min f.marks x.2⟩
def Found.adds (T : Nat) (S : List Shape) (h : Nat) (f : Found) (xs : List Way) : Found := xs.foldl (Found.add T S h) f
theorem Found.adds_append (T : Nat) (S : List Shape) (h : Nat) (f : Found) (xs ys : List Way) : f.adds T S h (xs ++ ys) = (f.adds T S h xs).adds T S h ys := by simp [Found.adds]
/-- The hands below n, one after the other. -/
def foundTo (L : Line) : Nat → Found
  | 0 => ⟨List.replicate L.squares.length [], [], 999⟩
  | n + 1 => (foundTo L n).adds L.total (L.hands.getD n ⟨0, 0, []⟩).shapes n (ext L (L.hands.getD n ⟨0, 0, []⟩).shapes L.squares.length ([], 0))
def foundAll (L : Line) : Found := foundTo L L.hands.length

/-- A line of few squares, with strokes and lights of the strokes 0 to 3. -/
structure Slim (L : Line) : Prop where
  ok : L.ok
  hands : L.hands.length ≤ 2
  squares : L.squares.length ≤ 3
  shapes : ∀ h ∈ L.hands, h.shapes.length ≤ 3 ∧ ∀ s ∈ h.shapes, s.strokes < 16
  lights : ∀ q ∈ L.squares, q16 q
section
variable {L : Line} (hL : Slim L) {H : Hand} (hH : H ∈ L.hands)
include hL hH
theorem mk_need {q k : Nat} (hq : q < L.squares.length) (hk : k < H.shapes.length) : mkAt L H.shapes q k = if (cutterOf L H.shapes).need q k = 81 then 99 else (cutterOf L H.shapes).need q k := by
  have e1 : L.squares.getD q [] = L.squares[q] := by simp [List.getD, hq]
  have e2 : H.shapes.getD k ⟨0, 0⟩ = H.shapes[k] := by simp [List.getD, hk]
  rw [cutterOf_need]
  unfold mkAt
  rw [e1, e2]
  exact sqm_cost (hL.lights _ (List.getElem_mem hq)) ((hL.shapes H hH).2 _ (List.getElem_mem hk))
theorem mk_lt {q k : Nat} (hq : q < L.squares.length) (hk : k < H.shapes.length) : mkAt L H.shapes q k < 99 ↔ (cutterOf L H.shapes).need q k < 81 := by
  have h1 := mk_need hL hH hq hk
  have h2 := need_le L hL.ok H.shapes q k
  by_cases h : (cutterOf L H.shapes).need q k = 81
  · rw [if_pos h] at h1; omega
  · rw [if_neg h] at h1; omega
theorem mk_eq {q k : Nat} (hq : q < L.squares.length) (hk : k < H.shapes.length) (h : mkAt L H.shapes q k < 99) : mkAt L H.shapes q k = (cutterOf L H.shapes).need q k := by
  have h1 := mk_need hL hH hq hk
  by_cases h2 : (cutterOf L H.shapes).need q k = 81
  · rw [if_pos h2] at h1; omega
  · rw [if_neg h2] at h1; exact h1
end

def sumTo (L : Line) (S : List Shape) (ks : List Nat) (n : Nat) : Nat := ((List.range n).map fun q => mkAt L S q (ks.getD q 0)).sum
theorem sumTo_succ (L : Line) (S : List Shape) (ks : List Nat) (n : Nat) : sumTo L S ks (n + 1) = sumTo L S ks n + mkAt L S n (ks.getD n 0) := by simp [sumTo, List.range_succ]
theorem sumTo_congr {L : Line} {S : List Shape} {ks ks' : List Nat} {n : Nat} (h : ∀ q, q < n → ks.getD q 0 = ks'.getD q 0) : sumTo L S ks n = sumTo L S ks' n := by
  induction n with
  | zero => simp [sumTo]
  | succ n ih => rw [sumTo_succ, sumTo_succ, ih (fun q hq => h q (by omega)), h n (by omega)]
/-- A way of n letters that may be. -/
structure WayOk (L : Line) (S : List Shape) (n : Nat) (y : Way) : Prop where
  len : y.1.length = n
  lt : ∀ q, q < n → y.1.getD q 0 < S.length ∧ mkAt L S q (y.1.getD q 0) < 99
  sum : y.2 = sumTo L S y.1 n
theorem WayOk.nil (L : Line) (S : List Shape) : WayOk L S 0 ([], 0) := ⟨rfl, fun q hq => by omega, by simp [sumTo]⟩
theorem getD_snoc_lt {l : List Nat} {k q : Nat} (hq : q < l.length) : (l ++ [k]).getD q 0 = l.getD q 0 := by simp [List.getD, List.getElem?_append_left hq]
theorem getD_snoc_eq (l : List Nat) (k : Nat) : (l ++ [k]).getD l.length 0 = k := by simp [List.getD]
theorem WayOk.snoc {L : Line} {S : List Shape} {n : Nat} {x : Way} (h : WayOk L S n x) {k : Nat} (hk : k < S.length) (hm : mkAt L S n k < 99) : WayOk L S (n + 1) (x.1 ++ [k], x.2 + mkAt L S n k) := by
  have hl := h.len
  refine ⟨by simp [hl], fun q hq => ?_, ?_⟩
  · by_cases e : q = n
    · subst e
      have := getD_snoc_eq x.1 k
      rw [hl] at this
      rw [this]
      exact ⟨hk, hm⟩
    · rw [getD_snoc_lt (by omega)]
      exact h.lt q (by omega)
  · show x.2 + mkAt L S n k = sumTo L S (x.1 ++ [k]) (n + 1)
    have e := getD_snoc_eq x.1 k
    rw [hl] at e
    rw [sumTo_succ, e, h.sum, sumTo_congr (ks := x.1 ++ [k]) (ks' := x.1) fun q hq => getD_snoc_lt (by omega)]
theorem take_getD {l : List Nat} {n q : Nat} (hq : q < n) : (l.take n).getD q 0 = l.getD q 0 := by simp [List.getD, hq]
theorem mem_ext (L : Line) (S : List Shape) : ∀ (d n : Nat) (x y : Way), WayOk L S n x → (y ∈ ext L S d x ↔ WayOk L S (n + d) y ∧ y.1.take n = x.1) := by
  intro d
  induction d with
  | zero =>
    intro n x y hx
    show y ∈ [x] ↔ _
    rw [List.mem_singleton]
    constructor
    · rintro rfl
      exact ⟨hx, List.take_of_length_le (by rw [hx.len]; exact Nat.le_refl _)⟩
    · rintro ⟨hy, ht⟩
      have e : y.1 = x.1 := by rw [← ht, List.take_of_length_le (by rw [hy.len]; exact Nat.le_refl _)]
      refine Prod.ext e ?_
      rw [hy.sum, hx.sum, e, Nat.add_zero]
  | succ d ih =>
    intro n x y hx
    have hl := hx.len
    show y ∈ (List.range S.length).flatMap _ ↔ _
    rw [List.mem_flatMap]
    constructor
    · rintro ⟨k, hk, hy⟩
      have hk' := List.mem_range.1 hk
      rw [hl] at hy
      by_cases hm : mkAt L S n k < 99
      · rw [if_pos hm] at hy
        obtain ⟨h1, h2⟩ := (ih (n + 1) _ y (hx.snoc hk' hm)).1 hy
        refine ⟨by rw [show n + (d + 1) = n + 1 + d by omega]; exact h1, ?_⟩
        have h3 : (y.1.take (n + 1)).take n = (x.1 ++ [k]).take n := by rw [h2]
        rw [List.take_take, Nat.min_eq_left (by omega), ← hl, List.take_left] at h3
        rw [← hl]
        exact h3
      · rw [if_neg hm] at hy
        cases hy
    · rintro ⟨hy, ht⟩
      obtain ⟨g1, g2⟩ := hy.lt n (by omega)
      refine ⟨y.1.getD n 0, List.mem_range.2 g1, ?_⟩
      rw [hl, if_pos g2]
      refine (ih (n + 1) _ y (hx.snoc g1 g2)).2 ⟨by rw [show n + 1 + d = n + (d + 1) by omega]; exact hy, ?_⟩
      have hn : n < y.1.length := by rw [hy.len]; omega
      rw [List.take_succ_eq_append_getElem hn, ht]
      simp [List.getD, hn]
theorem mem_ways {L : Line} {S : List Shape} {m : Nat} {y : Way} : y ∈ ext L S m ([], 0) ↔ WayOk L S m y := by
  rw [mem_ext L S m 0 ([], 0) y (WayOk.nil L S), Nat.zero_add]
  exact ⟨fun h => h.1, fun h => ⟨h, rfl⟩⟩
section
variable {L : Line} (hL : Slim L) {H : Hand} (hH : H ∈ L.hands)
include hL hH
/-- A way needs as many marks as the fewest, and more where it has another letter. -/
theorem way_sum {y : Way} (hy : WayOk L H.shapes L.squares.length y) : sumOf L H ≤ y.2 ∧ ∀ q, q < L.squares.length → sumOf L H + (cutterOf L H.shapes).need q (y.1.getD q 0) ≤ y.2 + (cutterOf L H.shapes).fewest q := by
  have key : ∀ n, n ≤ L.squares.length → (cutterOf L H.shapes).sum n ≤ sumTo L H.shapes y.1 n ∧ ∀ q, q < n → (cutterOf L H.shapes).sum n + (cutterOf L H.shapes).need q (y.1.getD q 0) ≤ sumTo L H.shapes y.1 n + (cutterOf L H.shapes).fewest q := by
    intro n
    induction n with
    | zero => intro _; exact ⟨by simp [Cutter.sum], fun q hq => by omega⟩
    | succ n ih =>
      intro hn
      obtain ⟨h1, h2⟩ := ih (by omega)
      obtain ⟨g1, g2⟩ := hy.lt n (by omega)
      have h3 := mk_eq hL hH (by omega) g1 g2
      have h4 := fewest_need (cutterOf L H.shapes) n _ g1
      rw [Cutter.sum_succ, sumTo_succ]
      refine ⟨by omega, fun q hq => ?_⟩
      by_cases e : q = n
      · subst e; omega
      · have := h2 q (by omega); omega
  have := key _ (Nat.le_refl _)
  rw [← hy.sum] at this
  exact this
theorem way_fits {y : Way} (hy : WayOk L H.shapes L.squares.length y) (hT : y.2 ≤ L.total) {q : Nat} (hq : q < L.squares.length) : LetterFits L H q (y.1.getD q 0) := by
  obtain ⟨h1, h2⟩ := way_sum hL hH hy
  have := h2 q hq
  exact ⟨by omega, (hy.lt q hq).1, by omega⟩
omit hL hH in
theorem leastOf_mem (a : Nat) (l : List Nat) : leastOf a l = a ∨ leastOf a l ∈ l := by
  unfold leastOf
  induction l generalizing a with
  | nil => exact .inl rfl
  | cons x l ih =>
    rw [List.foldl_cons]
    rcases ih (min a x) with h | h
    · rw [h]
      rcases Nat.le_total a x with h1 | h1
      · left; omega
      · right; rw [Nat.min_eq_right h1]; simp
    · right; simp [h]
omit hL hH in
theorem fewest_at (c : Cutter) (q : Nat) (h : c.fewest q < 81) : ∃ k, k < c.shapes.length ∧ c.need q k = c.fewest q := by
  unfold Cutter.fewest at h ⊢
  rcases leastOf_mem 81 (c.row q) with e | e
  · omega
  · obtain ⟨k, hk, e⟩ := List.mem_map.1 e
    exact ⟨k, List.mem_range.1 hk, e⟩
/-- Letters whose marks are known make a way. -/
theorem way_of (f : Nat → Nat) (hf : ∀ q, q < L.squares.length → f q < H.shapes.length ∧ (cutterOf L H.shapes).need q (f q) < 81) :
    WayOk L H.shapes L.squares.length ((List.range L.squares.length).map f, ((List.range L.squares.length).map fun q => (cutterOf L H.shapes).need q (f q)).sum) := by
  have hg : ∀ q, q < L.squares.length → ((List.range L.squares.length).map f).getD q 0 = f q := fun q hq => by simp [List.getD, hq]
  refine ⟨by simp, fun q hq => ?_, ?_⟩
  · show ((List.range L.squares.length).map f).getD q 0 < _ ∧ mkAt L H.shapes q (((List.range L.squares.length).map f).getD q 0) < 99
    rw [hg q hq]
    exact ⟨(hf q hq).1, (mk_lt hL hH hq (hf q hq).1).2 (hf q hq).2⟩
  · show _ = sumTo L H.shapes ((List.range L.squares.length).map f) L.squares.length
    unfold sumTo
    refine congrArg List.sum (List.map_congr_left fun q hq => ?_)
    have hq' := List.mem_range.1 hq
    rw [hg q hq', mk_eq hL hH hq' (hf q hq').1 ((mk_lt hL hH hq' (hf q hq').1).2 (hf q hq').2)]
omit hL hH in
theorem fewest_lt (h : sumOf L H < 81) {q : Nat} (hq : q < L.squares.length) : (cutterOf L H.shapes).fewest q < 81 := by
  have h5 := (cutterOf L H.shapes).sum_mono (j := q + 1) (k := L.squares.length) hq
  rw [Cutter.sum_succ] at h5
  unfold sumOf at h
  omega
/-- A letter that fits stands in a way. -/
theorem way_letter {q i : Nat} (hq : q < L.squares.length) (h : LetterFits L H q i) : ∃ y, WayOk L H.shapes L.squares.length y ∧ y.2 ≤ L.total ∧ y.1.getD q 0 = i := by
  obtain ⟨h1, h2, h3⟩ := h
  have hT : L.total ≤ 40 := hL.ok.2.2.2.2.2.1
  have hch : ∀ p, ∃ k, p < L.squares.length → k < H.shapes.length ∧ (cutterOf L H.shapes).need p k = (cutterOf L H.shapes).fewest p := fun p => by
    by_cases hp : p < L.squares.length
    · obtain ⟨k, hk, e⟩ := fewest_at (cutterOf L H.shapes) p (fewest_lt (by omega) hp)
      exact ⟨k, fun _ => ⟨hk, e⟩⟩
    · exact ⟨0, fun h => absurd h hp⟩
  obtain ⟨f0, hf0⟩ : ∃ f0 : Nat → Nat, ∀ p, p < L.squares.length → f0 p < H.shapes.length ∧ (cutterOf L H.shapes).need p (f0 p) = (cutterOf L H.shapes).fewest p := ⟨fun p => (hch p).choose, fun p => (hch p).choose_spec⟩
  have hfq := fewest_lt (H := H) (by omega) hq
  have hle : (cutterOf L H.shapes).fewest q ≤ sumOf L H := by
    have h5 := (cutterOf L H.shapes).sum_mono (j := q + 1) (k := L.squares.length) hq
    rw [Cutter.sum_succ] at h5
    unfold sumOf
    omega
  have hw := way_of hL hH (fun p => if p = q then i else f0 p) (fun p hp => by
    by_cases e : p = q
    · subst e
      show (if p = p then i else f0 p) < _ ∧ (cutterOf L H.shapes).need p (if p = p then i else f0 p) < 81
      rw [if_pos rfl]
      exact ⟨h2, by omega⟩
    · show (if p = q then i else f0 p) < _ ∧ (cutterOf L H.shapes).need p (if p = q then i else f0 p) < 81
      rw [if_neg e]
      exact ⟨(hf0 p hp).1, by rw [(hf0 p hp).2]; exact fewest_lt (by omega) hp⟩)
  refine ⟨_, hw, ?_, ?_⟩
  · have key : ∀ n, n ≤ L.squares.length → ((List.range n).map fun p => (cutterOf L H.shapes).need p (if p = q then i else f0 p)).sum + (if q < n then (cutterOf L H.shapes).fewest q else 0) = (cutterOf L H.shapes).sum n + (if q < n then (cutterOf L H.shapes).need q i else 0) := by
      intro n
      induction n with
      | zero => intro _; simp [Cutter.sum]
      | succ n ih =>
        intro hn
        have := ih (by omega)
        rw [Cutter.sum_succ]
        simp only [List.range_succ, List.map_append, List.sum_append, List.map_cons, List.map_nil, List.sum_cons, List.sum_nil]
        by_cases e : n = q
        · subst e
          rw [if_pos rfl, if_pos (by omega), if_pos (by omega)]
          rw [if_neg (by omega), if_neg (by omega)] at this
          omega
        · have := (hf0 n (by omega)).2
          rw [if_neg e]
          by_cases e2 : q < n
          · rw [if_pos (by omega), if_pos (by omega)]
            rw [if_pos e2, if_pos e2] at ih
            have := ih (by omega)
            omega
          · rw [if_neg (by omega), if_neg (by omega)]
            rw [if_neg e2, if_neg e2] at ih
            have := ih (by omega)
            omega
    have := key _ (Nat.le_refl _)
    rw [if_pos hq, if_pos hq] at this
    show ((List.range L.squares.length).map fun p => (cutterOf L H.shapes).need p (if p = q then i else f0 p)).sum ≤ L.total
    unfold sumOf at h1 h3 hle
    omega
  · simp [List.getD, hq]
/-- If there are not too many marks there is a way with as few. -/
theorem way_least (h : sumOf L H < 81) : ∃ y, WayOk L H.shapes L.squares.length y ∧ y.2 = sumOf L H := by
  have hch : ∀ p, ∃ k, p < L.squares.length → k < H.shapes.length ∧ (cutterOf L H.shapes).need p k = (cutterOf L H.shapes).fewest p := fun p => by
    by_cases hp : p < L.squares.length
    · obtain ⟨k, hk, e⟩ := fewest_at (cutterOf L H.shapes) p (fewest_lt h hp)
      exact ⟨k, fun _ => ⟨hk, e⟩⟩
    · exact ⟨0, fun h => absurd h hp⟩
  obtain ⟨f0, hf0⟩ : ∃ f0 : Nat → Nat, ∀ p, p < L.squares.length → f0 p < H.shapes.length ∧ (cutterOf L H.shapes).need p (f0 p) = (cutterOf L H.shapes).fewest p := ⟨fun p => (hch p).choose, fun p => (hch p).choose_spec⟩
  refine ⟨_, way_of hL hH f0 (fun p hp => ⟨(hf0 p hp).1, by rw [(hf0 p hp).2]; exact fewest_lt h hp⟩), ?_⟩
  show ((List.range L.squares.length).map fun q => (cutterOf L H.shapes).need q (f0 q)).sum = (cutterOf L H.shapes).sum L.squares.length
  unfold Cutter.sum
  exact congrArg List.sum (List.map_congr_left fun p hp => (hf0 p (List.mem_range.1 hp)).2)
/-- A way needs few marks. -/
theorem way_few {y : Way} (hy : WayOk L H.shapes L.squares.length y) : y.2 ≤ 60 := by
  have h10 : L.worn ≤ 10 ∧ L.scr ≤ 10 := ⟨hL.ok.2.2.2.1, hL.ok.2.2.2.2.1⟩
  have key : ∀ n, n ≤ L.squares.length → sumTo L H.shapes y.1 n ≤ 20 * n := by
    intro n
    induction n with
    | zero => intro _; simp [sumTo]
    | succ n ih =>
      intro hn
      have := ih (by omega)
      obtain ⟨g1, g2⟩ := hy.lt n (by omega)
      have h3 := mk_eq hL hH (by omega) g1 g2
      have h4 := (mk_lt hL hH (by omega) g1).1 g2
      rw [cutterOf_need] at h3 h4
      rw [sumTo_succ, h3]
      unfold cost at h4 ⊢
      split at h4
      · omega
      · rename_i c
        rw [if_neg c]
        omega
  have := key _ (Nat.le_refl _)
  rw [← hy.sum] at this
  have := hL.squares
  omega
end
end Go.Proofs.Ythhajbgddifenaa
