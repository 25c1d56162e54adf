/- Raw lines and valid ones. · The reference's hands, Hands. · The reference's Hands, Letters. · The reference's Letters, Print. · The reference's Print. -/
import Derived.Test.YthhajbgddifenaaRr
import Derived.Test.YthhajbgddifenaaRg
namespace Go.Proofs.Ythhajbgddifenaa
section
open Go.RowKit Go.Shelf

theorem outB_no {n lo hi : Int} (h1 : lo ≤ n) (h2 : n ≤ hi) : outB n lo hi = false := by
  unfold outB
  rw [decide_eq_false (by omega), decide_eq_false (by omega)]
  rfl
theorem countE_no {n lo hi : Int} (h1 : lo ≤ n) (h2 : n ≤ hi) : countE n lo hi = 0 := by
  unfold countE
  rw [if_neg (by omega), if_neg (by omega)]
theorem shapes_raw {S : List Shape} (h : ∀ s ∈ S, s.ok) (hp : S.Pairwise fun a b => a.letter < b.letter) : firstOf (shapeErr (S.map Shape.raw)) (S.map Shape.raw).length = 0 := by
  refine firstOf_zero fun k hk => ?_
  have hk' : k < S.length := by simpa using hk
  have e : (S.map Shape.raw).getD k ⟨0, 0⟩ = (S[k]).raw := by simp [List.getD, hk']
  have ho := h _ (List.getElem_mem hk')
  unfold shapeErr
  simp only [e]
  have e1 : outB (S[k]).raw.letter 65 90 = false := outB_no (by show (65 : Int) ≤ ((S[k]).letter : Int); have := ho.1; omega) (by show ((S[k]).letter : Int) ≤ 90; have := ho.2.1; omega)
  have e2 : outB (S[k]).raw.strokes 1 1023 = false := outB_no (by show (1 : Int) ≤ ((S[k]).strokes : Int); have := ho.2.2.1; omega) (by show ((S[k]).strokes : Int) ≤ 1023; have := ho.2.2.2; omega)
  rw [e1, e2, if_neg Bool.false_ne_true, if_neg Bool.false_ne_true, if_neg]
  rintro ⟨h0, h1⟩
  have hk1 : k - 1 < S.length := by omega
  have e3 : (S.map Shape.raw).getD (k - 1) ⟨0, 0⟩ = (S[k - 1]).raw := by simp [List.getD, hk1]
  rw [e3] at h1
  have h2 := (List.pairwise_iff_getElem.1 hp) (k - 1) k hk1 hk' (by omega)
  have h3 : ((S[k]).letter : Int) ≤ ((S[k - 1]).letter : Int) := h1
  omega
theorem hand_raw {h : Hand} (ho : h.ok) : handErr h.raw = 0 := by
  obtain ⟨h1, h2, h3, h4, h5, h6, h7⟩ := ho
  unfold handErr
  have e1 : outB h.raw.low (-3000) 3000 = false := outB_no h1 (by show h.low ≤ 3000; omega)
  have e2 : outB h.raw.high (-3000) 3000 = false := outB_no (by show -3000 ≤ h.high; omega) h3
  have e3 : countE h.raw.shapes.length 1 8 = 0 := countE_no (by simp [Hand.raw]; omega) (by simp [Hand.raw]; omega)
  rw [e1, e2, e3, if_neg (by simp), if_neg (by show ¬ h.high < h.low; omega), if_neg (by simp)]
  exact shapes_raw h6 h7
theorem light_raw {x : Light} (h : x.ok) : lightErr x.raw = 0 := by
  obtain ⟨h1, h2, h3⟩ := h
  unfold lightErr
  have e1 : outB x.raw.shows 0 1023 = false := outB_no (by show (0 : Int) ≤ (x.shows : Int); omega) (by show (x.shows : Int) ≤ 1023; omega)
  have e2 : outB x.raw.seen 0 1023 = false := outB_no (by show (0 : Int) ≤ (x.seen : Int); omega) (by show (x.seen : Int) ≤ 1023; omega)
  rw [e1, e2, if_neg (by simp), if_neg]
  show ¬ diff ((x.seen : Int)).toNat ((x.shows : Int)).toNat ≠ 0
  rw [Int.toNat_natCast, Int.toNat_natCast, h3]
  simp
theorem square_raw {q : List Light} (h4 : q.length ≤ 4) (h : ∀ x ∈ q, x.ok) : squareErr (q.map Light.raw) = 0 := by
  unfold squareErr
  rw [if_neg (by simp; omega)]
  refine firstOf_zero fun k hk => ?_
  have hk' : k < q.length := by simpa using hk
  have e : (q.map Light.raw).getD k ⟨0, 0⟩ = (q[k]).raw := by simp [List.getD, hk']
  simp only [e]
  exact light_raw (h _ (List.getElem_mem hk'))
theorem line_raw {L : Line} (hL : L.ok) : lineErr L.raw = 0 := by
  obtain ⟨h1, h2, h3, h4, h5, h6, h7, h8, h9⟩ := hL
  unfold lineErr
  have e1 : countE L.raw.hands.length 1 4 = 0 := countE_no (by simp [Line.raw]; omega) (by simp [Line.raw]; omega)
  have e2 : firstOf (fun k => handErr (L.raw.hands.getD k ⟨0, 0, []⟩)) L.raw.hands.length = 0 := firstOf_zero fun k hk => by
    have hk' : k < L.hands.length := by simpa [Line.raw] using hk
    have e : L.raw.hands.getD k ⟨0, 0, []⟩ = (L.hands[k]).raw := by simp [List.getD, Line.raw, hk']
    simp only [e]
    exact hand_raw (h3 _ (List.getElem_mem hk'))
  have e3 : outB L.raw.worn 0 10 = false := outB_no (by show (0 : Int) ≤ (L.worn : Int); omega) (by show (L.worn : Int) ≤ 10; omega)
  have e4 : outB L.raw.scr 0 10 = false := outB_no (by show (0 : Int) ≤ (L.scr : Int); omega) (by show (L.scr : Int) ≤ 10; omega)
  have e5 : outB L.raw.total 0 40 = false := outB_no (by show (0 : Int) ≤ (L.total : Int); omega) (by show (L.total : Int) ≤ 40; omega)
  have e6 : countE L.raw.squares.length 1 8 = 0 := countE_no (by simp [Line.raw]; omega) (by simp [Line.raw]; omega)
  rw [e1, e2, e3, e4, e5, e6, if_neg (by simp), if_neg (by simp), if_neg (by simp), if_neg (by simp)]
  refine firstOf_zero fun k hk => ?_
  have hk' : k < L.squares.length := by simpa [Line.raw] using hk
  have e : L.raw.squares.getD k [] = (L.squares[k]).map Light.raw := by simp [List.getD, Line.raw, hk']
  simp only [e]
  have h := h9 _ (List.getElem_mem hk')
  exact square_raw h.1 h.2
/-- A raw line without an error is a valid line. -/
def RShape.real (r : RShape) : Shape := ⟨r.letter.toNat, r.strokes.toNat⟩
def RHand.real (r : RHand) : Hand := ⟨r.low, r.high, r.shapes.map RShape.real⟩
def RLight.real (r : RLight) : Light := ⟨r.shows.toNat, r.seen.toNat⟩
def RLine.real (r : RLine) : Line := ⟨r.hands.map RHand.real, r.worn.toNat, r.scr.toNat, r.total.toNat, r.squares.map fun q => q.map RLight.real⟩
theorem map_id_of {α : Type} {f : α → α} : ∀ {l : List α}, (∀ x ∈ l, f x = x) → l.map f = l
  | [], _ => rfl
  | x :: l, h => by rw [List.map_cons, h x (by simp), map_id_of fun y hy => h y (by simp [hy])]
theorem getD_mem {α : Type} {l : List α} {k : Nat} {d : α} (hk : k < l.length) : l.getD k d = l[k] := by simp [List.getD, hk]
theorem shape_of {S : List RShape} (h : firstOf (shapeErr S) S.length = 0) : (∀ s ∈ S, s.real.ok ∧ s.real.raw = s) ∧ (S.map RShape.real).Pairwise fun a b => a.letter < b.letter := by
  have h0 := firstOf_iff.1 h
  have key : ∀ k (hk : k < S.length), 65 ≤ (S[k]).letter ∧ (S[k]).letter ≤ 90 ∧ 1 ≤ (S[k]).strokes ∧ (S[k]).strokes ≤ 1023 ∧ ∀ (h : 0 < k), (S[k - 1]).letter < (S[k]).letter := by
    intro k hk
    have h1 := h0 k hk
    unfold shapeErr at h1
    simp only [getD_mem hk] at h1
    split at h1
    · omega
    · split at h1
      · omega
      · split at h1
        · omega
        · rename_i c1 c2 c3
          have d1 := outB_in (Bool.eq_false_iff.2 c1)
          have d2 := outB_in (Bool.eq_false_iff.2 c2)
          refine ⟨d1.1, d1.2, d2.1, d2.2, fun hp => ?_⟩
          rw [getD_mem (show k - 1 < S.length by omega)] at c3
          rcases Int.lt_or_le (S[k - 1]).letter (S[k]).letter with h | h
          · exact h
          · exact absurd ⟨hp, h⟩ c3
  refine ⟨fun s hs => ?_, ?_⟩
  · obtain ⟨k, hk, rfl⟩ := List.getElem_of_mem hs
    obtain ⟨a, b, c, d, _⟩ := key k hk
    refine ⟨⟨by show 65 ≤ (S[k]).letter.toNat; omega, by show (S[k]).letter.toNat ≤ 90; omega, by show 1 ≤ (S[k]).strokes.toNat; omega, by show (S[k]).strokes.toNat < 1024; omega⟩, ?_⟩
    unfold RShape.real Shape.raw
    simp only
    rw [Int.toNat_of_nonneg (by omega), Int.toNat_of_nonneg (by omega)]
  · have step : ∀ j k (hjk : j < k) (hk : k < S.length), (S[j]'(Nat.lt_trans hjk hk)).letter < (S[k]).letter := by
      intro j k hjk
      induction k with
      | zero => omega
      | succ k ih =>
        intro hk
        have h1 := (key (k + 1) hk).2.2.2.2 (by omega)
        have h1' : (S[k]'(by omega)).letter < (S[k + 1]).letter := h1
        rcases Nat.lt_or_ge j k with h2 | h2
        · exact Int.lt_trans (ih h2 (by omega)) h1'
        · obtain rfl : j = k := by omega
          exact h1'
    rw [List.pairwise_iff_getElem]
    intro i j hi hj hij
    rw [List.length_map] at hi hj
    rw [List.getElem_map, List.getElem_map]
    have a := step i j hij hj
    have b := (key i hi).1
    show (S[i]).letter.toNat < (S[j]).letter.toNat
    omega
theorem hand_of {h : RHand} (he : handErr h = 0) : h.real.ok ∧ h.real.raw = h := by
  unfold handErr at he
  split at he
  · omega
  · split at he
    · omega
    · split at he
      · rename_i c _; exact absurd he (by assumption)
      · rename_i c1 c2 c3
        have c3' : countE h.shapes.length 1 8 = 0 := by
          rcases Decidable.em (countE h.shapes.length 1 8 = 0) with h | h
          · exact h
          · exact absurd h c3
        have c4 := countE_in c3'
        have d1 : outB h.low (-3000) 3000 = false := Bool.eq_false_iff.2 fun e => c1 (.inl e)
        have d2 : outB h.high (-3000) 3000 = false := Bool.eq_false_iff.2 fun e => c1 (.inr e)
        have e1 := outB_in d1
        have e2 := outB_in d2
        obtain ⟨f1, f2⟩ := shape_of he
        refine ⟨⟨e1.1, by show h.low ≤ h.high; omega, e2.2, by show 1 ≤ (h.shapes.map RShape.real).length; rw [List.length_map]; omega, by show (h.shapes.map RShape.real).length ≤ 8; rw [List.length_map]; omega, ?_, f2⟩, ?_⟩
        · intro s hs
          obtain ⟨r, hr, rfl⟩ := List.mem_map.1 hs
          exact (f1 r hr).1
        · unfold RHand.real Hand.raw
          simp only
          rw [List.map_map, map_id_of (f := Shape.raw ∘ RShape.real) fun r hr => (f1 r hr).2]
theorem light_of {x : RLight} (he : lightErr x = 0) : x.real.ok ∧ x.real.raw = x := by
  unfold lightErr at he
  split at he
  · omega
  · split at he
    · omega
    · rename_i c1 c2
      have e1 := outB_in (Bool.eq_false_iff.2 fun e => c1 (.inl e))
      have e2 := outB_in (Bool.eq_false_iff.2 fun e => c1 (.inr e))
      refine ⟨⟨by show x.shows.toNat < 1024; omega, by show x.seen.toNat < 1024; omega, ?_⟩, ?_⟩
      · show diff x.seen.toNat x.shows.toNat = 0
        rcases Decidable.em (diff x.seen.toNat x.shows.toNat = 0) with h | h
        · exact h
        · exact absurd h c2
      · unfold RLight.real Light.raw
        simp only
        rw [Int.toNat_of_nonneg (by omega), Int.toNat_of_nonneg (by omega)]
theorem square_of {q : List RLight} (he : squareErr q = 0) : q.length ≤ 4 ∧ ∀ x ∈ q, x.real.ok ∧ x.real.raw = x := by
  unfold squareErr at he
  split at he
  · omega
  · refine ⟨by omega, fun x hx => ?_⟩
    obtain ⟨k, hk, rfl⟩ := List.getElem_of_mem hx
    have h := firstOf_iff.1 he k hk
    simp only [getD_mem hk] at h
    exact light_of h
theorem line_of {L : RLine} (he : lineErr L = 0) : L.real.ok ∧ L.real.raw = L := by
  unfold lineErr at he
  split at he
  · exact absurd he (by assumption)
  · rename_i c1
    split at he
    · exact absurd he (by assumption)
    · rename_i c2
      split at he
      · omega
      · rename_i c3
        split at he
        · exact absurd he (by assumption)
        · rename_i c4
          have c1' : countE L.hands.length 1 4 = 0 := Decidable.of_not_not c1
          have c2' := Decidable.of_not_not c2
          have c4' : countE L.squares.length 1 8 = 0 := Decidable.of_not_not c4
          have d1 := countE_in c1'
          have d4 := countE_in c4'
          have e1 := outB_in (Bool.eq_false_iff.2 fun e => c3 (.inl e))
          have e2 := outB_in (Bool.eq_false_iff.2 fun e => c3 (.inr (.inl e)))
          have e3 := outB_in (Bool.eq_false_iff.2 fun e => c3 (.inr (.inr e)))
          have fh : ∀ h ∈ L.hands, h.real.ok ∧ h.real.raw = h := fun h hh => by
            obtain ⟨k, hk, rfl⟩ := List.getElem_of_mem hh
            have h := firstOf_iff.1 c2' k hk
            simp only [getD_mem hk] at h
            exact hand_of h
          have fq : ∀ q ∈ L.squares, q.length ≤ 4 ∧ ∀ x ∈ q, x.real.ok ∧ x.real.raw = x := fun q hq => by
            obtain ⟨k, hk, rfl⟩ := List.getElem_of_mem hq
            have h := firstOf_iff.1 he k hk
            simp only [getD_mem hk] at h
            exact square_of h
          refine ⟨⟨by show 1 ≤ (L.hands.map RHand.real).length; rw [List.length_map]; omega, by show (L.hands.map RHand.real).length ≤ 4; rw [List.length_map]; omega, ?_, by show L.worn.toNat ≤ 10; omega, by show L.scr.toNat ≤ 10; omega, by show L.total.toNat ≤ 40; omega,
            by show 1 ≤ (L.squares.map _).length; rw [List.length_map]; omega, by show (L.squares.map _).length ≤ 8; rw [List.length_map]; omega, ?_⟩, ?_⟩
          · intro h hh
            obtain ⟨r, hr, rfl⟩ := List.mem_map.1 hh
            exact (fh r hr).1
          · intro q hq
            obtain ⟨r, hr, rfl⟩ := List.mem_map.1 hq
            refine ⟨by rw [List.length_map]; exact (fq r hr).1, fun x hx => ?_⟩
            obtain ⟨y, hy, rfl⟩ := List.mem_map.1 hx
            exact ((fq r hr).2 y hy).1
          · unfold RLine.real Line.raw
            simp only
            rw [List.map_map, List.map_map, map_id_of (f := Hand.raw ∘ RHand.real) fun r hr => (fh r hr).2, map_id_of (l := L.squares) (f := (fun q => q.map Light.raw) ∘ fun q => q.map RLight.real) fun r hr => by
              show (r.map RLight.real).map Light.raw = r
              rw [List.map_map]
              exact map_id_of (f := Light.raw ∘ RLight.real) fun y hy => ((fq r hr).2 y hy).2]
            rw [Int.toNat_of_nonneg (by omega), Int.toNat_of_nonneg (by omega), Int.toNat_of_nonneg (by omega)]
/-- The call's own copy of a valid line. -/
theorem sl_own {w : World} {base size n : Nat} {e : TypeId} {v : Value} {xs : List Value} {R : Nat → Nat → Prop} (h : w.ownsRow base e size v n xs)
    (hR : ∀ g, g < w.heap.size → (∀ j u, j < n * size → xs[j]? = some u → w.cell? ⟨g, j, none⟩ = some u) → R g 0) : Sl w.heap.size v n R := by
  rcases own_cells h with ⟨rfl, h0⟩ | ⟨g, c, rfl, hg, _, hc⟩
  · exact ⟨none, 0, by rw [h0], fun h => by omega⟩
  · exact ⟨_, c, rfl, fun _ => ⟨g, 0, rfl, hg, hR g hg hc⟩⟩
theorem shapes_own {w : World} {base : Nat} {v : Value} {S : List Shape} (h : w.ownsRow base 86 2 v (S.map Shape.raw).length (rshCells (S.map Shape.raw))) : Shapes w w.heap.size v S := by
  rw [List.length_map] at h
  refine sl_own h fun g hg hc k x hx => ?_
  have hk := (List.getElem?_eq_some_iff.1 hx).1
  obtain ⟨g1, g2⟩ := rshCells_get (S.map Shape.raw) k x.raw (by rw [List.getElem?_map, hx]; rfl)
  rw [Nat.zero_add]
  exact ⟨hc _ _ (by omega) g1, hc _ _ (by omega) g2⟩
theorem lights_own {w : World} {base : Nat} {v : Value} {S : List Light} (h : w.ownsRow base 27 2 v (S.map Light.raw).length (rltCells (S.map Light.raw))) : Lights w w.heap.size v S := by
  rw [List.length_map] at h
  refine sl_own h fun g hg hc k x hx => ?_
  have hk := (List.getElem?_eq_some_iff.1 hx).1
  obtain ⟨g1, g2⟩ := rltCells_get (S.map Light.raw) k x.raw (by rw [List.getElem?_map, hx]; rfl)
  rw [Nat.zero_add]
  exact ⟨hc _ _ (by omega) g1, hc _ _ (by omega) g2⟩
theorem ROwn.lineAt {B : Nat} {w : World} {vh vq : Value} {L : Line} {svs lvs : List Value} (h : ROwn B w vh vq L.raw svs lvs) : LineAt w w.heap.size (rlineV vh vq L.raw) L := by
  refine ⟨vh, vq, rfl, ?_, ?_⟩
  · have hh := h.hands
    have e : L.raw.hands.length = L.hands.length := by simp [Line.raw]
    rw [e] at hh
    refine sl_own hh fun g hg hc k y hy => ?_
    have hk := (List.getElem?_eq_some_iff.1 hy).1
    have hy' : L.raw.hands[k]? = some y.raw := by unfold Line.raw; rw [List.getElem?_map, hy]; rfl
    obtain ⟨sv, hsv⟩ : ∃ sv, svs[k]? = some sv := ⟨_, List.getElem?_eq_getElem (by rw [h.shapes.1, e]; exact hk)⟩
    obtain ⟨g1, g2, g3⟩ := rhdCells_get L.raw.hands svs k y.raw sv hy' hsv
    rw [Nat.zero_add]
    exact ⟨hc _ _ (by omega) g1, hc _ _ (by omega) g2, sv, hc _ _ (by omega) g3, shapes_own (h.shapes.2 k y.raw sv hy' hsv)⟩
  · have hh := h.squares
    have e : L.raw.squares.length = L.squares.length := by simp [Line.raw]
    rw [e] at hh
    refine sl_own hh fun g hg hc k y hy => ?_
    have hk := (List.getElem?_eq_some_iff.1 hy).1
    have hy' : L.raw.squares[k]? = some (y.map Light.raw) := by unfold Line.raw; rw [List.getElem?_map, hy]; rfl
    obtain ⟨lv, hlv⟩ : ∃ lv, lvs[k]? = some lv := ⟨_, List.getElem?_eq_getElem (by rw [h.lights.1, e]; exact hk)⟩
    rw [Nat.zero_add]
    exact ⟨lv, hc _ _ (by omega) hlv, lights_own (h.lights.2.1 k _ lv hy' hlv)⟩
end
section
open Go.RowKit Go.Shelf

def hUp (L : Line) (k : Nat) : List Nat := (List.range k).filter (handFits L)
theorem hUp_yes {L : Line} {k : Nat} (h : handFits L k = true) : hUp L (k + 1) = hUp L k ++ [k] := by
  unfold hUp
  rw [List.range_succ, List.filter_append]
  simp [h]
theorem hUp_no {L : Line} {k : Nat} (h : handFits L k = false) : hUp L (k + 1) = hUp L k := by
  unfold hUp
  rw [List.range_succ, List.filter_append]
  simp [h]
theorem hUp_len (L : Line) (k : Nat) : (hUp L k).length ≤ k := by
  have := List.length_filter_le (handFits L) (List.range k)
  unfold hUp
  simpa using this
/-- A box, and a row of the call's own behind it. -/
theorem BoxL.grown {w wr w' : World} {a : List Value} {base size n : Nat} {e : TypeId} {v : Value} {xs : List Value} (h : BoxL w wr a) (ho : wr.ownsRow base e size v n xs) (hne : e ≠ 25) (hb : w.heap.size ≤ base) (hg : wr.grownBy w' v.ownBlock) : BoxL w w' a :=
  ⟨h.one.grown hg (own_ne_row ho h.one hne), h.bel.grown hg h.bel.size (fun k e => Nat.le_trans hb (ho.lt k e).1)⟩
theorem BoxL.alloc {w wr : World} {a : List Value} (h : BoxL w wr a) (o : Obj) : BoxL w (wr.alloc o) a := h.below ((Below.refl _ _).alloc (Nat.le_refl _) _)
set_option maxRecDepth 100000 in
set_option maxHeartbeats 2000000 in
theorem rhands_refc (v : Value) (L : Line) (w : World) (hL : L.ok) (hv : RLineAt w w.heap.size v L.raw) :
    Calls Try.prog 56 #[v] w fun e w' => ∃ A c, e = .returned (.slice A (handsOf L).length c) ∧ Ints w' w'.heap.size (.slice A (handsOf L).length c) (handsOf L) ∧ HasCap (.slice A (handsOf L).length c) ∧ Below w.heap.size w w' := by
  have HV := Lib.hid hv
  have HL := Lib.hid hL
  obtain ⟨vh, vs, rfl, hh, hq⟩ := hv
  obtain ⟨AH, ch, rfl, -⟩ := RSl.form hh
  obtain ⟨AQ, cq, rfl, -⟩ := RSl.form hq
  have hh4 : L.hands.length ≤ 4 := hL.2.1
  have hT : L.total ≤ 40 := hL.2.2.2.2.2.1
  have hl1 : L.raw.hands.length = L.hands.length := by simp [Line.raw]
  rw [hl1] at HV hh ⊢
  have HAT := Lib.hid (fun (k : Nat) (hk : k < L.hands.length) => rhand_at hh hk)
  obtain ⟨n, hn0⟩ : ∃ n, n = L.hands.length := ⟨_, rfl⟩
  have HN := Lib.hid hn0
  obtain ⟨wn, hwn⟩ : ∃ wn, wn = L.raw.worn := ⟨_, rfl⟩
  obtain ⟨sc, hsc⟩ : ∃ sc, sc = L.raw.scr := ⟨_, rfl⟩
  obtain ⟨m, hm⟩ : ∃ m, m = L.raw.squares.length := ⟨_, rfl⟩
  obtain ⟨T, hTe⟩ : ∃ T, T = L.total := ⟨_, rfl⟩
  have ht0 : L.raw.total = (T : Int) := by rw [hTe]; rfl
  have HMK := Lib.hid (fun (W : World) (hW : Below w.heap.size w W) (k : Nat) (hk : k < L.hands.length) (As : Option Addr) (cs : Nat) (hs : RShapes w w.heap.size (.slice As (L.hands[k]).shapes.length cs) ((L.hands[k]).shapes.map Shape.raw)) =>
    show Calls Try.prog 69 #[.agg #[.slice AH n ch, .int .i64 wn, .int .i64 sc, .int .i64 T, .slice AQ m cq], .agg #[.int .i64 (L.hands[k]).low, .int .i64 (L.hands[k]).high, .slice As (L.hands[k]).shapes.length cs], .slice none 0 0] W (MarksRPost (cutterOf L (L.hands[k]).shapes) L.squares.length [] W) by
      have h := marks_refc _ L W HL.out (HV.out.keep (SameA.of_below hW) hW.size) (L.hands[k]) (List.getElem_mem hk) _ (hs.keep (SameA.of_below hW) hW.size) [] _ (RNeeds.nil W _) List.Pairwise.nil (by simp) (by simp)
      rw [ht0, ← hwn, ← hsc, ← hm] at h
      rw [hn0]
      exact h)
  obtain ⟨i0, hi0, hi1, hi2, hi3⟩ := info_parts info_int
  have HI0 := Lib.hid hi0
  have HI1 := Lib.hid hi1
  have HI2 := Lib.hid hi2
  have HI3 := Lib.hid hi3
  rw [ht0, ← hwn, ← hsc, ← hm, ← hn0]
  rw [← hn0] at hh4
  rw [← hTe] at hT
  have HTE := Lib.hid hTe
  clear hL HV hh hq hwn hsc hm hn0 hTe ht0 hl1 hi0 hi1 hi2 hi3
  go_enter Try.func56, Try.ntmps56
  go_wp2_with fail
  obtain ⟨W0, hW0⟩ : ∃ W0, W0 = w.alloc (.cells #[.slice AH n ch, .int .i64 wn, .int .i64 sc, .int .i64 T, .slice AQ m cq] 25) := ⟨_, rfl⟩
  have HB0 := Lib.hid (show BoxL w W0 [.slice AH n ch, .int .i64 wn, .int .i64 sc, .int .i64 T, .slice AQ m cq] by rw [hW0]; exact BoxL.start _ _)
  rw [← hW0]
  clear hW0
  go_loopw [3, 4] (fun so si wr => ∃ i : Nat, i ≤ n ∧ si = .int .i64 i ∧ Hid (∃ A c, so = .slice A (hUp L i).length c) ∧ Hid (wr.ownsRow w.heap.size 3 1 so (hUp L i).length ((hUp L i).map fun (x : Nat) => .int .i64 x)) ∧ Hid (BoxL w wr [.slice AH n ch, .int .i64 wn, .int .i64 sc, .int .i64 T, .slice AQ m cq])) (fun _ si _ => n - (intOf si).toNat)
  case atStart => exact ⟨0, by omega, rfl, Lib.hid ⟨none, 0, rfl⟩, Lib.hid (World.ownsRow_nil _ _ _ _), HB0⟩
  case round =>
    clear HB0
    obtain ⟨i, hi, rfl, hAc, HO, HI⟩ := hrel
    obtain ⟨A1, c1, rfl⟩ := hAc.out
    clear hAc
    have z1 := HI.out.one.size
    have a0 : wr.cell? ⟨w.heap.size, 0, none⟩ = some (.slice AH n ch) := HI.out.one.cell 0
    have hul := hUp_len L i
    by_cases hin : i < n
    · have a1 : wr.cell? ⟨w.heap.size, 1, none⟩ = some (.int .i64 wn) := HI.out.one.cell 1
      have a2 : wr.cell? ⟨w.heap.size, 2, none⟩ = some (.int .i64 sc) := HI.out.one.cell 2
      have a3 : wr.cell? ⟨w.heap.size, 3, none⟩ = some (.int .i64 T) := HI.out.one.cell 3
      have a4 : wr.cell? ⟨w.heap.size, 4, none⟩ = some (.slice AQ m cq) := HI.out.one.cell 4
      have hiH : i < L.hands.length := by rw [← HN.out]; exact hin
      obtain ⟨x, As, cs, hA, hxb, d1, d2, d3, hs⟩ := HAT.out i hiH
      subst hA
      have d1 := (HI.out.bel.cell (p := x.add (i * 3)) (by rw [Addr.add_block]; exact hxb)).trans d1
      have d2 := (HI.out.bel.cell (p := x.add (i * 3 + 1)) (by rw [Addr.add_block]; exact hxb)).trans d2
      have d3 := (HI.out.bel.cell (p := x.add (i * 3 + 2)) (by rw [Addr.add_block]; exact hxb)).trans d3
      rw [← Addr.nth x (i * 3) 0] at d2
      rw [← Addr.nth x (i * 3) 1] at d3
      have hxb2 : (x.add (i * 3)).block < wr.heap.size := by rw [Addr.add_block]; omega
      have HC := Lib.hid (HMK.out wr.drew HI.out.bel.drew i hiH As cs hs)
      have HHK := Lib.hid (show handFits L i = decide ((cutterOf L (L.hands[i]).shapes).sum L.squares.length ≤ T) by
        unfold handFits
        rw [List.getElem?_eq_getElem hiH, HTE.out]
        rfl)
      obtain ⟨lo, hlo⟩ : ∃ lo, lo = (L.hands[i]).low := ⟨_, rfl⟩
      obtain ⟨hg, hhi⟩ : ∃ hg, hg = (L.hands[i]).high := ⟨_, rfl⟩
      obtain ⟨nsh, hns⟩ : ∃ nsh, nsh = (L.hands[i]).shapes.length := ⟨_, rfl⟩
      rw [← hlo] at d1 HC
      rw [← hhi] at d2 HC
      rw [← hns] at d3 HC
      have k0 : (0 : Int) ≤ (i : Int) := by omega
      have k1 : (i : Int) < (n : Int) := by omega
      clear hlo hhi hns hs
      go_wp2_with fail
      go_region_held3 (fun w' => w'.cell? ⟨w.heap.size, 0, none⟩ = some (.slice (some x) n ch) ∧ w'.cell? ⟨w.heap.size, 1, none⟩ = some (.int .i64 wn) ∧ w'.cell? ⟨w.heap.size, 2, none⟩ = some (.int .i64 sc) ∧ w'.cell? ⟨w.heap.size, 3, none⟩ = some (.int .i64 T) ∧ w'.cell? ⟨w.heap.size, 4, none⟩ = some (.slice AQ m cq) ∧ w'.cell? (x.add (i * 3)) = some (.int .i64 lo) ∧ w'.cell? ⟨(x.add (i * 3)).block, (x.add (i * 3)).off + (0 + 1), none⟩ = some (.int .i64 hg) ∧ w'.cell? ⟨(x.add (i * 3)).block, (x.add (i * 3)).off + (1 + 1), none⟩ = some (.slice As nsh cs))
        (first
          | exact ⟨a0, a1, a2, a3, a4, d1, d2, d3⟩
          | exact ⟨bcell hb5 z1 a0, bcell hb5 z1 a1, bcell hb5 z1 a2, bcell hb5 z1 a3, bcell hb5 z1 a4, (hb5.cell (p := x.add (i * 3)) hxb2).trans d1, (hb5.cell (p := ⟨(x.add (i * 3)).block, (x.add (i * 3)).off + (0 + 1), none⟩) hxb2).trans d2, (hb5.cell (p := ⟨(x.add (i * 3)).block, (x.add (i * 3)).off + (1 + 1), none⟩) hxb2).trans d3⟩)
        (first
          | (go_at_call 69; refine HC.out.mono ?_; rintro e w5 ⟨r, hr, rfl, hb5⟩; have HR := Lib.hid hr; have hr8 : r ≤ 8000 := hr.1; clear hr))
      have HI5 := Lib.hid ((HI.out.drewN 1).below hb5)
      have HO5 := Lib.hid (own_below (show World.ownsRow wr.drew _ _ _ _ _ _ from HO.out) hb5 (Nat.le_refl _))
      clear a0 a1 a2 a3 a4 d1 d2 d3 hb5 HC
      by_cases hrT : r ≤ T
      · have HY := Lib.hid (hUp_yes (show handFits L i = true by rw [HHK.out, decide_eq_true_iff]; exact (HR.out.2.1 T (by omega)).1 hrT))
        have z5 := HI5.out.bel.size
        obtain ⟨nu, hnu⟩ : ∃ nu, nu = (hUp L i).length := ⟨_, rfl⟩
        rw [← hnu] at hul HO5 ⊢
        have HNU := Lib.hid hnu
        clear hnu
        go_wp2_with (at_builtin; refine wpList_append_own _ rfl _ _ 28 rfl w.heap.size 3 i0 (.int .i64 0) 1 8 Try.underlying28 HI0.out HI1.out HI2.out HI3.out rfl (by decide) _ _ _ rfl (HO5.out.alloc _) ⟨w5.heap.size, 0, none⟩ 1 1 [.int .i64 i] rfl rfl (cell_one_new _ _ _) (by simp [Value.oneCell']) (by unfold maxLen; omega) (by omega) (by simp; omega) ?_; intro v' w6 hown' hgrow _)
        have HI6 := Lib.hid ((HI5.out.alloc (.cells #[.int .i64 i] 3)).grown (HO5.out.alloc _) (by decide) (Nat.le_refl _) hgrow)
        have HO6 := Lib.hid (show w6.ownsRow w.heap.size 3 1 v' (hUp L (i + 1)).length ((hUp L (i + 1)).map fun (x : Nat) => .int .i64 x) by
          rw [HY.out, List.length_append, List.map_append, ← HNU.out]
          exact hown')
        have HF6 := Lib.hid (own_form HO6.out)
        clear hown' hgrow
        go_wp2_with fail
        exact ⟨⟨i + 1, by omega, by go_num, HF6, HO6, HI6⟩, by simp [intOf]; omega⟩
      · have HY := Lib.hid (hUp_no (show handFits L i = false by
          rw [HHK.out, decide_eq_false_iff_not]
          exact fun h => hrT ((HR.out.2.1 T (by omega)).2 h)))
        go_wp2_with fail
        exact ⟨⟨i + 1, by omega, by go_num, Lib.hid ⟨A1, c1, by rw [HY.out]⟩, Lib.hid (by rw [HY.out]; exact HO5.out), HI5⟩, by simp [intOf]; omega⟩
    · obtain rfl : i = n := by omega
      have he : hUp L i = handsOf L := by rw [HN.out, hands_filter]; rfl
      have HO2 := HO.out
      rw [he] at HO2
      have HE := Lib.hid (show (hUp L i).length = (handsOf L).length by rw [he])
      have HIN := Lib.hid (ints_of_own HO2)
      have HCP := Lib.hid (own_cap HO2)
      clear HO2 he
      go_wp2_with fail
      go_ret
      exact ⟨A1, c1, by rw [← HE.out]; rfl, HIN.out, HCP.out, HI.out.bel⟩
end
section
open Go.RowKit Go.Shelf

set_option maxRecDepth 100000 in
set_option maxHeartbeats 1000000 in
theorem rHands_err (v : Value) (L : RLine) (w : World) (hv : RLineAt w w.heap.size v L) (he : lineErr L ≠ 0) :
    Calls Try.prog 20 #[v] w fun e w' => e = .returned (.tuple #[.slice none 0 0, .int .i64 (lineErr L)]) ∧ Below w.heap.size w w' := by
  have HCK := Lib.hid (fun (W : World) (hW : Below w.heap.size w W) => fcheck_any v L W (hv.keep (SameA.of_below hW) hW.size))
  obtain ⟨vh, vs, rfl, hh, hq⟩ := hv
  obtain ⟨AH, ch, rfl, -⟩ := RSl.form hh
  obtain ⟨AQ, cq, rfl, -⟩ := RSl.form hq
  obtain ⟨er, her⟩ : ∃ er, er = lineErr L := ⟨_, rfl⟩
  rw [← her] at he HCK ⊢
  have t0 : (er == 0) = false := by rw [beq_eq_false_iff_ne]; exact he
  have t1 : (er != 0) = true := by rw [bne_iff_ne]; exact he
  clear hh hq her he
  go_enter Try.func20, Try.ntmps20
  go_wp2_with (go_at_call 26; refine (HCK.out _ ((Below.refl _ _).alloc (Nat.le_refl _) _)).mono ?_; rintro e w5 ⟨rfl, hb5⟩)
  have HB := Lib.hid (((Below.refl w.heap.size w).alloc (Nat.le_refl _) (.cells #[.slice AH L.hands.length ch, .int .i64 L.worn, .int .i64 L.scr, .int .i64 L.total, .slice AQ L.squares.length cq] 25)).trans (hb5.mono (by simp)))
  go_ret2
  exact ⟨rfl, HB.out⟩
set_option maxRecDepth 100000 in
set_option maxHeartbeats 1000000 in
theorem rHands_ok (v : Value) (L : Line) (w : World) (hL : L.ok) (hv : RLineAt w w.heap.size v L.raw) :
    Calls Try.prog 20 #[v] w (HandsPost L w) := by
  have HCK := Lib.hid (fun (W : World) (hW : Below w.heap.size w W) => show Calls Try.prog 26 #[v] W (fun e w' => e = .returned (.int .i64 0) ∧ Below W.heap.size W w') by
    have h := fcheck_any v L.raw W (hv.keep (SameA.of_below hW) hW.size)
    rw [line_raw hL] at h
    exact h)
  have HHD := Lib.hid (fun (W : World) (hW : Below w.heap.size w W) => rhands_refc v L W hL (hv.keep (SameA.of_below hW) hW.size))
  obtain ⟨vh, vs, rfl, hh, hq⟩ := hv
  obtain ⟨AH, ch, rfl, -⟩ := RSl.form hh
  obtain ⟨AQ, cq, rfl, -⟩ := RSl.form hq
  obtain ⟨nh, hnh⟩ : ∃ nh, nh = L.raw.hands.length := ⟨_, rfl⟩
  obtain ⟨m, hm⟩ : ∃ m, m = L.raw.squares.length := ⟨_, rfl⟩
  obtain ⟨wn, hwn⟩ : ∃ wn, wn = L.raw.worn := ⟨_, rfl⟩
  obtain ⟨sc, hsc⟩ : ∃ sc, sc = L.raw.scr := ⟨_, rfl⟩
  obtain ⟨tt, htt⟩ : ∃ tt, tt = L.raw.total := ⟨_, rfl⟩
  rw [← hnh, ← hm, ← hwn, ← hsc, ← htt] at HCK HHD ⊢
  clear hh hq hnh hm hwn hsc htt hL
  go_enter Try.func20, Try.ntmps20
  go_wp2_with (go_at_call 26; refine (HCK.out _ ((Below.refl _ _).alloc (Nat.le_refl _) _)).mono ?_; rintro e w5 ⟨rfl, hb5⟩; have HI5 := Lib.hid ((BoxL.start w [.slice AH nh ch, .int .i64 wn, .int .i64 sc, .int .i64 tt, .slice AQ m cq]).below hb5); clear hb5; have a0 : w5.cell? ⟨w.heap.size, 0, none⟩ = some (.slice AH nh ch) := HI5.out.one.cell 0; have a1 : w5.cell? ⟨w.heap.size, 1, none⟩ = some (.int .i64 wn) := HI5.out.one.cell 1; have a2 : w5.cell? ⟨w.heap.size, 2, none⟩ = some (.int .i64 sc) := HI5.out.one.cell 2; have a3 : w5.cell? ⟨w.heap.size, 3, none⟩ = some (.int .i64 tt) := HI5.out.one.cell 3; have a4 : w5.cell? ⟨w.heap.size, 4, none⟩ = some (.slice AQ m cq) := HI5.out.one.cell 4)
  refine (HHD.out _ HI5.out.bel).mono ?_
  rintro e w6 ⟨A, c, rfl, hin, hcp, hb6⟩
  have HIN := Lib.hid hin
  have HCP := Lib.hid hcp
  have HB := Lib.hid (HI5.out.bel.trans (hb6.mono HI5.out.bel.size))
  clear hin hcp hb6 a0 a1 a2 a3 a4
  by_cases hz : handsOf L = []
  · have HZ := Lib.hid hz
    have hl : (handsOf L).length = 0 := by rw [hz]; rfl
    rw [hl]
    clear hz hl
    go_wp2_with fail
    go_ret2
    exact ⟨HB.out, .inl ⟨HZ.out, rfl⟩⟩
  · have HZ := Lib.hid hz
    have hl : 0 < (handsOf L).length := List.length_pos_iff.2 hz
    obtain ⟨k, hk⟩ : ∃ k, k = (handsOf L).length := ⟨_, rfl⟩
    rw [← hk] at hl HIN HCP ⊢
    have t0 : ((k : Int) == 0) = false := by rw [beq_eq_false_iff_ne]; omega
    clear hz hk
    go_wp2_with fail
    go_ret2
    exact ⟨HB.out, .inr ⟨HZ.out, _, rfl, HIN.out, HCP.out⟩⟩
end
section
open Go.RowKit Go.Shelf

set_option maxRecDepth 100000 in
set_option maxHeartbeats 1000000 in
theorem rLetters_err (v : Value) (L : RLine) (w : World) (hv : RLineAt w w.heap.size v L) (he : lineErr L ≠ 0) :
    Calls Try.prog 22 #[v] w fun e w' => e = .returned (.tuple #[.slice none 0 0, .int .i64 (lineErr L)]) ∧ Below w.heap.size w w' := by
  have HCK := Lib.hid (fun (W : World) (hW : Below w.heap.size w W) => rHands_err v L W (hv.keep (SameA.of_below hW) hW.size) he)
  obtain ⟨vh, vs, rfl, hh, hq⟩ := hv
  obtain ⟨AH, ch, rfl, -⟩ := RSl.form hh
  obtain ⟨AQ, cq, rfl, -⟩ := RSl.form hq
  obtain ⟨er, her⟩ : ∃ er, er = lineErr L := ⟨_, rfl⟩
  rw [← her] at he HCK ⊢
  have t0 : (er == 0) = false := by rw [beq_eq_false_iff_ne]; exact he
  have t1 : (er != 0) = true := by rw [bne_iff_ne]; exact he
  clear hh hq her he
  go_enter Try.func22, Try.ntmps22
  go_wp2_with (go_at_call 20; refine (HCK.out _ ((Below.refl _ _).alloc (Nat.le_refl _) _)).mono ?_; rintro e w5 ⟨rfl, hb5⟩)
  have HB := Lib.hid (((Below.refl w.heap.size w).alloc (Nat.le_refl _) (.cells #[.slice AH L.hands.length ch, .int .i64 L.worn, .int .i64 L.scr, .int .i64 L.total, .slice AQ L.squares.length cq] 25)).trans (hb5.mono (by simp)))
  go_ret2
  exact ⟨rfl, HB.out⟩
theorem lettersOf_take (L : Line) (k : Nat) (hk : k < L.squares.length) : (lettersOf L).take (k + 1) = (lettersOf L).take k ++ [orderText (allLetters L k)] := by
  have h := letters_at L k hk
  obtain ⟨h1, h2⟩ := List.getElem?_eq_some_iff.1 h
  rw [List.take_succ_eq_append_getElem h1, h2]
theorem lettersOf_len (L : Line) : (lettersOf L).length = L.squares.length := by simp [lettersOf]
set_option maxRecDepth 100000 in
set_option maxHeartbeats 2000000 in
theorem rLetters_ok (v : Value) (L : Line) (w : World) (hL : L.ok) (hv : RLineAt w w.heap.size v L.raw) :
    Calls Try.prog 22 #[v] w (LettersPost L w) := by
  have HCK := Lib.hid (fun (W : World) (hW : Below w.heap.size w W) => rHands_ok v L W hL (hv.keep (SameA.of_below hW) hW.size))
  have HLT := Lib.hid (fun (W : World) (hW : Below w.heap.size w W) (q : Nat) (hq : q < L.squares.length) => show Calls Try.prog 59 #[v, .int .i64 q, .slice none 0 0] W (fun e w' => e = .returned (.string (orderText (allLetters L q))) ∧ Below W.heap.size W w') by
    have h := letters_refc v L W hL (hv.keep (SameA.of_below hW) hW.size) [] _ (RNeeds.nil W _) List.Pairwise.nil (by simp) (by simp) q hq (by simp)
    rw [rtext_none hL hq] at h
    exact h)
  have hm8 : L.squares.length ≤ 8 := hL.2.2.2.2.2.2.2.1
  obtain ⟨vh, vs, rfl, hh, hq⟩ := hv
  obtain ⟨AH, ch, rfl, -⟩ := RSl.form hh
  obtain ⟨AQ, cq, rfl, -⟩ := RSl.form hq
  have hl2 : L.raw.squares.length = L.squares.length := by simp [Line.raw]
  rw [hl2] at HCK HLT ⊢
  obtain ⟨nh, hnh⟩ : ∃ nh, nh = L.raw.hands.length := ⟨_, rfl⟩
  obtain ⟨m, hm⟩ : ∃ m, m = L.squares.length := ⟨_, rfl⟩
  obtain ⟨wn, hwn⟩ : ∃ wn, wn = L.raw.worn := ⟨_, rfl⟩
  obtain ⟨sc, hsc⟩ : ∃ sc, sc = L.raw.scr := ⟨_, rfl⟩
  obtain ⟨tt, htt⟩ : ∃ tt, tt = L.raw.total := ⟨_, rfl⟩
  rw [← hnh, ← hm, ← hwn, ← hsc, ← htt] at HCK HLT
  rw [← hnh, ← hm, ← hwn, ← hsc, ← htt]
  rw [← hm] at hm8
  obtain ⟨i0, hi0, hi1, hi2, hi3⟩ := info_parts info_string
  have HI0 := Lib.hid hi0
  have HI1 := Lib.hid hi1
  have HI2 := Lib.hid hi2
  have HI3 := Lib.hid hi3
  have HM := Lib.hid hm
  clear hh hq hnh hm hwn hsc htt hL hl2 hi0 hi1 hi2 hi3
  by_cases hz : handsOf L = []
  · have HZ := Lib.hid hz
    clear hz
    go_enter Try.func22, Try.ntmps22
    go_wp2_with fail
    refine (HCK.out _ ((Below.refl _ _).alloc (Nat.le_refl _) _)).mono ?_
    rintro e w5 ⟨hb5, ⟨_, rfl⟩ | ⟨h, _⟩⟩
    · have HI5 := Lib.hid ((BoxL.start w [.slice AH nh ch, .int .i64 wn, .int .i64 sc, .int .i64 tt, .slice AQ m cq]).below hb5)
      clear hb5
      go_wp2_with fail
      go_ret2
      exact ⟨HI5.out.bel, .inl ⟨HZ.out, rfl⟩⟩
    · exact absurd HZ.out h
  · have HZ := Lib.hid hz
    clear hz
    go_enter Try.func22, Try.ntmps22
    go_wp2_with fail
    refine (HCK.out _ ((Below.refl _ _).alloc (Nat.le_refl _) _)).mono ?_
    rintro e w5 ⟨hb5, ⟨h, _⟩ | ⟨_, u, rfl, _⟩⟩
    · exact absurd h HZ.out
    · have HI5 := Lib.hid ((BoxL.start w [.slice AH nh ch, .int .i64 wn, .int .i64 sc, .int .i64 tt, .slice AQ m cq]).below hb5)
      clear hb5
      go_wp2_with fail
      go_loopw [6, 7] (fun so si wr => ∃ i : Nat, i ≤ m ∧ si = .int .i64 i ∧ Hid (wr.ownsRow w.heap.size 9 1 so i (((lettersOf L).take i).map Value.string)) ∧ Hid (BoxL w wr [.slice AH nh ch, .int .i64 wn, .int .i64 sc, .int .i64 tt, .slice AQ m cq])) (fun _ si _ => m - (intOf si).toNat)
      case atStart => exact ⟨0, by omega, rfl, Lib.hid (World.ownsRow_nil _ _ _ _), HI5⟩
      case round =>
        clear HI5
        obtain ⟨i, hi, rfl, HO, HI⟩ := hrel
        have a0 : wr.cell? ⟨w.heap.size, 0, none⟩ = some (.slice AH nh ch) := HI.out.one.cell 0
        have a1 : wr.cell? ⟨w.heap.size, 1, none⟩ = some (.int .i64 wn) := HI.out.one.cell 1
        have a2 : wr.cell? ⟨w.heap.size, 2, none⟩ = some (.int .i64 sc) := HI.out.one.cell 2
        have a3 : wr.cell? ⟨w.heap.size, 3, none⟩ = some (.int .i64 tt) := HI.out.one.cell 3
        have a4 : wr.cell? ⟨w.heap.size, 4, none⟩ = some (.slice AQ m cq) := HI.out.one.cell 4
        by_cases him : i < m
        · have hiL : i < L.squares.length := by rw [← HM.out]; exact him
          have HC := Lib.hid (HLT.out wr HI.out.bel i him)
          have htk := lettersOf_take L i hiL
          obtain ⟨tx, htx⟩ : ∃ tx, tx = orderText (allLetters L i) := ⟨_, rfl⟩
          rw [← htx] at HC htk
          have HTK := Lib.hid htk
          clear htx htk
          go_wp2_with (first
            | (go_at_call 59; (with_reducible refine HC.out.mono ?_); rintro e w6 ⟨rfl, hb6⟩; have HI6 := Lib.hid (HI.out.below hb6); have HO6 := Lib.hid (own_below HO.out hb6 (Nat.le_refl _)); have z6 := HI6.out.bel.size; clear hb6)
            | (at_builtin; refine wpList_append_own _ rfl _ _ 44 rfl w.heap.size 9 i0 (.string ByteArray.empty) 1 16 Try.underlying44 HI0.out HI1.out HI2.out HI3.out rfl (by decide) _ _ _ rfl (HO6.out.alloc _) ⟨w6.heap.size, 0, none⟩ 1 1 [.string tx] rfl rfl (cell_one_new _ _ _) (by simp [Value.oneCell']) (by unfold maxLen; omega) (by omega) (by simp; omega) ?_; intro v' w7 hown' hgrow _; have HI7 := Lib.hid ((HI6.out.alloc (.cells #[.string tx] 9)).grown (HO6.out.alloc _) (by decide) (Nat.le_refl _) hgrow); have HO7 := Lib.hid hown'; clear hown' hgrow a0 a1 a2 a3 a4))
          exact ⟨⟨i + 1, by omega, by go_num, Lib.hid (by rw [HTK.out, List.map_append]; exact HO7.out), HI7⟩, by simp [intOf]; omega⟩
        · obtain rfl : i = m := by omega
          have ho := HO.out
          rw [List.take_of_length_le (by rw [lettersOf_len, HM.out]; exact Nat.le_refl _)] at ho
          have HO2 := Lib.hid (show wr.ownsRow w.heap.size 9 1 _ L.squares.length ((lettersOf L).map Value.string) by rw [← HM.out]; exact ho)
          clear ho
          go_wp2_with fail
          go_ret2
          exact ⟨HI.out.bel, .inr ⟨HZ.out, _, rfl, HO2.out⟩⟩
end
section
open Go.RowKit Go.Shelf

theorem letters_pos {L : Line} (hL : L.ok) (hh : handsOf L ≠ []) {q : Nat} (hq : q < L.squares.length) : 1 ≤ (orderText (allLetters L q)).size := by
  have hT : L.total ≤ 40 := hL.2.2.2.2.2.1
  obtain ⟨k, hk⟩ := List.exists_mem_of_ne_nil _ hh
  obtain ⟨H, hH, hs⟩ := mem_hands.1 hk
  have h1 := fewest_sum (c := cutterOf L H.shapes) hq
  have h2 : (cutterOf L H.shapes).fewest q < 81 := by unfold sumOf at hs; omega
  obtain ⟨i, hi, e⟩ := fewest_at _ q h2
  exact orderText_pos (mem_letters.2 ⟨k, H, i, hH, ⟨hs, hi, by omega⟩, rfl⟩)
set_option maxRecDepth 100000 in
set_option maxHeartbeats 1000000 in
theorem rPrint_err (v : Value) (L : RLine) (w : World) (hv : RLineAt w w.heap.size v L) (he : lineErr L ≠ 0) :
    Calls Try.prog 31 #[v] w fun e w' => e = .returned (.tuple #[.string ByteArray.empty, .int .i64 (lineErr L)]) ∧ Below w.heap.size w w' := by
  have HCK := Lib.hid (fun (W : World) (hW : Below w.heap.size w W) => rLetters_err v L W (hv.keep (SameA.of_below hW) hW.size) he)
  obtain ⟨vh, vs, rfl, hh, hq⟩ := hv
  obtain ⟨AH, ch, rfl, -⟩ := RSl.form hh
  obtain ⟨AQ, cq, rfl, -⟩ := RSl.form hq
  obtain ⟨er, her⟩ : ∃ er, er = lineErr L := ⟨_, rfl⟩
  rw [← her] at he HCK ⊢
  have t0 : (er == 0) = false := by rw [beq_eq_false_iff_ne]; exact he
  have t1 : (er != 0) = true := by rw [bne_iff_ne]; exact he
  clear hh hq her he
  go_enter Try.func31, Try.ntmps31
  go_wp2_with (go_at_call 22; refine (HCK.out _ ((Below.refl _ _).alloc (Nat.le_refl _) _)).mono ?_; rintro e w5 ⟨rfl, hb5⟩)
  have HB := Lib.hid (((Below.refl w.heap.size w).alloc (Nat.le_refl _) (.cells #[.slice AH L.hands.length ch, .int .i64 L.worn, .int .i64 L.scr, .int .i64 L.total, .slice AQ L.squares.length cq] 25)).trans (hb5.mono (by simp)))
  go_ret2
  exact ⟨rfl, HB.out⟩
theorem rLetters_none (v : Value) (L : Line) (w : World) (hL : L.ok) (hv : RLineAt w w.heap.size v L.raw) (h : handsOf L = []) :
    Calls Try.prog 22 #[v] w fun e w' => e = .returned (.tuple #[.slice none 0 0, .int .i64 9]) ∧ Below w.heap.size w w' :=
  (rLetters_ok v L w hL hv).mono fun e w' hp => by
    rcases hp with ⟨hb, ⟨_, rfl⟩ | ⟨h', _⟩⟩
    · exact ⟨rfl, hb⟩
    · exact absurd h h'
theorem rLetters_some (v : Value) (L : Line) (w : World) (hL : L.ok) (hv : RLineAt w w.heap.size v L.raw) (h : handsOf L ≠ []) :
    Calls Try.prog 22 #[v] w fun e w' => ∃ u, e = .returned (.tuple #[u, .int .i64 0]) ∧ w'.ownsRow w.heap.size 9 1 u L.squares.length ((lettersOf L).map Value.string) ∧ Below w.heap.size w w' :=
  (rLetters_ok v L w hL hv).mono fun e w' hp => by
    rcases hp with ⟨hb, ⟨h', _⟩ | ⟨_, u, rfl, hu⟩⟩
    · exact absurd h' h
    · exact ⟨u, rfl, hu, hb⟩
set_option maxRecDepth 100000 in
set_option maxHeartbeats 1000000 in
theorem rPrint_none (v : Value) (L : Line) (w : World) (hL : L.ok) (hv : RLineAt w w.heap.size v L.raw) (hz : handsOf L = []) :
    Calls Try.prog 31 #[v] w fun e w' => e = .returned (.tuple #[.string ByteArray.empty, .int .i64 9]) ∧ Below w.heap.size w w' := by
  have HCK := Lib.hid (fun (W : World) (hW : Below w.heap.size w W) => rLetters_none v L W hL (hv.keep (SameA.of_below hW) hW.size) hz)
  obtain ⟨vh, vs, rfl, hh, hq⟩ := hv
  obtain ⟨AH, ch, rfl, -⟩ := RSl.form hh
  obtain ⟨AQ, cq, rfl, -⟩ := RSl.form hq
  clear hh hq hz hL
  go_enter Try.func31, Try.ntmps31
  go_wp2_with (go_at_call 22; refine (HCK.out _ ((Below.refl _ _).alloc (Nat.le_refl _) _)).mono ?_; rintro e w5 ⟨rfl, hb5⟩)
  have HB := Lib.hid (((Below.refl w.heap.size w).alloc (Nat.le_refl _) (.cells #[.slice AH L.raw.hands.length ch, .int .i64 L.raw.worn, .int .i64 L.raw.scr, .int .i64 L.raw.total, .slice AQ L.raw.squares.length cq] 25)).trans (hb5.mono (by simp)))
  go_ret2
  exact ⟨rfl, HB.out⟩
set_option maxRecDepth 100000 in
set_option maxHeartbeats 2000000 in
theorem rPrint_ok (v : Value) (L : Line) (w : World) (hL : L.ok) (hv : RLineAt w w.heap.size v L.raw) (hz : handsOf L ≠ []) :
    Calls Try.prog 31 #[v] w fun e w' => e = .returned (.tuple #[.string (printTo (lettersOf L)), .int .i64 0]) ∧ Below w.heap.size w w' := by
  have HCK := Lib.hid (fun (W : World) (hW : Below w.heap.size w W) => rLetters_some v L W hL (hv.keep (SameA.of_below hW) hW.size) hz)
  have hm8 : L.squares.length ≤ 8 := hL.2.2.2.2.2.2.2.1
  have hm1 : 1 ≤ L.squares.length := hL.2.2.2.2.2.2.1
  have HPOS := Lib.hid (fun (k : Nat) (s : ByteArray) (h : (lettersOf L)[k]? = some s) => show 1 ≤ s.size by
    have hk : k < L.squares.length := by
      have := (List.getElem?_eq_some_iff.1 h).1
      rwa [lettersOf_len] at this
    rw [letters_at L k hk] at h
    injection h with h
    rw [← h]
    exact letters_pos hL hz hk)
  obtain ⟨vh, vs, rfl, hh, hq⟩ := hv
  obtain ⟨AH, ch, rfl, -⟩ := RSl.form hh
  obtain ⟨AQ, cq, rfl, -⟩ := RSl.form hq
  have HLEN := Lib.hid (lettersOf_len L)
  clear hh hq hz hL
  go_enter Try.func31, Try.ntmps31
  go_wp2_with fail
  refine (HCK.out _ ((Below.refl _ _).alloc (Nat.le_refl _) _)).mono ?_
  rintro e w1 ⟨u, rfl, hu, hb1⟩
  have HB1 := Lib.hid (((Below.refl w.heap.size w).alloc (Nat.le_refl _) (.cells #[.slice AH L.raw.hands.length ch, .int .i64 L.raw.worn, .int .i64 L.raw.scr, .int .i64 L.raw.total, .slice AQ L.raw.squares.length cq] 25)).trans (hb1.mono (by simp)))
  obtain ⟨Au, cu, rfl⟩ := own_form hu
  obtain ⟨g, rfl, hg0, hg1, hcs⟩ := letters_cell hu hm1
  have HCS := Lib.hid (fun (k : Nat) (s : ByteArray) (h : (lettersOf L)[k]? = some s) => show w1.cell? ⟨g, k, none⟩ = some (.string s) by
    have hk : k < L.squares.length := by
      have := (List.getElem?_eq_some_iff.1 h).1
      rwa [lettersOf_len] at this
    rw [letters_at L k hk] at h
    injection h with h
    rw [← h]
    exact hcs k hk)
  obtain ⟨m, hm⟩ : ∃ m, m = L.squares.length := ⟨_, rfl⟩
  rw [← hm] at hm8 HLEN ⊢
  clear hb1 hu hcs hg0 hg1 hm1 hm
  go_wp2_with fail
  go_loop [6, 7] (fun s i => ∃ k : Nat, k ≤ m ∧ i = .int .i64 k ∧ s = .string (printTo ((lettersOf L).take k))) (fun _ i => m - (intOf i).toNat)
  case atStart => exact ⟨0, by omega, rfl, rfl⟩
  case round =>
    obtain ⟨k, hk, rfl, rfl⟩ := hrel
    have htl : ((lettersOf L).take k).length ≤ k := by simp; omega
    have hps := printTo_size ((lettersOf L).take k)
    by_cases hlt : k < m
    · obtain ⟨s, hs⟩ : ∃ s, (lettersOf L)[k]? = some s := ⟨_, List.getElem?_eq_getElem (by rw [HLEN.out]; exact hlt)⟩
      have hpos := HPOS.out k s hs
      have hcell := HCS.out k s hs
      obtain ⟨T, hT⟩ : ∃ T, T = printTo ((lettersOf L).take k) := ⟨_, rfl⟩
      have htk : printTo ((lettersOf L).take (k + 1)) = T ++ piece s := by
        have hk' : k < (lettersOf L).length := by rw [HLEN.out]; exact hlt
        rw [List.take_succ_eq_append_getElem hk', printTo_snoc, hT]
        rw [List.getElem?_eq_getElem hk'] at hs
        injection hs with hs
        rw [hs]
      rw [← hT] at hps ⊢
      have HTK := Lib.hid htk
      have hT40 : T.size ≤ 40 := by omega
      have k0 : (0 : Int) ≤ (k : Int) := by omega
      have k1 : (k : Int) < (m : Int) := by omega
      clear hT htk hs htl hps
      by_cases h1 : s.size = 1
      · go_wp2
        exact ⟨⟨k + 1, by omega, by go_num, by rw [HTK.out]; simp [piece, h1]⟩, by simp [intOf]; omega⟩
      · by_cases h2 : s.size ≤ 3
        · have h23 : s.size = 2 ∨ s.size = 3 := by omega
          have hz2 : s.size ≤ 3 := h2
          have HPC := Lib.hid (show piece s = (⟨#[123]⟩ : ByteArray) ++ s ++ ⟨#[125]⟩ by unfold piece; rw [if_neg h1, if_pos h23])
          have t1 : ((s.size : Int) == 1) = false := by rw [beq_eq_false_iff_ne]; omega
          clear h23
          go_wp2
          exact ⟨⟨k + 1, by omega, by go_num, by rw [HTK.out, HPC.out]; simp [ByteArray.append_assoc]⟩, by simp [intOf]; omega⟩
        · have HPC := Lib.hid (show piece s = (⟨#[45]⟩ : ByteArray) by unfold piece; rw [if_neg h1, if_neg (by omega)])
          have t1 : ((s.size : Int) == 1) = false := by rw [beq_eq_false_iff_ne]; omega
          go_wp2
          exact ⟨⟨k + 1, by omega, by go_num, by rw [HTK.out, HPC.out]⟩, by simp [intOf]; omega⟩
    · obtain rfl : k = m := by omega
      have e : (lettersOf L).take k = lettersOf L := List.take_of_length_le (by rw [HLEN.out]; exact Nat.le_refl _)
      rw [e]
      clear hps htl e
      go_wp2
      go_ret2
      exact ⟨rfl, HB1.out⟩
end
end Go.Proofs.Ythhajbgddifenaa
