/- TopLettered, plainly: a note more, and one that contradicts; a hand's years put down anew; what the law holds. -/
import Derived.Test.YtmfjfjahemlhkaaGreatQa
namespace Go.Proofs.YtmfjfjahemlhkaaGreat
open Go.RowKit Dt

namespace Sg
theorem SquaresB.below {w w' : World} {v : Value} {qs : List (List Light)} (h : SquaresB w v qs) (hk : Below w.heap.size w w') : SquaresB w' v qs := by
  obtain ⟨b, c, cur, lvs, e, hb, ht, hS⟩ := h
  exact ⟨b, c, cur, lvs, e, hb.below hk hb.size, ht, hS.below hk⟩
theorem SquaresB.kg {w w' : World} {g : Nat} {v : Value} {qs : List (List Light)} (h : SquaresB w v qs) (hu : UrnAt w g) (hk : Kg g w w') : SquaresB w' v qs := by
  obtain ⟨b, c, cur, lvs, e, hb, ht, hS⟩ := h
  exact ⟨b, c, cur, lvs, e, hb.kg hk (hu.ne hb (by decide)), ht, hS.kg hu hk⟩
theorem SquaresB.far {w : World} {v : Value} {qs : List (List Light)} (h : SquaresB w v qs) {p : Addr} {t : TypeId} {cs : List Value} (hb' : Blok w p.block t cs) (h1 : t ≠ 99) (h2 : t ≠ 101) (u : Value) : SquaresB (w.setCell p u) v qs := by
  obtain ⟨b, c, cur, lvs, e, hb, ht, hS⟩ := h
  exact ⟨b, c, cur, lvs, e, hb.far (blok_ne hb hb' (fun e => h1 e.symm)) u, ht, hS.far hb' h2 u⟩
end Sg
theorem cmpS_len {s t : Nat} (h : cmpS s t ≤ 0) : (setTo s 8).length ≤ (setTo t 8).length := by
  unfold cmpS orI at h
  refine Nat.le_of_not_lt fun hlt => ?_
  have : cmpI ((setTo s 8).length : Int) ((setTo t 8).length : Int) = 1 := by
    unfold cmpI
    rw [if_neg (by omega), if_pos (by omega)]
  rw [this] at h
  simp at h
theorem one_bit : ∀ m, m < 8 → (setTo (2 ^ m) 8).length = 1 := by decide +kernel
theorem no_bit : ∀ s, s < 256 → (setTo s 8).length = 0 → s = 0 := by decide +kernel
/-- A note that contradicts the others: no more than this one is wrong. -/
theorem wrong_last {d : Dat} {n : Nt} {s : Nat} (h : (d.plus n).Ok) (hm : d.may) (hd : d.notes.length ≤ 7) (hs : Dat.Least (d.plus n) s) : (setTo s 8).length ≤ 1 ∧ ((setTo s 8).length = 0 ↔ (d.plus n).all ≠ []) := by
  have hl : (d.plus n).notes.length = d.notes.length + 1 := by simp [Dat.plus]
  constructor
  · have hms : Dat.mayS (d.plus n) (2 ^ d.notes.length) = true := by
      rw [mayS_iff h]
      obtain ⟨x, hx⟩ := hm
      refine ⟨x, hx.zero, hx.base, fun q hq => ?_⟩
      obtain ⟨i, hi, hb⟩ := kept_mem hq
      have him : i ≠ d.notes.length := by
        rintro rfl
        rw [Nat.testBit_two_pow_self] at hb
        cases hb
      have hil := (List.getElem?_eq_some_iff.1 hi).1
      have hi' : (d.notes ++ [n])[i]? = some q := hi
      rw [List.getElem?_append_left (by omega)] at hi'
      exact hx.notes q (List.mem_of_getElem? hi')
    have := cmpS_len (hs.least _ (by rw [hl]; exact Nat.pow_lt_pow_right (by omega) (by omega)) hms)
    rw [one_bit _ (by omega)] at this
    exact this
  · rw [← may_iff h]
    have hs8 : s < 256 := Nat.lt_of_lt_of_le hs.low (by rw [hl]; exact Nat.pow_le_pow_right (by omega) (show d.notes.length + 1 ≤ 8 by omega))
    constructor
    · intro h0
      have := no_bit s hs8 h0
      subst this
      obtain ⟨x, hx⟩ := (mayS_iff h 0).1 hs.may
      refine ⟨x, hx.zero, hx.base, fun q hq => ?_⟩
      obtain ⟨i, hi⟩ := List.getElem?_of_mem hq
      exact hx.notes q (mem_kept hi (by simp))
    · intro ⟨x, hx⟩
      have hms : Dat.mayS (d.plus n) 0 = true := by
        rw [mayS_iff h]
        refine ⟨x, hx.zero, hx.base, fun q hq => ?_⟩
        obtain ⟨i, hi, -⟩ := kept_mem hq
        exact hx.notes q (List.mem_of_getElem? hi)
      have := cmpS_len (hs.least 0 (Nat.two_pow_pos _) hms)
      have h0 : (setTo 0 8).length = 0 := by decide
      omega
/-- The note that a stone is of a span which has its true year. -/
theorem span_right {ys fs : List Int} {k : Nat} {y lo hi : Int} (hk : k < 6) (hy : ys[k]? = some y) (h1 : lo ≤ y) (h2 : y ≤ hi) : (spanN k lo hi).right (xOf ys fs) := by
  have e := xOf_stone ys fs k y hk hy
  simp [Nt.right, spanN]
  rw [e]
  exact ⟨h1, h2⟩
theorem span_within {d : Dat} {k : Nat} {lo hi : Int} (h : (d.plus (spanN k lo hi)).Ok) (hm : (d.plus (spanN k lo hi)).may) (hk : 1 + k < 10) : lo ≤ ((d.plus (spanN k lo hi)).span (1 + k)).1 ∧ ((d.plus (spanN k lo hi)).span (1 + k)).2 ≤ hi := by
  obtain ⟨⟨a, ha, h1⟩, ⟨b, hb, h2⟩, _⟩ := span_spec h hm (1 + k) hk
  have ra := ((plus_is a).1 ha).2
  have rb := ((plus_is b).1 hb).2
  simp [Nt.right, spanN] at ra rb
  omega
/-- A line in which a hand was in use in other years. -/
def putY (L : Sg.Line) (hand : Nat) (H : Sg.Hand) (a b : Int) : Sg.Line := { L with hands := L.hands.set hand { H with low := a, high := b } }
theorem putY_ok {L : Sg.Line} {hand : Nat} {H : Sg.Hand} {a b : Int} (hL : L.ok) (hH : L.hands[hand]? = some H) (h1 : -3000 ≤ a) (h2 : a ≤ b) (h3 : b ≤ 3000) : (putY L hand H a b).ok := by
  obtain ⟨c1, c2, c3, c4⟩ := hL
  refine ⟨by simp [putY]; exact c1, by simp [putY]; exact c2, fun h hh => ?_, c4⟩
  rcases List.mem_or_eq_of_mem_set hh with hh | rfl
  · exact c3 h hh
  · have hk := c3 H (List.mem_of_getElem? hH)
    exact ⟨h1, h2, h3, hk.2.2.2⟩
theorem putY_hand {L : Sg.Line} {hand : Nat} {H : Sg.Hand} {a b : Int} (hH : L.hands[hand]? = some H) : (putY L hand H a b).hands[hand]? = some { H with low := a, high := b } := by
  have := (List.getElem?_eq_some_iff.1 hH).1
  simp [putY, this]
theorem putY_truth {L : Sg.Line} {hand : Nat} {ks vs : List Nat} {H : Sg.Hand} {a b : Int} (h : Sg.Truth L hand ks vs) (hH : L.hands[hand]? = some H) : Sg.Truth (putY L hand H a b) hand ks vs := by
  refine ⟨by simp [putY]; exact h.hand_lt, h.len, h.len', fun i G q k v hG hq hk hv => ?_⟩
  rw [putY_hand hH] at hG
  injection hG with hG
  obtain ⟨s, h1, h2⟩ := h.sq i H q k v hH hq hk hv
  exact ⟨s, by rw [← hG]; exact h1, h2⟩
theorem fold_min {f : Nat → Int} {c : Int} : ∀ (hs : List Nat) (x : Int), c ≤ x → (∀ h ∈ hs, c ≤ f h) → c ≤ hs.foldl (fun a h => min a (f h)) x
  | [], x, h0, _ => h0
  | h :: hs, x, h0, hh => fold_min hs _ (by have := hh h (by simp); show c ≤ min x (f h); omega) (fun q hq => hh q (by simp [hq]))
theorem fold_max {f : Nat → Int} {c : Int} : ∀ (hs : List Nat) (x : Int), x ≤ c → (∀ h ∈ hs, f h ≤ c) → hs.foldl (fun a h => max a (f h)) x ≤ c
  | [], x, h0, _ => h0
  | h :: hs, x, h0, hh => fold_max hs _ (by have := hh h (by simp); show max x (f h) ≤ c; omega) (fun q hq => hh q (by simp [hq]))
/-- The years of a line that may be are years. -/
theorem years_span {L : Sg.Line} (hL : L.ok) (h : Sg.handsOf L ≠ []) : SpanOk (Sg.yearsOf L).1 (Sg.yearsOf L).2 := by
  have hb : ∀ k ∈ Sg.handsOf L, -3000 ≤ Sg.lowOf L k ∧ Sg.lowOf L k ≤ Sg.highOf L k ∧ Sg.highOf L k ≤ 3000 := by
    intro k hk
    have hlt := Sg.mem_hands_lt hk
    have hH : L.hands[k]? = some L.hands[k] := List.getElem?_eq_getElem hlt
    have := hL.2.2.1 _ (List.mem_of_getElem? hH)
    rw [Sg.low_at hH, Sg.high_at hH]
    exact ⟨this.1, this.2.1, this.2.2.1⟩
  cases hh : Sg.handsOf L with
  | nil => exact absurd hh h
  | cons k ks =>
    have hk := hb k (by rw [hh]; simp)
    have hm := Sg.years_hand (L := L) (h := k) (by rw [hh]; simp)
    have h1 : -3000 ≤ (Sg.yearsOf L).1 := by
      unfold Sg.yearsOf
      rw [hh]
      exact fold_min ks _ hk.1 (fun q hq => (hb q (by rw [hh]; simp [hq])).1)
    have h2 : (Sg.yearsOf L).2 ≤ 3000 := by
      unfold Sg.yearsOf
      rw [hh]
      exact fold_max ks _ hk.2.2 (fun q hq => (hb q (by rw [hh]; simp [hq])).2.2)
    unfold SpanOk
    omega
theorem hdCells_years : ∀ (hs : List Sg.Hand) (svs : List Value) (k : Nat) (H : Sg.Hand) (a b : Int), svs.length = hs.length → hs[k]? = some H →
    ((Sg.hdCells hs svs).set (k * 3) (.int .i64 a)).set (k * 3 + 1) (.int .i64 b) = Sg.hdCells (hs.set k { H with low := a, high := b }) svs
  | [], _, _, _, _, _, _, h => by simp at h
  | h :: hs, [], _, _, _, _, e, _ => by simp at e
  | h :: hs, sv :: svs, 0, H, a, b, _, hH => by simp [Sg.hdCells]
  | h :: hs, sv :: svs, k + 1, H, a, b, e, hH => by
    have ih := hdCells_years hs svs k H a b (by simpa using e) (by simpa using hH)
    rw [show (k + 1) * 3 = k * 3 + 1 + 1 + 1 by omega]
    simp [Sg.hdCells]
    rw [ih]
theorem hdCells_len : ∀ (hs : List Sg.Hand) (svs : List Value), svs.length = hs.length → (Sg.hdCells hs svs).length = hs.length * 3
  | [], _, _ => by simp [Sg.hdCells]
  | h :: hs, [], e => by simp at e
  | h :: hs, sv :: svs, e => by
    have := hdCells_len hs svs (by simpa using e)
    simp [Sg.hdCells, this]
    omega
theorem take_set2 {α : Type} (l : List α) (n i : Nat) (u v : α) (h : i + 1 < n) : ((l.set i u).set (i + 1) v).take n = ((l.take n).set i u).set (i + 1) v := by
  rw [List.take_set, List.take_set]
/-- A hand's years are stored. -/
theorem HandsB.years {W : World} {hb c hand : Nat} {hs : List Sg.Hand} {H : Sg.Hand} {a b : Int} (h : Sg.HandsB W (.slice (some ⟨hb, 0, none⟩) hs.length c) hs) (hH : hs[hand]? = some H) :
    Sg.HandsB ((W.setCell ⟨hb, hand * 3, none⟩ (.int .i64 a)).setCell ⟨hb, hand * 3 + 1, none⟩ (.int .i64 b)) (.slice (some ⟨hb, 0, none⟩) hs.length c) (hs.set hand { H with low := a, high := b }) := by
  obtain ⟨b', c', cur, svs, e, hbl, ht, hS⟩ := h
  injection e with e1 e2 e3
  injection e1 with e1
  injection e1 with e1
  subst e1
  subst e3
  have hk := (List.getElem?_eq_some_iff.1 hH).1
  refine ⟨hb, c, _, svs, by simp, (hbl.put (hand * 3) (.int .i64 a)).put (hand * 3 + 1) (.int .i64 b), ?_, by simp; exact hS.1, fun k h' sv g1 g2 => ?_⟩
  · rw [List.length_set, take_set2 _ _ _ _ _ (by omega), ht, hdCells_years hs svs hand H a b hS.1 hH]
  · have hfar : ∀ {sv : Value} {S : List Sg.Shape}, Sg.ShapesB W sv S → Sg.ShapesB ((W.setCell ⟨hb, hand * 3, none⟩ (.int .i64 a)).setCell ⟨hb, hand * 3 + 1, none⟩ (.int .i64 b)) sv S := fun hs => by
      have h1 := hs.far (p := ⟨hb, hand * 3, none⟩) hbl (by decide) (.int .i64 a)
      exact h1.far (p := ⟨hb, hand * 3 + 1, none⟩) (hbl.put (hand * 3) (.int .i64 a)) (by decide) (.int .i64 b)
    by_cases hkh : k = hand
    · subst hkh
      rw [List.getElem?_set_self hk] at g1
      injection g1 with g1
      subst g1
      exact hfar (hS.2 k H sv hH g2)
    · rw [List.getElem?_set_ne (fun e => hkh e.symm)] at g1
      exact hfar (hS.2 k h' sv g1 g2)
theorem SquaresB.years {W : World} {hb hand : Nat} {cs : List Value} {v : Value} {qs : List (List Sg.Light)} {a b : Int} (h : Sg.SquaresB W v qs) (hbl : Sg.Blok W hb 59 cs) :
    Sg.SquaresB ((W.setCell ⟨hb, hand * 3, none⟩ (.int .i64 a)).setCell ⟨hb, hand * 3 + 1, none⟩ (.int .i64 b)) v qs :=
  (h.far (p := ⟨hb, hand * 3, none⟩) hbl (by decide) (by decide) _).far (p := ⟨hb, hand * 3 + 1, none⟩) (hbl.put (hand * 3) (.int .i64 a)) (by decide) (by decide) _
/-- The dating, its truth and the urn, behind a store to a hand. -/
theorem LC.hand {w W : World} {g bd hb i : Nat} {d : Dat} {ys fs : List Int} {ve vn vy vf u : Value} {cs : List Value} (h : LC w g bd d ys fs ve vn vy vf W) (hb' : Blok W hb 59 cs) (hn : w.heap.size ≤ hb) : LC w g bd d ys fs ve vn vy vf (W.setCell ⟨hb, i, none⟩ u) := by
  have hF := Fx.of_putT (x := ⟨hb, i, none⟩) hb' u
  exact ⟨h.urn.far (h.urn.ne' hb' (by decide)) u, h.hg, h.below.setCell (p := ⟨hb, i, none⟩) hn u, h.kd.far (blok_ne h.kd hb' (by decide)) u, h.kw.far (blok_ne h.kw hb' (by decide)) u, h.dat.fx hF (fun _ t _ _ ht => by rcases ht with rfl | rfl | rfl <;> decide), own_fx h.oy hF (fun _ _ _ _ => by decide), own_fx h.of hF (fun _ _ _ _ => by decide), h.zd⟩
/-- What the law holds once the dating has been copied. -/
structure TL (w : World) (g : Nat) (K : List OBlok) (vy : Value) (ys : List Int) (bx : Nat) (x : Dat) (xe xn : Value) (R : List (Value × List (Int × Int))) (W : World) : Prop where
  urn : UrnAt W g
  hg : w.heap.size ≤ g
  below : Below w.heap.size w W
  bl : ∀ p ∈ K, p.t ≠ 71 ∧ p.t ≠ 64 ∧ p.b ≠ bx ∧ Blok W p.b p.t p.cs
  oy : IntsO W w.heap.size vy ys
  kx : Blok W bx 28 [.int .i64 x.stones, xe, xn]
  ge : w.heap.size ≤ bx
  es : SpansO W w.heap.size xe x.eras
  no : NotesO W w.heap.size xn x.notes
  ow : ∀ r ∈ R, SpansO W w.heap.size r.1 r.2
section
variable {w W W' : World} {g bx : Nat} {K : List OBlok} {vy xe xn : Value} {ys : List Int} {x : Dat} {R : List (Value × List (Int × Int))}
theorem TL.calls (h : TL w g K vy ys bx x xe xn R W) (hu : UrnAt W' g) (hk : Kg g W W') : TL w g K vy ys bx x xe xn R W' :=
  ⟨hu, h.hg, h.below.trans (hk.below h.below.size h.hg), fun p hp => ⟨(h.bl p hp).1, (h.bl p hp).2.1, (h.bl p hp).2.2.1, (h.bl p hp).2.2.2.kg hk (h.urn.ne (h.bl p hp).2.2.2 (h.bl p hp).1)⟩, own_kg h.oy h.urn (by decide) hk, h.kx.kg hk (h.urn.ne h.kx (by decide)), h.ge, own_kg h.es h.urn (by decide) hk, h.no.fx (Fx.of_kg hk h.urn) (fun _ _ _ => ⟨by decide, by decide⟩), fun r hr => own_kg (h.ow r hr) h.urn (by decide) hk⟩
theorem TL.to (h : TL w g K vy ys bx x xe xn R W) (hk : Below W.heap.size W W') : TL w g K vy ys bx x xe xn R W' := h.calls (h.urn.keep hk h.urn.size) (Kg.of_below hk)
theorem TL.alloc (h : TL w g K vy ys bx x xe xn R W) (o : Obj) : TL w g K vy ys bx x xe xn R (W.alloc o) := h.to ((Below.refl _ W).alloc (Nat.le_refl _) o)
theorem TL.drew (h : TL w g K vy ys bx x xe xn R W) : TL w g K vy ys bx x xe xn R W.drew := h.to (Below.refl _ W).drew
theorem TL.blok (h : TL w g K vy ys bx x xe xn R W) (k : Nat) {p : OBlok} (hp : K[k]? = some p) : Blok W p.b p.t p.cs := (h.bl p (List.mem_of_getElem? hp)).2.2.2
theorem TL.row (h : TL w g K vy ys bx x xe xn R W) (k : Nat) {r : Value × List (Int × Int)} (hr : R[k]? = some r) : SpansO W w.heap.size r.1 r.2 := h.ow r (List.mem_of_getElem? hr)
theorem TL.dat (h : TL w g K vy ys bx x xe xn R W) : DatO W w.heap.size (.agg #[.int .i64 x.stones, xe, xn]) x := ⟨xe, xn, rfl, h.es, h.no⟩
theorem TL.addK (h : TL w g K vy ys bx x xe xn R W) (p : OBlok) (h1 : p.t ≠ 71) (h2 : p.t ≠ 64) (h3 : p.b ≠ bx) (h4 : Blok W p.b p.t p.cs) : TL w g (K ++ [p]) vy ys bx x xe xn R W :=
  ⟨h.urn, h.hg, h.below, fun q hq => by
    rcases List.mem_append.1 hq with hq | hq
    · exact h.bl q hq
    · rw [List.mem_singleton.1 hq]; exact ⟨h1, h2, h3, h4⟩, h.oy, h.kx, h.ge, h.es, h.no, h.ow⟩
theorem TL.addR (h : TL w g K vy ys bx x xe xn R W) (r : Value × List (Int × Int)) (hr : SpansO W w.heap.size r.1 r.2) : TL w g K vy ys bx x xe xn (R ++ [r]) W :=
  ⟨h.urn, h.hg, h.below, h.bl, h.oy, h.kx, h.ge, h.es, h.no, fun q hq => by
    rcases List.mem_append.1 hq with hq | hq
    · exact h.ow q hq
    · rw [List.mem_singleton.1 hq]; exact hr⟩
/-- A note is appended: its row. -/
theorem TL.note {xn' vyx : Value} {n : Nt} {xs : List (Nt × Value)} (h : TL w g K vy ys bx x xe xn R W) (hxs : xs.map Prod.fst = x.notes) (hon : W.ownsRow w.heap.size 64 6 xn x.notes.length (cellsN xs)) (hyr : ∀ p ∈ xs, IntsO W w.heap.size p.2 p.1.years)
    (hg : W.grownBy W' xn.ownBlock) (hn : W'.ownsRow w.heap.size 64 6 xn' (x.notes.length + 1) (cellsN xs ++ ntL n vyx)) (hvy : IntsO W w.heap.size vyx n.years) :
    TL w g K vy ys bx (x.plus n) xe xn' R (W'.setCell ⟨bx, 2, none⟩ xn') := by
  have hb : ∀ {t : TypeId} {b : Nat} {cs : List Value}, t ≠ 64 → Blok W b t cs → Blok W' b t cs := fun ht h' => h'.grown hg (own_ne hon h' (fun e => ht e.symm))
  have hO : ∀ {base size n : Nat} {e : TypeId} {u : Value} {cs : List Value}, e ≠ 64 → W.ownsRow base e size u n cs → W'.ownsRow base e size u n cs := fun he h' => own_fx h' (Fx.of_grown hg) (fun b _ _ hb' => own_disj h' hon he b hb')
  have hkx : Blok W' bx 28 [.int .i64 x.stones, xe, xn] := hb (by decide) h.kx
  have hP : ∀ {base size n : Nat} {e : TypeId} {u : Value} {cs : List Value}, e ≠ 28 → W'.ownsRow base e size u n cs → (W'.setCell ⟨bx, 2, none⟩ xn').ownsRow base e size u n cs := fun he h' => own_far h' (own_ne h' hkx he) _
  have hu : UrnAt W' g := by
    obtain ⟨p, q, hu⟩ := h.urn
    exact ⟨p, q, hb (by decide) hu⟩
  have hbel : Below w.heap.size w W' := h.below.grown hg h.below.size (fun k hk => (hon.lt k hk).1)
  refine ⟨hu.far (hu.ne' hkx (by decide)) _, h.hg, hbel.setCell (p := ⟨bx, 2, none⟩) h.ge _, fun p hp => ⟨(h.bl p hp).1, (h.bl p hp).2.1, (h.bl p hp).2.2.1, (hb (h.bl p hp).2.1 (h.bl p hp).2.2.2).far (h.bl p hp).2.2.1 _⟩, hP (by decide) (hO (by decide) h.oy), hkx.put 2 xn', h.ge, hP (by decide) (hO (by decide) h.es), ⟨xs ++ [(n, vyx)], by rw [List.map_append, hxs]; rfl, ?_, fun p hp => ?_⟩, fun r hr => hP (by decide) (hO (by decide) (h.ow r hr))⟩
  · rw [cellsN_snoc]
    show (W'.setCell ⟨bx, 2, none⟩ xn').ownsRow w.heap.size 64 6 xn' (x.notes ++ [n]).length _
    rw [List.length_append]
    exact hP (by decide) hn
  · rcases List.mem_append.1 hp with hp | hp
    · exact hP (by decide) (hO (by decide) (hyr p hp))
    · rw [List.mem_singleton.1 hp]
      exact hP (by decide) (hO (by decide) hvy)
end
end Go.Proofs.YtmfjfjahemlhkaaGreat
