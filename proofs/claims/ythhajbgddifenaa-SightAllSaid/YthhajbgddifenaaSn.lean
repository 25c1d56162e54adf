/- SightAll's helpers: a round of slim's loops. -/
import Derived.Test.YthhajbgddifenaaAx
import Derived.Test.YthhajbgddifenaaEw
import Derived.Test.YthhajbgddifenaaLq
namespace Go.Proofs.Ythhajbgddifenaa
open Go.RowKit Go.Shelf

def slimS (s : Nat) : Nat := max 1 (s &&& 15)
theorem slimS_idem : ∀ s : Fin 32, slimS (slimS s.val) = slimS s.val := by decide +kernel
theorem slimS_lt : ∀ s : Fin 32, 1 ≤ slimS s.val ∧ slimS s.val < 16 := by decide +kernel
theorem and15_idem : ∀ s : Fin 32, (s.val &&& 15) &&& 15 = s.val &&& 15 := by decide +kernel
theorem and15_lt (s : Nat) : s &&& 15 < 16 := Nat.lt_succ_of_le Nat.and_le_right
def slimH (h : Hand) : Hand := ⟨h.low, h.high, h.shapes.map fun s => ⟨s.letter, slimS s.strokes⟩⟩
def slimQ (q : List Light) : List Light := q.map fun x => ⟨x.shows &&& 15, x.seen &&& 15⟩
def slimL (L : Line) (t : Nat) : Line := ⟨L.hands.map slimH, L.worn, L.scr, t, L.squares.map slimQ⟩
theorem slim_q16 {q : List Light} (h : ∀ x ∈ q, diff x.seen x.shows = 0) : q16 (slimQ q) := by
  intro x hx
  obtain ⟨y, hy, rfl⟩ := List.mem_map.1 hx
  refine ⟨and15_lt _, and15_lt _, ?_⟩
  have h1 := h y hy
  apply Nat.eq_of_testBit_eq
  intro i
  have h2 : (diff y.seen y.shows).testBit i = false := by rw [h1, Nat.zero_testBit]
  rw [diff_bit] at h2
  show (diff (y.seen &&& 15) (y.shows &&& 15)).testBit i = _
  rw [diff_bit, Nat.testBit_and, Nat.testBit_and, Nat.zero_testBit]
  revert h2
  cases y.seen.testBit i <;> cases y.shows.testBit i <;> cases Nat.testBit 15 i <;> simp
theorem slim_slim {L : Line} (hok : L.ok) (hh : L.hands.length ≤ 2) (hs : ∀ h ∈ L.hands, h.shapes.length ≤ 3 ∧ ∀ s ∈ h.shapes, s.strokes < 32) (hq : L.squares.length ≤ 3) {t : Nat} (ht : t ≤ 40) : Slim (slimL L t) := by
  obtain ⟨a1, a2, a3, a4, a5, a6, a7, a8, a9⟩ := hok
  have hsh : ∀ h ∈ L.hands, (∀ s ∈ (slimH h).shapes, s.ok ∧ s.strokes < 16) := by
    intro h hh s hs'
    obtain ⟨x, hx, rfl⟩ := List.mem_map.1 hs'
    have h1 := slimS_lt ⟨x.strokes, (hs h hh).2 x hx⟩
    have h2 := (a3 h hh).2.2.2.2.2.1 x hx
    exact ⟨⟨h2.1, h2.2.1, h1.1, Nat.lt_trans (show slimS x.strokes < 16 from h1.2) (by decide)⟩, h1.2⟩
  refine ⟨⟨by simpa [slimL] using a1, by simpa [slimL] using a2, fun h hh => ?_, a4, a5, ht, by simpa [slimL] using a7, by simpa [slimL] using a8, fun q hq => ?_⟩, by simpa [slimL] using hh, by simpa [slimL] using hq, fun h hh => ?_, fun q hq => ?_⟩
  · obtain ⟨x, hx, rfl⟩ := List.mem_map.1 hh
    obtain ⟨b1, b2, b3, b4, b5, b6, b7⟩ := a3 x hx
    refine ⟨b1, b2, b3, by simpa [slimH] using b4, by simpa [slimH] using b5, fun s hs => (hsh x hx s hs).1, ?_⟩
    show List.Pairwise _ (x.shapes.map _)
    rw [List.pairwise_map]
    exact b7
  · obtain ⟨x, hx, rfl⟩ := List.mem_map.1 hq
    have h1 := a9 x hx
    have h2 := slim_q16 fun y hy => (h1.2 y hy).2.2
    refine ⟨by simpa [slimQ] using h1.1, fun y hy => ?_⟩
    obtain ⟨g1, g2, g3⟩ := h2 y hy
    exact ⟨by omega, by omega, g3⟩
  · obtain ⟨x, hx, rfl⟩ := List.mem_map.1 hh
    exact ⟨by simpa [slimH] using (hs x hx).1, fun s hs => (hsh x hx s hs).2⟩
  · obtain ⟨x, hx, rfl⟩ := List.mem_map.1 hq
    exact slim_q16 fun y hy => ((a9 x hx).2 y hy).2.2

/-- Which letters, and which lights, were made slim so far: all of those up to here. -/
def Past (i k j l : Nat) : Prop := j < i ∨ (j = i ∧ l < k)
/-- A hand's shapes, some of them slim already. -/
def ShSlim (B : Nat) (wr : World) (sv : Value) (S : List Shape) (P : Nat → Prop) : Prop :=
  ∃ b c cur, sv = .slice (some ⟨b, 0, none⟩) S.length c ∧ B ≤ b ∧ Blok wr b 86 cur ∧ ∀ k x, S[k]? = some x → x.strokes < 32 ∧ cur[k * 2]? = some (.int .u8 x.letter) ∧ ∃ s : Nat, cur[k * 2 + 1]? = some (.int .i64 s) ∧ (s = x.strokes ∨ s = slimS x.strokes) ∧ (P k → s = slimS x.strokes)
def HdSlim (B : Nat) (wr : World) (hb : Nat) (hs : List Hand) (P : Nat → Nat → Prop) : Prop :=
  ∃ cur, Blok wr hb 68 cur ∧ ∀ j h, hs[j]? = some h → cur[j * 3]? = some (.int .i64 h.low) ∧ cur[j * 3 + 1]? = some (.int .i64 h.high) ∧ ∃ sv, cur[j * 3 + 2]? = some sv ∧ ShSlim B wr sv h.shapes (P j)
def LtSlim (B : Nat) (wr : World) (lv : Value) (q : List Light) (P : Nat → Prop) : Prop :=
  (lv = .slice none 0 0 ∧ q = []) ∨ ∃ b c cur, lv = .slice (some ⟨b, 0, none⟩) q.length c ∧ B ≤ b ∧ Blok wr b 27 cur ∧ ∀ k x, q[k]? = some x → x.shows < 32 ∧ x.seen < 32 ∧ ∃ a s : Nat, cur[k * 2]? = some (.int .i64 a) ∧ cur[k * 2 + 1]? = some (.int .i64 s) ∧ (a = x.shows ∨ a = x.shows &&& 15) ∧ (s = x.seen ∨ s = x.seen &&& 15) ∧ (P k → a = x.shows &&& 15 ∧ s = x.seen &&& 15)
def SqSlim (B : Nat) (wr : World) (sb : Nat) (qs : List (List Light)) (P : Nat → Nat → Prop) : Prop :=
  ∃ cur, Blok wr sb 39 cur ∧ ∀ j q, qs[j]? = some q → ∃ lv, cur[j]? = some lv ∧ LtSlim B wr lv q (P j)
section
variable {B hb sb : Nat} {w wr w' : World} {hs : List Hand} {qs : List (List Light)} {P P' : Nat → Nat → Prop}
theorem HdSlim.start {hb n c : Nat} (h : HandsN B wr (.slice (some ⟨hb, 0, none⟩) n c) hs) (h32 : ∀ h ∈ hs, ∀ s ∈ h.shapes, s.strokes < 32) (hP : ∀ j k, ¬ P j k) : HdSlim B wr hb hs P := by
  obtain ⟨b, c, cur, svs, e, hbk, ht, hS, hN⟩ := h
  injection e with e1 e2 e3
  injection e1 with e1
  injection e1 with e1
  subst e1
  refine ⟨cur, hbk, fun j h hj => ?_⟩
  have hk := (List.getElem?_eq_some_iff.1 hj).1
  obtain ⟨sv, hsv⟩ : ∃ sv, svs[j]? = some sv := ⟨_, List.getElem?_eq_getElem (by rw [hS.1]; exact hk)⟩
  obtain ⟨h1, h2, h3⟩ := hdCells_get hs svs j h sv hj hsv
  rw [← ht, List.getElem?_take, if_pos (by omega)] at h1 h2 h3
  refine ⟨h1, h2, sv, h3, ?_⟩
  obtain ⟨bs, cs, scur, rfl, hbl, hst⟩ := hS.2 j h sv hj hsv
  refine ⟨bs, cs, scur, rfl, hN _ (List.mem_of_getElem? hsv) bs rfl, hbl, fun k x hx => ?_⟩
  have hkl := (List.getElem?_eq_some_iff.1 hx).1
  obtain ⟨g1, g2⟩ := shCells_get _ k x hx
  rw [← hst, List.getElem?_take, if_pos (by omega)] at g1 g2
  exact ⟨h32 h (List.mem_of_getElem? hj) x (List.mem_of_getElem? hx), g1, x.strokes, g2, .inl rfl, fun h => absurd h (hP j k)⟩
theorem SqSlim.start {n c : Nat} (h : SquaresN B wr (.slice (some ⟨sb, 0, none⟩) n c) qs) (h32 : ∀ q ∈ qs, ∀ x ∈ q, x.shows < 32 ∧ x.seen < 32) (hP : ∀ j k, ¬ P j k) : SqSlim B wr sb qs P := by
  obtain ⟨b, c, cur, lvs, e, hbk, ht, hS, hN⟩ := h
  injection e with e1 e2 e3
  injection e1 with e1
  injection e1 with e1
  subst e1
  refine ⟨cur, hbk, fun j q hj => ?_⟩
  have hk := (List.getElem?_eq_some_iff.1 hj).1
  obtain ⟨lv, hlv⟩ : ∃ lv, lvs[j]? = some lv := ⟨_, List.getElem?_eq_getElem (by rw [hS.1]; exact hk)⟩
  have h3 : cur[j]? = some lv := by
    rw [← ht, List.getElem?_take, if_pos (by omega)] at hlv
    exact hlv
  refine ⟨lv, h3, ?_⟩
  rcases hS.2 j q lv hj hlv with ⟨rfl, rfl⟩ | ⟨bs, cs, scur, rfl, hbl, hst⟩
  · exact .inl ⟨rfl, rfl⟩
  · refine .inr ⟨bs, cs, scur, rfl, hN _ (List.mem_of_getElem? hlv) bs rfl, hbl, fun k x hx => ?_⟩
    have hkl := (List.getElem?_eq_some_iff.1 hx).1
    obtain ⟨g1, g2⟩ := ltCells_get _ k x hx
    rw [← hst, List.getElem?_take, if_pos (by omega)] at g1 g2
    have h5 := h32 q (List.mem_of_getElem? hj) x (List.mem_of_getElem? hx)
    exact ⟨h5.1, h5.2, x.shows, x.seen, g1, g2, .inl rfl, .inl rfl, fun h => absurd h (hP j k)⟩
/-- What is not of these types may change. -/
theorem HdSlim.keep (h : HdSlim B wr hb hs P) (hk : ∀ b t cs, Blok wr b t cs → (t = 68 ∨ t = 86) → Blok w' b t cs) : HdSlim B w' hb hs P := by
  obtain ⟨cur, hbk, h⟩ := h
  refine ⟨cur, hk _ _ _ hbk (.inl rfl), fun j x hx => ?_⟩
  obtain ⟨h1, h2, sv, h3, b, c, sc, e, hB, hbl, h4⟩ := h j x hx
  exact ⟨h1, h2, sv, h3, b, c, sc, e, hB, hk _ _ _ hbl (.inr rfl), h4⟩
theorem SqSlim.keep (h : SqSlim B wr sb qs P) (hk : ∀ b t cs, Blok wr b t cs → (t = 39 ∨ t = 27) → Blok w' b t cs) : SqSlim B w' sb qs P := by
  obtain ⟨cur, hbk, h⟩ := h
  refine ⟨cur, hk _ _ _ hbk (.inl rfl), fun j x hx => ?_⟩
  obtain ⟨lv, h1, h2⟩ := h j x hx
  refine ⟨lv, h1, ?_⟩
  rcases h2 with h2 | ⟨b, c, sc, e, hB, hbl, h4⟩
  · exact .inl h2
  · exact .inr ⟨b, c, sc, e, hB, hk _ _ _ hbl (.inr rfl), h4⟩
end

theorem Blok.same {w : World} {b : Nat} {t t' : TypeId} {cs ds : List Value} (h : Blok w b t cs) (k : Blok w b t' ds) : cs = ds := by
  have h2 := h.symm.trans k
  injection h2 with h2
  injection h2 with h2
  exact List.toArray_inj h2
theorem slim_of {s x : Nat} (h32 : x < 32) (h : s = x ∨ s = slimS x) : slimS s = slimS x ∧ s < 32 := by
  rcases h with rfl | rfl
  · exact ⟨rfl, h32⟩
  · exact ⟨slimS_idem ⟨x, h32⟩, Nat.lt_trans (show slimS x < 16 from (slimS_lt ⟨x, h32⟩).2) (by decide)⟩
theorem and_of {s x : Nat} (h32 : x < 32) (h : s = x ∨ s = x &&& 15) : s &&& 15 = x &&& 15 ∧ s < 32 := by
  rcases h with rfl | rfl
  · exact ⟨rfl, h32⟩
  · exact ⟨and15_idem ⟨x, h32⟩, Nat.lt_trans (and15_lt x) (by decide)⟩
section
variable {B hb sb : Nat} {wr : World} {hs : List Hand} {qs : List (List Light)} {P : Nat → Nat → Prop}
/-- A letter is made slim. -/
theorem HdSlim.step (h : HdSlim B wr hb hs P) {i k : Nat} {H : Hand} {x : Shape} (hi : hs[i]? = some H) (hx : H.shapes[k]? = some x) :
    ∃ (b c s : Nat) (cur : List Value), wr.cell? ⟨hb, i * 3 + 2, none⟩ = some (.slice (some ⟨b, 0, none⟩) H.shapes.length c) ∧ wr.cell? ⟨b, k * 2 + 1, none⟩ = some (.int .i64 s) ∧ wr.frozen? ⟨b, k * 2 + 1, none⟩ = false ∧ s < 32 ∧ B ≤ b ∧ Blok wr b 86 cur ∧
      HdSlim B (wr.setCell ⟨b, k * 2 + 1, none⟩ (.int .i64 (slimS s))) hb hs (fun j l => P j l ∨ (j = i ∧ l = k)) := by
  obtain ⟨hcur, hbk, h⟩ := h
  obtain ⟨-, -, sv, h3, b, c, cur, rfl, hB, hbl, h4⟩ := h i H hi
  obtain ⟨h32, g1, s, g2, g3, g4⟩ := h4 k x hx
  obtain ⟨e1, s32⟩ := slim_of h32 g3
  refine ⟨b, c, s, cur, by rw [hbk.cell, h3], by rw [hbl.cell, g2], hbl.free _, s32, hB, hbl, hcur, hbk.far (p := ⟨b, k * 2 + 1, none⟩) (blok_ne hbk hbl (by decide)) _, fun j h' hj => ?_⟩
  obtain ⟨a1, a2, sv', a3, b', c', cur', rfl, hB', hbl', a4⟩ := h j h' hj
  refine ⟨a1, a2, _, a3, ?_⟩
  by_cases hbb : b' = b
  · subst hbb
    obtain rfl := hbl.same hbl'
    have hk2 : k * 2 + 1 < cur.length := (List.getElem?_eq_some_iff.1 g2).1
    refine ⟨b', c', _, rfl, hB', hbl.put (k * 2 + 1) _, fun l y hy => ?_⟩
    obtain ⟨y32, d1, s', d2, d3, d4⟩ := a4 l y hy
    refine ⟨y32, by rw [List.getElem?_set_ne (by omega)]; exact d1, ?_⟩
    by_cases hl : l = k
    · subst hl
      rw [g2] at d2
      have es : s' = s := by
        injection d2 with d2
        injection d2 with _ d2
        omega
      subst es
      refine ⟨slimS s', List.getElem?_set_self hk2, .inr (slim_of y32 d3).1, fun _ => (slim_of y32 d3).1⟩
    · exact ⟨s', by rw [List.getElem?_set_ne (by omega)]; exact d2, d3, fun hp => d4 (hp.elim id fun e => absurd e.2 hl)⟩
  · refine ⟨b', c', cur', rfl, hB', hbl'.far (p := ⟨b, k * 2 + 1, none⟩) hbb _, fun l y hy => ?_⟩
    obtain ⟨y32, d1, s', d2, d3, d4⟩ := a4 l y hy
    refine ⟨y32, d1, s', d2, d3, fun hp => d4 (hp.elim id fun e => ?_)⟩
    exfalso
    obtain ⟨rfl, _⟩ := e
    rw [h3] at a3
    injection a3 with a3
    injection a3 with a3
    injection a3 with a3
    injection a3 with a3
    exact hbb a3.symm
/-- A light is made slim. -/
theorem SqSlim.step (h : SqSlim B wr sb qs P) {i k : Nat} {q : List Light} {x : Light} (hi : qs[i]? = some q) (hx : q[k]? = some x) :
    ∃ (b c a s : Nat) (cur : List Value), wr.cell? ⟨sb, i, none⟩ = some (.slice (some ⟨b, 0, none⟩) q.length c) ∧ wr.cell? ⟨b, k * 2, none⟩ = some (.int .i64 a) ∧ wr.cell? ⟨b, k * 2 + 1, none⟩ = some (.int .i64 s) ∧ wr.frozen? ⟨b, k * 2, none⟩ = false ∧ wr.frozen? ⟨b, k * 2 + 1, none⟩ = false ∧ a < 32 ∧ s < 32 ∧ B ≤ b ∧ Blok wr b 27 cur ∧
      SqSlim B ((wr.setCell ⟨b, k * 2, none⟩ (.int .i64 ((a &&& 15 : Nat) : Int))).setCell ⟨b, k * 2 + 1, none⟩ (.int .i64 ((s &&& 15 : Nat) : Int))) sb qs (fun j l => P j l ∨ (j = i ∧ l = k)) := by
  obtain ⟨hcur, hbk, h⟩ := h
  obtain ⟨lv, h3, h4⟩ := h i q hi
  have hkq := (List.getElem?_eq_some_iff.1 hx).1
  rcases h4 with ⟨_, rfl⟩ | ⟨b, c, cur, rfl, hB, hbl, h4⟩
  · simp at hkq
  obtain ⟨x1, x2, a, s, g1, g2, g3, g4, g5⟩ := h4 k x hx
  obtain ⟨e1, a32⟩ := and_of x1 g3
  obtain ⟨e2, s32⟩ := and_of x2 g4
  have hne := blok_ne hbk hbl (by decide)
  refine ⟨b, c, a, s, cur, by rw [hbk.cell, h3], by rw [hbl.cell, g1], by rw [hbl.cell, g2], hbl.free _, hbl.free _, a32, s32, hB, hbl, hcur, (hbk.far (p := ⟨b, k * 2, none⟩) hne _).far (p := ⟨b, k * 2 + 1, none⟩) hne _, fun j q' hj => ?_⟩
  obtain ⟨lv', a3, a4⟩ := h j q' hj
  refine ⟨lv', a3, ?_⟩
  rcases a4 with a4 | ⟨b', c', cur', rfl, hB', hbl', a4⟩
  · exact .inl a4
  right
  by_cases hbb : b' = b
  · subst hbb
    obtain rfl := hbl.same hbl'
    have hk2 : k * 2 + 1 < cur.length := (List.getElem?_eq_some_iff.1 g2).1
    refine ⟨b', c', _, rfl, hB', (hbl.put (k * 2) _).put (k * 2 + 1) _, fun l y hy => ?_⟩
    obtain ⟨y1, y2, a', s', d1, d2, d3, d4, d5⟩ := a4 l y hy
    refine ⟨y1, y2, ?_⟩
    by_cases hl : l = k
    · subst hl
      rw [g1] at d1
      rw [g2] at d2
      have es : s' = s := by
        injection d2 with d2
        injection d2 with _ d2
        omega
      have ea : a' = a := by
        injection d1 with d1
        injection d1 with _ d1
        omega
      subst es ea
      refine ⟨a' &&& 15, s' &&& 15, ?_, ?_, .inr (and_of y1 d3).1, .inr (and_of y2 d4).1, fun _ => ⟨(and_of y1 d3).1, (and_of y2 d4).1⟩⟩
      · rw [List.getElem?_set_ne (by omega), List.getElem?_set_self (by omega)]
      · rw [List.getElem?_set_self (by simpa using hk2)]
    · exact ⟨a', s', by rw [List.getElem?_set_ne (by omega), List.getElem?_set_ne (by omega)]; exact d1, by rw [List.getElem?_set_ne (by omega), List.getElem?_set_ne (by omega)]; exact d2, d3, d4, fun hp => d5 (hp.elim id fun e => absurd e.2 hl)⟩
  · refine ⟨b', c', cur', rfl, hB', (hbl'.far (p := ⟨b, k * 2, none⟩) hbb _).far (p := ⟨b, k * 2 + 1, none⟩) hbb _, fun l y hy => ?_⟩
    obtain ⟨y1, y2, a', s', d1, d2, d3, d4, d5⟩ := a4 l y hy
    refine ⟨y1, y2, a', s', d1, d2, d3, d4, fun hp => d5 (hp.elim id fun e => ?_)⟩
    exfalso
    obtain ⟨rfl, _⟩ := e
    rw [h3] at a3
    injection a3 with a3
    injection a3 with a3
    injection a3 with a3
    injection a3 with a3
    exact hbb a3.symm
/-- All are slim. -/
theorem HdSlim.done {n c : Nat} (h : HdSlim B wr hb hs P) (hP : ∀ j h k x, hs[j]? = some h → h.shapes[k]? = some x → P j k) (hn : n = hs.length) : Hands wr wr.heap.size (.slice (some ⟨hb, 0, none⟩) n c) (hs.map slimH) := by
  obtain ⟨hcur, hbk, h⟩ := h
  refine ⟨some ⟨hb, 0, none⟩, c, by rw [List.length_map, hn], fun _ => ⟨hb, 0, rfl, hbk.size, fun j h' hj => ?_⟩⟩
  rw [List.getElem?_map, Option.map_eq_some_iff] at hj
  obtain ⟨H, hj, rfl⟩ := hj
  obtain ⟨a1, a2, sv, a3, b, c', cur, rfl, hB, hbl, a4⟩ := h j H hj
  rw [Nat.zero_add, hbk.cell, hbk.cell, hbk.cell, a1, a2, a3]
  refine ⟨rfl, rfl, _, rfl, some ⟨b, 0, none⟩, c', by simp [slimH], fun _ => ⟨b, 0, rfl, hbl.size, fun k y hy => ?_⟩⟩
  have hy' : (H.shapes.map fun s => (⟨s.letter, slimS s.strokes⟩ : Shape))[k]? = some y := hy
  rw [List.getElem?_map, Option.map_eq_some_iff] at hy'
  obtain ⟨x, hx, rfl⟩ := hy'
  obtain ⟨_, g1, s, g2, _, g4⟩ := a4 k x hx
  rw [Nat.zero_add, hbl.cell, hbl.cell, g1, g2, g4 (hP j H k x hj hx)]
  exact ⟨rfl, rfl⟩
theorem SqSlim.done {n c : Nat} (h : SqSlim B wr sb qs P) (hP : ∀ j q k x, qs[j]? = some q → q[k]? = some x → P j k) (hn : n = qs.length) : Squares wr wr.heap.size (.slice (some ⟨sb, 0, none⟩) n c) (qs.map slimQ) := by
  obtain ⟨hcur, hbk, h⟩ := h
  refine ⟨some ⟨sb, 0, none⟩, c, by rw [List.length_map, hn], fun _ => ⟨sb, 0, rfl, hbk.size, fun j q' hj => ?_⟩⟩
  rw [List.getElem?_map, Option.map_eq_some_iff] at hj
  obtain ⟨q, hj, rfl⟩ := hj
  obtain ⟨lv, a3, a4⟩ := h j q hj
  refine ⟨lv, by rw [Nat.zero_add, hbk.cell, a3], ?_⟩
  rcases a4 with ⟨rfl, rfl⟩ | ⟨b, c', cur, rfl, hB, hbl, a4⟩
  · exact ⟨none, 0, rfl, fun h => by simp [slimQ] at h⟩
  refine ⟨some ⟨b, 0, none⟩, c', by simp [slimQ], fun _ => ⟨b, 0, rfl, hbl.size, fun k y hy => ?_⟩⟩
  have hy' : (q.map fun x => (⟨x.shows &&& 15, x.seen &&& 15⟩ : Light))[k]? = some y := hy
  rw [List.getElem?_map, Option.map_eq_some_iff] at hy'
  obtain ⟨x, hx, rfl⟩ := hy'
  obtain ⟨_, _, a, s, g1, g2, _, _, g5⟩ := a4 k x hx
  obtain ⟨e1, e2⟩ := g5 (hP j q k x hj hx)
  rw [Nat.zero_add, hbl.cell, hbl.cell, g1, g2, e1, e2]
  exact ⟨rfl, rfl⟩
theorem HdSlim.imp {P' : Nat → Nat → Prop} (h : HdSlim B wr hb hs P) (hP : ∀ j k, P' j k → P j k) : HdSlim B wr hb hs P' := by
  obtain ⟨cur, hbk, h⟩ := h
  refine ⟨cur, hbk, fun j x hx => ?_⟩
  obtain ⟨h1, h2, sv, h3, b, c, sc, e, hB, hbl, h4⟩ := h j x hx
  refine ⟨h1, h2, sv, h3, b, c, sc, e, hB, hbl, fun k y hy => ?_⟩
  obtain ⟨d0, d1, s, d2, d3, d4⟩ := h4 k y hy
  exact ⟨d0, d1, s, d2, d3, fun hp => d4 (hP j k hp)⟩
theorem SqSlim.imp {P' : Nat → Nat → Prop} (h : SqSlim B wr sb qs P) (hP : ∀ j k, P' j k → P j k) : SqSlim B wr sb qs P' := by
  obtain ⟨cur, hbk, h⟩ := h
  refine ⟨cur, hbk, fun j x hx => ?_⟩
  obtain ⟨lv, h1, h2⟩ := h j x hx
  refine ⟨lv, h1, ?_⟩
  rcases h2 with h2 | ⟨b, c, sc, e, hB, hbl, h4⟩
  · exact .inl h2
  · refine .inr ⟨b, c, sc, e, hB, hbl, fun k y hy => ?_⟩
    obtain ⟨d0, d1, a, s, d2, d3, d4, d5, d6⟩ := h4 k y hy
    exact ⟨d0, d1, a, s, d2, d3, d4, d5, fun hp => d6 (hP j k hp)⟩
end
end Go.Proofs.Ythhajbgddifenaa
