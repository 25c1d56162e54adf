/- How a line that is being made lies in memory, each list in a block of its own. · What LineOf comes to, and what holds while it goes on. -/
import Derived.Test.YthhajbgddifenaaHo
import Derived.Test.YthhajbgddifenaaVi
namespace Go.Proofs.Ythhajbgddifenaa
section
open Go.RowKit Go.Shelf

/-- The cells of some hands, whose shapes lie at svs. -/
def hdCells : List Hand → List Value → List Value
  | h :: hs, sv :: svs => .int .i64 h.low :: .int .i64 h.high :: sv :: hdCells hs svs
  | _, _ => []
theorem hdCells_snoc : ∀ (hs : List Hand) (svs : List Value) (h : Hand) (sv : Value), svs.length = hs.length → hdCells (hs ++ [h]) (svs ++ [sv]) = hdCells hs svs ++ [.int .i64 h.low, .int .i64 h.high, sv] := by
  intro hs
  induction hs with
  | nil => intro svs h sv e; cases svs with
    | nil => rfl
    | cons _ _ => cases e
  | cons a hs ih => intro svs h sv e; cases svs with
    | nil => cases e
    | cons b svs => simp [hdCells, ih svs h sv (by simpa using e)]
theorem hdCells_get : ∀ (hs : List Hand) (svs : List Value) (k : Nat) (h : Hand) (sv : Value), hs[k]? = some h → svs[k]? = some sv →
    (hdCells hs svs)[k * 3]? = some (.int .i64 h.low) ∧ (hdCells hs svs)[k * 3 + 1]? = some (.int .i64 h.high) ∧ (hdCells hs svs)[k * 3 + 2]? = some sv := by
  intro hs
  induction hs with
  | nil => intro svs k h sv e; simp at e
  | cons a hs ih =>
    intro svs k h sv e1 e2
    cases svs with
    | nil => simp at e2
    | cons b svs =>
      cases k with
      | zero =>
        obtain rfl : a = h := by simpa using e1
        obtain rfl : b = sv := by simpa using e2
        exact ⟨rfl, rfl, rfl⟩
      | succ k =>
        have := ih svs k h sv (by simpa using e1) (by simpa using e2)
        rw [show (k + 1) * 3 = k * 3 + 1 + 1 + 1 by omega]
        exact this
theorem hdCells_len : ∀ (hs : List Hand) (svs : List Value), svs.length = hs.length → (hdCells hs svs).length = hs.length * 3 := by
  intro hs
  induction hs with
  | nil => intro svs _; rfl
  | cons a hs ih => intro svs e; cases svs with
    | nil => cases e
    | cons b svs => simp only [hdCells, List.length_cons, ih svs (by simpa using e)]; omega
/-- The shapes of each hand. -/
def HdShapes (w : World) (hs : List Hand) (svs : List Value) : Prop := svs.length = hs.length ∧ ∀ (k : Nat) (h : Hand) (sv : Value), hs[k]? = some h → svs[k]? = some sv → ShapesB w sv h.shapes
theorem HdShapes.kg {w w' : World} {g : Nat} {hs : List Hand} {svs : List Value} (h : HdShapes w hs svs) (hu : UrnAt w g) (hk : Kg g w w') : HdShapes w' hs svs := ⟨h.1, fun k a b h1 h2 => (h.2 k a b h1 h2).kg hu hk⟩
theorem HdShapes.below {w w' : World} {hs : List Hand} {svs : List Value} (h : HdShapes w hs svs) (hk : Below w.heap.size w w') : HdShapes w' hs svs := ⟨h.1, fun k a b h1 h2 => (h.2 k a b h1 h2).below hk⟩
theorem ShapesB.grown {w w' : World} {row : Option Nat} {v : Value} {S : List Shape} (h : ShapesB w v S) (hg : w.grownBy w' row) (hr : ∀ (b : Nat) (cs : List Value), Blok w b 86 cs → row ≠ some b) : ShapesB w' v S := by
  obtain ⟨b, c, cur, e, hb, ht⟩ := h
  exact ⟨b, c, cur, e, hb.grown hg (hr b cur hb), ht⟩
theorem ShapesB.far {w : World} {v : Value} {S : List Shape} (h : ShapesB w v S) {p : Addr} {t : TypeId} {cs : List Value} (hb' : Blok w p.block t cs) (ht' : t ≠ 86) (u : Value) : ShapesB (w.setCell p u) v S := by
  obtain ⟨b, c, cur, e, hb, ht⟩ := h
  refine ⟨b, c, cur, e, hb.far ?_ u, ht⟩
  rintro rfl
  have h2 := hb'.symm.trans hb
  injection h2 with h2
  injection h2 with _ h2
  exact ht' h2
theorem blok_ne {w : World} {a b : Nat} {t u : TypeId} {cs ds : List Value} (h : Blok w a t cs) (k : Blok w b u ds) (hne : t ≠ u) : a ≠ b := by
  rintro rfl
  have h2 := h.symm.trans k
  injection h2 with h2
  injection h2 with _ h2
  exact hne h2
/-- A slice of hands that has a block of its own. -/
def HandsB (w : World) (v : Value) (hs : List Hand) : Prop := ∃ b c cur svs, v = .slice (some ⟨b, 0, none⟩) hs.length c ∧ Blok w b 68 cur ∧ cur.take (hs.length * 3) = hdCells hs svs ∧ HdShapes w hs svs
theorem HandsB.of_own {w : World} {base n : Nat} {v : Value} {hs : List Hand} {svs : List Value} (h : w.ownsRow base 68 3 v n (hdCells hs svs)) (hn : n = hs.length) (h0 : 0 < n) (hS : HdShapes w hs svs) : HandsB w v hs := by
  rcases h.2 with ⟨_, h1⟩ | ⟨g, cap, cur, rfl, hbg, hg, hcap, _, hsz, htake⟩
  · omega
  · refine ⟨g, cap, cur.toList, svs, by rw [hn], by unfold Blok; rw [hg], ?_, hS⟩
    rw [← hn]
    exact htake
theorem HandsB.kg {w w' : World} {g : Nat} {v : Value} {hs : List Hand} (h : HandsB w v hs) (hu : UrnAt w g) (hk : Kg g w w') : HandsB w' v hs := by
  obtain ⟨b, c, cur, svs, e, hb, ht, hS⟩ := h
  exact ⟨b, c, cur, svs, e, hb.kg hk (hu.ne hb (by decide)), ht, hS.kg hu hk⟩
theorem HandsB.below {w w' : World} {v : Value} {hs : List Hand} (h : HandsB w v hs) (hk : Below w.heap.size w w') : HandsB w' v hs := by
  obtain ⟨b, c, cur, svs, e, hb, ht, hS⟩ := h
  exact ⟨b, c, cur, svs, e, hb.below hk hb.size, ht, hS.below hk⟩
theorem HandsB.grown {w w' : World} {row : Option Nat} {v : Value} {hs : List Hand} (h : HandsB w v hs) (hg : w.grownBy w' row) (hr : ∀ (b : Nat) (t : TypeId) (cs : List Value), Blok w b t cs → t = 86 ∨ t = 68 → row ≠ some b) : HandsB w' v hs := by
  obtain ⟨b, c, cur, svs, e, hb, ht, hS⟩ := h
  exact ⟨b, c, cur, svs, e, hb.grown hg (hr b _ cur hb (.inr rfl)), ht, hS.1, fun k a sv h1 h2 => (hS.2 k a sv h1 h2).grown hg fun b' cs' hb' => hr b' _ cs' hb' (.inl rfl)⟩
theorem HandsB.far {w : World} {v : Value} {hs : List Hand} (h : HandsB w v hs) {p : Addr} {t : TypeId} {cs : List Value} (hb' : Blok w p.block t cs) (h1 : t ≠ 86) (h2 : t ≠ 68) (u : Value) : HandsB (w.setCell p u) v hs := by
  obtain ⟨b, c, cur, svs, e, hb, ht, hS⟩ := h
  exact ⟨b, c, cur, svs, e, hb.far (blok_ne hb hb' (fun e => h2 e.symm)) u, ht, hS.1, fun k a sv g1 g2 => (hS.2 k a sv g1 g2).far hb' h1 u⟩
theorem HandsB.at_ {w : World} {v : Value} {hs : List Hand} (h : HandsB w v hs) : ∃ b c, v = .slice (some ⟨b, 0, none⟩) hs.length c ∧ ∀ (k : Nat) (a : Hand), hs[k]? = some a → ∃ sv, ShapesB w sv a.shapes ∧ w.cell? ⟨b, k * 3, none⟩ = some (.int .i64 a.low) ∧ w.cell? ⟨b, k * 3 + 1, none⟩ = some (.int .i64 a.high) ∧ w.cell? ⟨b, k * 3 + 2, none⟩ = some sv := by
  obtain ⟨b, c, cur, svs, e, hb, ht, hS⟩ := h
  refine ⟨b, c, e, fun k a ha => ?_⟩
  have hk := (List.getElem?_eq_some_iff.1 ha).1
  obtain ⟨sv, hsv⟩ : ∃ sv, svs[k]? = some sv := ⟨_, List.getElem?_eq_getElem (by rw [hS.1]; exact hk)⟩
  obtain ⟨h1, h2, h3⟩ := hdCells_get hs svs k a sv ha hsv
  rw [← ht, List.getElem?_take, if_pos (by omega)] at h1 h2 h3
  exact ⟨sv, hS.2 k a sv ha hsv, by rw [hb.cell, h1], by rw [hb.cell, h2], by rw [hb.cell, h3]⟩
theorem HandsB.hands {w : World} {v : Value} {hs : List Hand} (h : HandsB w v hs) : Hands w w.heap.size v hs := by
  obtain ⟨b, c, rfl, hk⟩ := h.at_
  refine ⟨_, _, rfl, fun h0 => ⟨b, 0, rfl, ?_, fun k x hx => ?_⟩⟩
  · obtain ⟨a, ha⟩ : ∃ a, hs[0]? = some a := ⟨_, List.getElem?_eq_getElem h0⟩
    obtain ⟨sv, _, hc, _⟩ := hk 0 a ha
    exact World.block_lt_of_cell? w _ hc
  · obtain ⟨sv, h1, h2, h3, h4⟩ := hk k x hx
    rw [Nat.zero_add]
    exact ⟨h2, h3, sv, h4, h1.shapes⟩

/-- As HdShapes and HandsB, the shapes' blocks being B or above. -/
def HdN (B : Nat) (w : World) (hs : List Hand) (svs : List Value) : Prop := HdShapes w hs svs ∧ ∀ sv ∈ svs, NewB B sv
theorem HdN.kg {B : Nat} {w w' : World} {g : Nat} {hs : List Hand} {svs : List Value} (h : HdN B w hs svs) (hu : UrnAt w g) (hk : Kg g w w') : HdN B w' hs svs := ⟨h.1.kg hu hk, h.2⟩
def HandsN (B : Nat) (w : World) (v : Value) (hs : List Hand) : Prop := ∃ b c cur svs, v = .slice (some ⟨b, 0, none⟩) hs.length c ∧ Blok w b 68 cur ∧ cur.take (hs.length * 3) = hdCells hs svs ∧ HdN B w hs svs
theorem HandsN.toB {B : Nat} {w : World} {v : Value} {hs : List Hand} (h : HandsN B w v hs) : HandsB w v hs := by
  obtain ⟨b, c, cur, svs, e, hb, ht, hS⟩ := h
  exact ⟨b, c, cur, svs, e, hb, ht, hS.1⟩
theorem HandsN.of_own {B : Nat} {w : World} {base n : Nat} {v : Value} {hs : List Hand} {svs : List Value} (h : w.ownsRow base 68 3 v n (hdCells hs svs)) (hn : n = hs.length) (h0 : 0 < n) (hS : HdN B w hs svs) : HandsN B w v hs := by
  rcases h.2 with ⟨_, h1⟩ | ⟨g, cap, cur, rfl, hbg, hg, hcap, _, hsz, htake⟩
  · omega
  · refine ⟨g, cap, cur.toList, svs, by rw [hn], by unfold Blok; rw [hg], ?_, hS⟩
    rw [← hn]
    exact htake
theorem HandsN.kg {B : Nat} {w w' : World} {g : Nat} {v : Value} {hs : List Hand} (h : HandsN B w v hs) (hu : UrnAt w g) (hk : Kg g w w') : HandsN B w' v hs := by
  obtain ⟨b, c, cur, svs, e, hb, ht, hS⟩ := h
  exact ⟨b, c, cur, svs, e, hb.kg hk (hu.ne hb (by decide)), ht, hS.kg hu hk⟩
theorem HandsN.below {B : Nat} {w w' : World} {v : Value} {hs : List Hand} (h : HandsN B w v hs) (hk : Below w.heap.size w w') : HandsN B w' v hs := by
  obtain ⟨b, c, cur, svs, e, hb, ht, hS⟩ := h
  exact ⟨b, c, cur, svs, e, hb.below hk hb.size, ht, hS.1.below hk, hS.2⟩
theorem HandsN.grown {B : Nat} {w w' : World} {row : Option Nat} {v : Value} {hs : List Hand} (h : HandsN B w v hs) (hg : w.grownBy w' row) (hr : ∀ (b : Nat) (t : TypeId) (cs : List Value), Blok w b t cs → t = 86 ∨ t = 68 → row ≠ some b) : HandsN B w' v hs := by
  obtain ⟨b, c, cur, svs, e, hb, ht, hS, hN⟩ := h
  exact ⟨b, c, cur, svs, e, hb.grown hg (hr b _ cur hb (.inr rfl)), ht, ⟨hS.1, fun k a sv h1 h2 => (hS.2 k a sv h1 h2).grown hg fun b' cs' hb' => hr b' _ cs' hb' (.inl rfl)⟩, hN⟩
theorem HandsN.far {B : Nat} {w : World} {v : Value} {hs : List Hand} (h : HandsN B w v hs) {p : Addr} {t : TypeId} {cs : List Value} (hb' : Blok w p.block t cs) (h1 : t ≠ 86) (h2 : t ≠ 68) (u : Value) : HandsN B (w.setCell p u) v hs := by
  obtain ⟨b, c, cur, svs, e, hb, ht, hS, hN⟩ := h
  exact ⟨b, c, cur, svs, e, hb.far (blok_ne hb hb' (fun e => h2 e.symm)) u, ht, ⟨hS.1, fun k a sv g1 g2 => (hS.2 k a sv g1 g2).far hb' h1 u⟩, hN⟩

/-- The cells of some lights. -/
def ltCells (q : List Light) : List Value := q.flatMap fun x => [.int .i64 x.shows, .int .i64 x.seen]
theorem ltCells_snoc (q : List Light) (x : Light) : ltCells (q ++ [x]) = ltCells q ++ [.int .i64 x.shows, .int .i64 x.seen] := by simp [ltCells]
theorem ltCells_get : ∀ (q : List Light) (k : Nat) (x : Light), q[k]? = some x → (ltCells q)[k * 2]? = some (.int .i64 x.shows) ∧ (ltCells q)[k * 2 + 1]? = some (.int .i64 x.seen) := by
  intro S
  induction S with
  | nil => intro k x h; simp at h
  | cons a S ih =>
    intro k x h
    cases k with
    | zero =>
      obtain rfl : a = x := by simpa using h
      exact ⟨rfl, rfl⟩
    | succ k =>
      have := ih k x (by simpa using h)
      rw [show (k + 1) * 2 = k * 2 + 1 + 1 by omega]
      exact this
/-- A slice of lights, nil or with a block of its own from base on. -/
def LightsB (w : World) (v : Value) (q : List Light) : Prop := (v = .slice none 0 0 ∧ q = []) ∨ ∃ b c cur, v = .slice (some ⟨b, 0, none⟩) q.length c ∧ Blok w b 27 cur ∧ cur.take (q.length * 2) = ltCells q
theorem LightsB.of_own {w : World} {base : Nat} {v : Value} {q : List Light} (h : w.ownsRow base 27 2 v q.length (ltCells q)) : LightsB w v q := by
  rcases h.2 with ⟨h0, h1⟩ | ⟨g, cap, cur, rfl, hbg, hg, hcap, _, hsz, htake⟩
  · exact .inl ⟨h0, List.eq_nil_of_length_eq_zero h1⟩
  · exact .inr ⟨g, cap, cur.toList, rfl, by unfold Blok; rw [hg], htake⟩
theorem LightsB.one {w : World} {v : Value} {q : List Light} (h : LightsB w v q) : v.oneCell' = true := by
  rcases h with ⟨rfl, _⟩ | ⟨b, c, cur, rfl, _⟩ <;> rfl
theorem LightsB.kg {w w' : World} {g : Nat} {v : Value} {q : List Light} (h : LightsB w v q) (hu : UrnAt w g) (hk : Kg g w w') : LightsB w' v q := by
  rcases h with h | ⟨b, c, cur, e, hb, ht⟩
  · exact .inl h
  · exact .inr ⟨b, c, cur, e, hb.kg hk (hu.ne hb (by decide)), ht⟩
theorem LightsB.below {w w' : World} {v : Value} {q : List Light} (h : LightsB w v q) (hk : Below w.heap.size w w') : LightsB w' v q := by
  rcases h with h | ⟨b, c, cur, e, hb, ht⟩
  · exact .inl h
  · exact .inr ⟨b, c, cur, e, hb.below hk hb.size, ht⟩
theorem LightsB.grown {w w' : World} {row : Option Nat} {v : Value} {q : List Light} (h : LightsB w v q) (hg : w.grownBy w' row) (hr : ∀ (b : Nat) (cs : List Value), Blok w b 27 cs → row ≠ some b) : LightsB w' v q := by
  rcases h with h | ⟨b, c, cur, e, hb, ht⟩
  · exact .inl h
  · exact .inr ⟨b, c, cur, e, hb.grown hg (hr b cur hb), ht⟩
theorem LightsB.far {w : World} {v : Value} {q : List Light} (h : LightsB w v q) {p : Addr} {t : TypeId} {cs : List Value} (hb' : Blok w p.block t cs) (h1 : t ≠ 27) (u : Value) : LightsB (w.setCell p u) v q := by
  rcases h with h | ⟨b, c, cur, e, hb, ht⟩
  · exact .inl h
  · exact .inr ⟨b, c, cur, e, hb.far (blok_ne hb hb' (fun e => h1 e.symm)) u, ht⟩
theorem LightsB.lights {w : World} {v : Value} {q : List Light} (h : LightsB w v q) : Lights w w.heap.size v q := by
  rcases h with ⟨rfl, rfl⟩ | ⟨b, c, cur, rfl, hb, ht⟩
  · exact ⟨none, 0, rfl, fun h => by simp at h⟩
  · refine ⟨_, _, rfl, fun _ => ⟨b, 0, rfl, hb.size, fun k x hx => ?_⟩⟩
    have hk := (List.getElem?_eq_some_iff.1 hx).1
    obtain ⟨h1, h2⟩ := ltCells_get q k x hx
    rw [← ht] at h1 h2
    rw [List.getElem?_take, if_pos (by omega)] at h1 h2
    rw [Nat.zero_add, hb.cell, hb.cell]
    exact ⟨h1, h2⟩
/-- As LightsB, the block being B or above. -/
def LightsN (B : Nat) (w : World) (v : Value) (q : List Light) : Prop := LightsB w v q ∧ NewB B v
theorem LightsN.of_own {B : Nat} {w : World} {base : Nat} {v : Value} {q : List Light} (h : w.ownsRow base 27 2 v q.length (ltCells q)) (hB : B ≤ base) : LightsN B w v q := ⟨LightsB.of_own h, NewB.of_own h hB⟩
theorem LightsN.one {B : Nat} {w : World} {v : Value} {q : List Light} (h : LightsN B w v q) : v.oneCell' = true := h.1.one
theorem LightsN.kg {B : Nat} {w w' : World} {g : Nat} {v : Value} {q : List Light} (h : LightsN B w v q) (hu : UrnAt w g) (hk : Kg g w w') : LightsN B w' v q := ⟨h.1.kg hu hk, h.2⟩
theorem LightsN.below {B : Nat} {w w' : World} {v : Value} {q : List Light} (h : LightsN B w v q) (hk : Below w.heap.size w w') : LightsN B w' v q := ⟨h.1.below hk, h.2⟩
theorem LightsN.grown {B : Nat} {w w' : World} {row : Option Nat} {v : Value} {q : List Light} (h : LightsN B w v q) (hg : w.grownBy w' row) (hr : ∀ (b : Nat) (cs : List Value), Blok w b 27 cs → row ≠ some b) : LightsN B w' v q := ⟨h.1.grown hg hr, h.2⟩
theorem LightsN.far {B : Nat} {w : World} {v : Value} {q : List Light} (h : LightsN B w v q) {p : Addr} {t : TypeId} {cs : List Value} (hb' : Blok w p.block t cs) (h1 : t ≠ 27) (u : Value) : LightsN B (w.setCell p u) v q := ⟨h.1.far hb' h1 u, h.2⟩
/-- The lights of each square, at the values lvs. -/
def SqLights (w : World) (qs : List (List Light)) (lvs : List Value) : Prop := lvs.length = qs.length ∧ ∀ (k : Nat) (q : List Light) (v : Value), qs[k]? = some q → lvs[k]? = some v → LightsB w v q
end
section
open Go.RowKit Go.Shelf

/-- A slice of squares that has a block of its own. -/
def SquaresB (w : World) (v : Value) (qs : List (List Light)) : Prop := ∃ b c cur lvs, v = .slice (some ⟨b, 0, none⟩) qs.length c ∧ Blok w b 39 cur ∧ cur.take qs.length = lvs ∧ SqLights w qs lvs
theorem SquaresB.of_own {w : World} {base n : Nat} {v : Value} {qs : List (List Light)} {lvs : List Value} (h : w.ownsRow base 39 1 v n lvs) (hn : n = qs.length) (h0 : 0 < n) (hS : SqLights w qs lvs) : SquaresB w v qs := by
  rcases h.2 with ⟨_, h1⟩ | ⟨g, cap, cur, rfl, hbg, hg, hcap, _, hsz, htake⟩
  · omega
  · refine ⟨g, cap, cur.toList, lvs, by rw [hn], by unfold Blok; rw [hg], ?_, hS⟩
    rw [← hn, ← htake, Nat.mul_one]
theorem SquaresB.at_ {w : World} {v : Value} {qs : List (List Light)} (h : SquaresB w v qs) : ∃ b c, v = .slice (some ⟨b, 0, none⟩) qs.length c ∧ b < w.heap.size ∧ ∀ (k : Nat) (q : List Light), qs[k]? = some q → ∃ lv, LightsB w lv q ∧ w.cell? ⟨b, k, none⟩ = some lv := by
  obtain ⟨b, c, cur, lvs, e, hb, ht, hS⟩ := h
  refine ⟨b, c, e, hb.size, fun k a ha => ?_⟩
  have hk := (List.getElem?_eq_some_iff.1 ha).1
  obtain ⟨lv, hlv⟩ : ∃ lv, lvs[k]? = some lv := ⟨_, List.getElem?_eq_getElem (by rw [hS.1]; exact hk)⟩
  refine ⟨lv, hS.2 k a lv ha hlv, ?_⟩
  rw [← ht, List.getElem?_take, if_pos (by omega)] at hlv
  rw [hb.cell, hlv]
theorem SquaresB.squares {w : World} {v : Value} {qs : List (List Light)} (h : SquaresB w v qs) : Squares w w.heap.size v qs := by
  obtain ⟨b, c, rfl, hb, hk⟩ := h.at_
  refine ⟨_, _, rfl, fun h0 => ⟨b, 0, rfl, hb, fun k x hx => ?_⟩⟩
  obtain ⟨lv, h1, h2⟩ := hk k x hx
  exact ⟨lv, by rw [Nat.zero_add]; exact h2, h1.lights⟩
theorem SqLights.kg {w w' : World} {g : Nat} {qs : List (List Light)} {lvs : List Value} (h : SqLights w qs lvs) (hu : UrnAt w g) (hk : Kg g w w') : SqLights w' qs lvs := ⟨h.1, fun k q v h1 h2 => (h.2 k q v h1 h2).kg hu hk⟩
theorem SqLights.below {w w' : World} {qs : List (List Light)} {lvs : List Value} (h : SqLights w qs lvs) (hk : Below w.heap.size w w') : SqLights w' qs lvs := ⟨h.1, fun k q v h1 h2 => (h.2 k q v h1 h2).below hk⟩
theorem SqLights.grown {w w' : World} {row : Option Nat} {qs : List (List Light)} {lvs : List Value} (h : SqLights w qs lvs) (hg : w.grownBy w' row) (hr : ∀ (b : Nat) (cs : List Value), Blok w b 27 cs → row ≠ some b) : SqLights w' qs lvs := ⟨h.1, fun k q v h1 h2 => (h.2 k q v h1 h2).grown hg hr⟩
theorem SqLights.far {w : World} {qs : List (List Light)} {lvs : List Value} (h : SqLights w qs lvs) {p : Addr} {t : TypeId} {cs : List Value} (hb' : Blok w p.block t cs) (h1 : t ≠ 27) (u : Value) : SqLights (w.setCell p u) qs lvs := ⟨h.1, fun k q v g1 g2 => (h.2 k q v g1 g2).far hb' h1 u⟩
theorem SqLights.snoc {w : World} {qs : List (List Light)} {lvs : List Value} {q : List Light} {v : Value} (h : SqLights w qs lvs) (hq : LightsB w v q) : SqLights w (qs ++ [q]) (lvs ++ [v]) := by
  refine ⟨by simp [h.1], fun k a b h1 h2 => ?_⟩
  by_cases hk : k < qs.length
  · rw [List.getElem?_append_left hk] at h1
    rw [List.getElem?_append_left (by rw [h.1]; exact hk)] at h2
    exact h.2 k a b h1 h2
  · have hk' : k = qs.length := by
      have := (List.getElem?_eq_some_iff.1 h1).1
      simp at this
      omega
    subst hk'
    have e1 : q = a := by simpa using h1
    rw [← h.1] at h2
    have e2 : v = b := by simpa using h2
    rw [← e1, ← e2]
    exact hq
/-- As SqLights and SquaresB, the lights' blocks being B or above. -/
def SqN (B : Nat) (w : World) (qs : List (List Light)) (lvs : List Value) : Prop := SqLights w qs lvs ∧ ∀ v ∈ lvs, NewB B v
theorem SqN.kg {B : Nat} {w w' : World} {g : Nat} {qs : List (List Light)} {lvs : List Value} (h : SqN B w qs lvs) (hu : UrnAt w g) (hk : Kg g w w') : SqN B w' qs lvs := ⟨h.1.kg hu hk, h.2⟩
theorem SqN.below {B : Nat} {w w' : World} {qs : List (List Light)} {lvs : List Value} (h : SqN B w qs lvs) (hk : Below w.heap.size w w') : SqN B w' qs lvs := ⟨h.1.below hk, h.2⟩
theorem SqN.grown {B : Nat} {w w' : World} {row : Option Nat} {qs : List (List Light)} {lvs : List Value} (h : SqN B w qs lvs) (hg : w.grownBy w' row) (hr : ∀ (b : Nat) (cs : List Value), Blok w b 27 cs → row ≠ some b) : SqN B w' qs lvs := ⟨h.1.grown hg hr, h.2⟩
theorem SqN.far {B : Nat} {w : World} {qs : List (List Light)} {lvs : List Value} (h : SqN B w qs lvs) {p : Addr} {t : TypeId} {cs : List Value} (hb' : Blok w p.block t cs) (h1 : t ≠ 27) (u : Value) : SqN B (w.setCell p u) qs lvs := ⟨h.1.far hb' h1 u, h.2⟩
theorem SqN.snoc {B : Nat} {w : World} {qs : List (List Light)} {lvs : List Value} {q : List Light} {v : Value} (h : SqN B w qs lvs) (hq : LightsN B w v q) : SqN B w (qs ++ [q]) (lvs ++ [v]) := ⟨h.1.snoc hq.1, fun x hx => by
  rcases List.mem_append.1 hx with hx | hx
  · exact h.2 x hx
  · obtain rfl : x = v := by simpa using hx
    exact hq.2⟩
def SquaresN (B : Nat) (w : World) (v : Value) (qs : List (List Light)) : Prop := ∃ b c cur lvs, v = .slice (some ⟨b, 0, none⟩) qs.length c ∧ Blok w b 39 cur ∧ cur.take qs.length = lvs ∧ SqN B w qs lvs
theorem SquaresN.of_own {B : Nat} {w : World} {base n : Nat} {v : Value} {qs : List (List Light)} {lvs : List Value} (h : w.ownsRow base 39 1 v n lvs) (hn : n = qs.length) (h0 : 0 < n) (hS : SqN B w qs lvs) : SquaresN B w v qs := by
  rcases h.2 with ⟨_, h1⟩ | ⟨g, cap, cur, rfl, hbg, hg, hcap, _, hsz, htake⟩
  · omega
  · refine ⟨g, cap, cur.toList, lvs, by rw [hn], by unfold Blok; rw [hg], ?_, hS⟩
    rw [← hn, ← htake, Nat.mul_one]
theorem SquaresN.toB {B : Nat} {w : World} {v : Value} {qs : List (List Light)} (h : SquaresN B w v qs) : SquaresB w v qs := by
  obtain ⟨b, c, cur, lvs, e, hb, ht, hS⟩ := h
  exact ⟨b, c, cur, lvs, e, hb, ht, hS.1⟩
/-- A line whose lists have blocks of their own. -/
def LineB (w : World) (v : Value) (L : Line) : Prop := ∃ vh vs, v = .agg #[vh, .int .i64 L.worn, .int .i64 L.scr, .int .i64 L.total, vs] ∧ HandsB w vh L.hands ∧ SquaresB w vs L.squares
theorem LineB.line {w : World} {v : Value} {L : Line} (h : LineB w v L) : LineAt w w.heap.size v L := by
  obtain ⟨vh, vs, rfl, h1, h2⟩ := h
  exact ⟨vh, vs, rfl, h1.hands, h2.squares⟩
/-- Numbers with a block of their own. -/
def IntsB (w : World) (v : Value) (l : List Nat) : Prop := ∃ b c cur, v = .slice (some ⟨b, 0, none⟩) l.length c ∧ Blok w b 3 cur ∧ cur.take l.length = l.map fun (x : Nat) => Value.int .i64 x
/-- The letters of a truth. -/
def lettersAt (S : List Shape) (ks : List Nat) : List UInt8 := ks.map fun k => UInt8.ofNat (S.getD k ⟨0, 0⟩).letter

/-- What LineOf comes to. -/
def LinePost (g hm sm qm : Nat) (w : World) (e : Ending) (w' : World) : Prop :=
  ∃ (L : Line) (lv vv : Value) (hand : Nat) (ks vs : List Nat) (lts : ByteArray) (H : Hand), e = .returned (.tuple #[lv, .agg #[.int .i64 hand, .string lts, vv]]) ∧ LineB w' lv L ∧ L.ok ∧ L.hands.length ≤ hm ∧ (∀ h ∈ L.hands, h.shapes.length ≤ sm ∧ ∀ s ∈ h.shapes, s.strokes < 32) ∧
    L.squares.length ≤ qm ∧ Truth L hand ks vs ∧ L.hands[hand]? = some H ∧ marksTo H.shapes ks vs L.squares.length ≤ L.total ∧ lts.data.toList = lettersAt H.shapes ks ∧ IntsB w' vv vs ∧ (∀ (b n c : Nat) (x0 x1 x2 x3 : Value), lv = .agg #[x0, x1, x2, x3, .slice (some ⟨b, 0, none⟩) n c] → w.heap.size ≤ b ∧ n ≤ c ∧ HandsN w.heap.size w' x0 L.hands ∧ SquaresN w.heap.size w' (.slice (some ⟨b, 0, none⟩) n c) L.squares) ∧ UrnAt w' g ∧ Kg g w w'

def lineCells (vh : Value) (worn scr total : Nat) (vs : Value) : List Value := [vh, .int .i64 worn, .int .i64 scr, .int .i64 total, vs]
def cutCells (hand : Nat) (lts : ByteArray) (vv : Value) : List Value := [.int .i64 hand, .string lts, vv]
def zeroLine : List Value := [.slice none 0 0, .int .i64 0, .int .i64 0, .int .i64 0, .slice none 0 0]
def zeroCut : List Value := [.int .i64 0, .string ⟨#[]⟩, .slice none 0 0]
/-- Within the first loop: the hands so far. -/
def HandsI (g : Nat) (w wr : World) (lb r8 r9 base worn scr hm sm k : Nat) : Prop :=
  ∃ (hs : List Hand) (svs : List Value) (vh : Value), Blok wr lb 25 (lineCells vh worn scr 0 (.slice none 0 0)) ∧ Blok wr r8 25 zeroLine ∧ Blok wr r9 32 zeroCut ∧ UrnAt wr g ∧ Kg g w wr ∧
    wr.ownsRow base 68 3 vh hs.length (hdCells hs svs) ∧ HdN w.heap.size wr hs svs ∧ (∀ h ∈ hs, h.ok ∧ h.shapes.length ≤ sm ∧ ∀ s ∈ h.shapes, s.strokes < 32) ∧ hs.length + k ≤ hm ∧ 1 ≤ hs.length + k ∧ base ≤ wr.heap.size
theorem info_hand : (Try.prog.info? 68).map (fun i => (i.zero, i.size, i.bytes)) = some (some (.agg #[.int .i64 0, .int .i64 0, .slice none 0 0]), 3, 40) := by kernel_rfl
theorem HdShapes.snoc {w : World} {hs : List Hand} {svs : List Value} {h : Hand} {sv : Value} (H : HdShapes w hs svs) (hq : ShapesB w sv h.shapes) : HdShapes w (hs ++ [h]) (svs ++ [sv]) := by
  refine ⟨by simp [H.1], fun k a b h1 h2 => ?_⟩
  by_cases hk : k < hs.length
  · rw [List.getElem?_append_left hk] at h1
    rw [List.getElem?_append_left (by rw [H.1]; exact hk)] at h2
    exact H.2 k a b h1 h2
  · have hk' : k = hs.length := by
      have := (List.getElem?_eq_some_iff.1 h1).1
      simp at this
      omega
    subst hk'
    have e1 : h = a := by simpa using h1
    rw [← H.1] at h2
    have e2 : sv = b := by simpa using h2
    rw [← e1, ← e2]
    exact hq
theorem ShapesB.one {w : World} {v : Value} {S : List Shape} (h : ShapesB w v S) : v.oneCell' = true := by
  obtain ⟨b, c, cur, rfl, _⟩ := h
  rfl
theorem own_ne_row {w : World} {base size n b : Nat} {e t : TypeId} {v : Value} {xs cs : List Value} (h : w.ownsRow base e size v n xs) (hb : Blok w b t cs) (hne : e ≠ t) : v.ownBlock ≠ some b := own_ne h hb hne
/-- A round of the first loop. -/
theorem HandsI.step {g : Nat} {w w5 w7 : World} {lb r8 r9 base worn scr hm sm k gg cap : Nat} {hs : List Hand} {svs : List Value} {vh sv : Value} {h : Hand} {o : Obj}
    (B8 : Blok w5 r8 25 zeroLine) (B9 : Blok w5 r9 32 zeroCut) (B7 : Blok w7 lb 25 (lineCells vh worn scr 0 (.slice none 0 0))) (hu : UrnAt w5 g) (hk : Kg g w w5) (hg : (w5.alloc o).grownBy w7 vh.ownBlock)
    (ho : w5.ownsRow base 68 3 vh hs.length (hdCells hs svs))
    (h7 : w7.ownsRow base 68 3 (.slice (some ⟨gg, 0, none⟩) (hs.length + 1) cap) (hs.length + 1) (hdCells hs svs ++ [.int .i64 h.low, .int .i64 h.high, sv]))
    (hS : HdN w.heap.size w5 hs svs) (hsv : ShapesN w.heap.size w5 sv h.shapes) (hok : ∀ h ∈ hs, h.ok ∧ h.shapes.length ≤ sm ∧ ∀ s ∈ h.shapes, s.strokes < 32) (hh : h.ok) (hh2 : h.shapes.length ≤ sm) (hh3 : ∀ s ∈ h.shapes, s.strokes < 32)
    (hlen : hs.length + k ≤ hm) (hb5 : base ≤ w5.heap.size) (h0 : w.heap.size ≤ base) (hk0 : 0 < k) (hne : r8 ≠ lb) (hw0 : w.heap.size ≤ lb) :
    HandsI g w (w7.setCell ⟨lb, 0, none⟩ (.slice (some ⟨gg, 0, none⟩) (hs.length + 1) cap)) lb r8 r9 base worn scr hm sm (k - 1) := by
  have hu5 := hu.alloc o
  have ho5 := ho.alloc o
  have hu7 := hu5.grown hg (hu5.own_ne ho5 (by decide))
  have hgu : g ≠ lb := (hu7.ne B7 (by decide)).symm
  have hS7 : HdShapes w7 hs svs := ⟨hS.1.1, fun k a b h1 h2 => ((hS.1.2 k a b h1 h2).below ((Below.refl _ _).alloc (Nat.le_refl _) o)).grown hg fun b cs hb => own_ne_row ho5 hb (by decide)⟩
  have hsv7 : ShapesB w7 sv h.shapes := (hsv.1.below ((Below.refl _ _).alloc (Nat.le_refl _) o)).grown hg fun b cs hb => own_ne_row ho5 hb (by decide)
  have hs8 := hS7.snoc hsv7
  refine ⟨hs ++ [h], svs ++ [sv], .slice (some ⟨gg, 0, none⟩) (hs.length + 1) cap, B7.put 0 _, ((B8.alloc o).grown hg (own_ne_row ho5 (B8.alloc o) (by decide))).far hne _, ?_, hu7.far hgu _,
    ((hk.alloc o).grown hg fun j e => Nat.le_trans h0 (ho5.lt j e).1).putNew hw0 _, ?_, ⟨⟨hs8.1, fun k a b h1 h2 => (hs8.2 k a b h1 h2).far (p := ⟨lb, 0, none⟩) B7 (by decide) _⟩, fun x hx => by
    rcases List.mem_append.1 hx with hx | hx
    · exact hS.2 x hx
    · obtain rfl : x = sv := by simpa using hx
      exact hsv.2⟩, ?_, ?_, ?_, ?_⟩
  · have b9 := (B9.alloc o).grown hg (own_ne_row ho5 (B9.alloc o) (by decide))
    exact b9.far (blok_ne b9 B7 (by decide)) _
  · have := own_far h7 (p := ⟨lb, 0, none⟩) (own_ne_row h7 B7 (by decide)) (.slice (some ⟨gg, 0, none⟩) (hs.length + 1) cap)
    rw [hdCells_snoc _ _ _ _ hS.1.1, List.length_append]
    exact this
  · intro a ha
    rcases List.mem_append.1 ha with ha | ha
    · exact hok a ha
    · obtain rfl : a = h := by simpa using ha
      exact ⟨hh, hh2, hh3⟩
  · rw [List.length_append]; simp; omega
  · rw [List.length_append]; simp; omega
  · have := hg.size
    simp [World.setCell] at this ⊢
    omega
end
end Go.Proofs.Ythhajbgddifenaa
