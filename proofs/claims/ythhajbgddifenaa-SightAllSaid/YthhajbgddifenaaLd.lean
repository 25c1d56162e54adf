/- How a line that is being made lies in memory, each list in a block of its own. -/
import Derived.Test.YthhajbgddifenaaHo
import Derived.Test.YthhajbgddifenaaVi
namespace Go.Proofs.Ythhajbgddifenaa
open Go.RowKit Go.Shelf

/-- The cells of some hands, whose shapes lie at svs. -/
def hdCells : List Hand → List Value → List Value
  | h :: hs, sv :: svs => .int .i64 h.low :: .int .i64 h.high :: sv :: hdCells hs svs
  | _, _ => []
theorem hdCells_snoc : ∀ (hs : List Hand) (svs : List Value) (h : Hand) (sv : Value), svs.length = hs.length → hdCells (hs ++ [h]) (svs ++ [sv]) = hdCells hs svs ++ [.int .i64 h.low, .int .i64 h.high, sv] := by
  intro hs
  induction hs with
  | nil => intro svs h sv e; cases svs with
    | nil => rfl
    | cons _ _ => cases e
  | cons a hs ih => intro svs h sv e; cases svs with
    | nil => cases e
    | cons b svs => simp [hdCells, ih svs h sv (by simpa using e)]
theorem hdCells_get : ∀ (hs : List Hand) (svs : List Value) (k : Nat) (h : Hand) (sv : Value), hs[k]? = some h → svs[k]? = some sv →
    (hdCells hs svs)[k * 3]? = some (.int .i64 h.low) ∧ (hdCells hs svs)[k * 3 + 1]? = some (.int .i64 h.high) ∧ (hdCells hs svs)[k * 3 + 2]? = some sv := by
  intro hs
  induction hs with
  | nil => intro svs k h sv e; simp at e
  | cons a hs ih =>
    intro svs k h sv e1 e2
    cases svs with
    | nil => simp at e2
    | cons b svs =>
      cases k with
      | zero =>
        obtain rfl : a = h := by simpa using e1
        obtain rfl : b = sv := by simpa using e2
        exact ⟨rfl, rfl, rfl⟩
      | succ k =>
        have := ih svs k h sv (by simpa using e1) (by simpa using e2)
        rw [show (k + 1) * 3 = k * 3 + 1 + 1 + 1 by omega]
        exact this
theorem hdCells_len : ∀ (hs : List Hand) (svs : List Value), svs.length = hs.length → (hdCells hs svs).length = hs.length * 3 := by
  intro hs
  induction hs with
  | nil => intro svs _; rfl
  | cons a hs ih => intro svs e; cases svs with
    | nil => cases e
    | cons b svs => simp only [hdCells, List.length_cons, ih svs (by simpa using e)]; omega
/-- The shapes of each hand. -/
def HdShapes (w : World) (hs : List Hand) (svs : List Value) : Prop := svs.length = hs.length ∧ ∀ (k : Nat) (h : Hand) (sv : Value), hs[k]? = some h → svs[k]? = some sv → ShapesB w sv h.shapes
theorem HdShapes.kg {w w' : World} {g : Nat} {hs : List Hand} {svs : List Value} (h : HdShapes w hs svs) (hu : UrnAt w g) (hk : Kg g w w') : HdShapes w' hs svs := ⟨h.1, fun k a b h1 h2 => (h.2 k a b h1 h2).kg hu hk⟩
theorem HdShapes.below {w w' : World} {hs : List Hand} {svs : List Value} (h : HdShapes w hs svs) (hk : Below w.heap.size w w') : HdShapes w' hs svs := ⟨h.1, fun k a b h1 h2 => (h.2 k a b h1 h2).below hk⟩
theorem ShapesB.grown {w w' : World} {row : Option Nat} {v : Value} {S : List Shape} (h : ShapesB w v S) (hg : w.grownBy w' row) (hr : ∀ (b : Nat) (cs : List Value), Blok w b 86 cs → row ≠ some b) : ShapesB w' v S := by
  obtain ⟨b, c, cur, e, hb, ht⟩ := h
  exact ⟨b, c, cur, e, hb.grown hg (hr b cur hb), ht⟩
theorem ShapesB.far {w : World} {v : Value} {S : List Shape} (h : ShapesB w v S) {p : Addr} {t : TypeId} {cs : List Value} (hb' : Blok w p.block t cs) (ht' : t ≠ 86) (u : Value) : ShapesB (w.setCell p u) v S := by
  obtain ⟨b, c, cur, e, hb, ht⟩ := h
  refine ⟨b, c, cur, e, hb.far ?_ u, ht⟩
  rintro rfl
  have h2 := hb'.symm.trans hb
  injection h2 with h2
  injection h2 with _ h2
  exact ht' h2
theorem blok_ne {w : World} {a b : Nat} {t u : TypeId} {cs ds : List Value} (h : Blok w a t cs) (k : Blok w b u ds) (hne : t ≠ u) : a ≠ b := by
  rintro rfl
  have h2 := h.symm.trans k
  injection h2 with h2
  injection h2 with _ h2
  exact hne h2
/-- A slice of hands that has a block of its own. -/
def HandsB (w : World) (v : Value) (hs : List Hand) : Prop := ∃ b c cur svs, v = .slice (some ⟨b, 0, none⟩) hs.length c ∧ Blok w b 68 cur ∧ cur.take (hs.length * 3) = hdCells hs svs ∧ HdShapes w hs svs
theorem HandsB.of_own {w : World} {base n : Nat} {v : Value} {hs : List Hand} {svs : List Value} (h : w.ownsRow base 68 3 v n (hdCells hs svs)) (hn : n = hs.length) (h0 : 0 < n) (hS : HdShapes w hs svs) : HandsB w v hs := by
  rcases h.2 with ⟨_, h1⟩ | ⟨g, cap, cur, rfl, hbg, hg, hcap, _, hsz, htake⟩
  · omega
  · refine ⟨g, cap, cur.toList, svs, by rw [hn], by unfold Blok; rw [hg], ?_, hS⟩
    rw [← hn]
    exact htake
theorem HandsB.kg {w w' : World} {g : Nat} {v : Value} {hs : List Hand} (h : HandsB w v hs) (hu : UrnAt w g) (hk : Kg g w w') : HandsB w' v hs := by
  obtain ⟨b, c, cur, svs, e, hb, ht, hS⟩ := h
  exact ⟨b, c, cur, svs, e, hb.kg hk (hu.ne hb (by decide)), ht, hS.kg hu hk⟩
theorem HandsB.below {w w' : World} {v : Value} {hs : List Hand} (h : HandsB w v hs) (hk : Below w.heap.size w w') : HandsB w' v hs := by
  obtain ⟨b, c, cur, svs, e, hb, ht, hS⟩ := h
  exact ⟨b, c, cur, svs, e, hb.below hk hb.size, ht, hS.below hk⟩
theorem HandsB.grown {w w' : World} {row : Option Nat} {v : Value} {hs : List Hand} (h : HandsB w v hs) (hg : w.grownBy w' row) (hr : ∀ (b : Nat) (t : TypeId) (cs : List Value), Blok w b t cs → t = 86 ∨ t = 68 → row ≠ some b) : HandsB w' v hs := by
  obtain ⟨b, c, cur, svs, e, hb, ht, hS⟩ := h
  exact ⟨b, c, cur, svs, e, hb.grown hg (hr b _ cur hb (.inr rfl)), ht, hS.1, fun k a sv h1 h2 => (hS.2 k a sv h1 h2).grown hg fun b' cs' hb' => hr b' _ cs' hb' (.inl rfl)⟩
theorem HandsB.far {w : World} {v : Value} {hs : List Hand} (h : HandsB w v hs) {p : Addr} {t : TypeId} {cs : List Value} (hb' : Blok w p.block t cs) (h1 : t ≠ 86) (h2 : t ≠ 68) (u : Value) : HandsB (w.setCell p u) v hs := by
  obtain ⟨b, c, cur, svs, e, hb, ht, hS⟩ := h
  exact ⟨b, c, cur, svs, e, hb.far (blok_ne hb hb' (fun e => h2 e.symm)) u, ht, hS.1, fun k a sv g1 g2 => (hS.2 k a sv g1 g2).far hb' h1 u⟩
theorem HandsB.at_ {w : World} {v : Value} {hs : List Hand} (h : HandsB w v hs) : ∃ b c, v = .slice (some ⟨b, 0, none⟩) hs.length c ∧ ∀ (k : Nat) (a : Hand), hs[k]? = some a → ∃ sv, ShapesB w sv a.shapes ∧ w.cell? ⟨b, k * 3, none⟩ = some (.int .i64 a.low) ∧ w.cell? ⟨b, k * 3 + 1, none⟩ = some (.int .i64 a.high) ∧ w.cell? ⟨b, k * 3 + 2, none⟩ = some sv := by
  obtain ⟨b, c, cur, svs, e, hb, ht, hS⟩ := h
  refine ⟨b, c, e, fun k a ha => ?_⟩
  have hk := (List.getElem?_eq_some_iff.1 ha).1
  obtain ⟨sv, hsv⟩ : ∃ sv, svs[k]? = some sv := ⟨_, List.getElem?_eq_getElem (by rw [hS.1]; exact hk)⟩
  obtain ⟨h1, h2, h3⟩ := hdCells_get hs svs k a sv ha hsv
  rw [← ht, List.getElem?_take, if_pos (by omega)] at h1 h2 h3
  exact ⟨sv, hS.2 k a sv ha hsv, by rw [hb.cell, h1], by rw [hb.cell, h2], by rw [hb.cell, h3]⟩
theorem HandsB.hands {w : World} {v : Value} {hs : List Hand} (h : HandsB w v hs) : Hands w w.heap.size v hs := by
  obtain ⟨b, c, rfl, hk⟩ := h.at_
  refine ⟨_, _, rfl, fun h0 => ⟨b, 0, rfl, ?_, fun k x hx => ?_⟩⟩
  · obtain ⟨a, ha⟩ : ∃ a, hs[0]? = some a := ⟨_, List.getElem?_eq_getElem h0⟩
    obtain ⟨sv, _, hc, _⟩ := hk 0 a ha
    exact World.block_lt_of_cell? w _ hc
  · obtain ⟨sv, h1, h2, h3, h4⟩ := hk k x hx
    rw [Nat.zero_add]
    exact ⟨h2, h3, sv, h4, h1.shapes⟩

/-- As HdShapes and HandsB, the shapes' blocks being B or above. -/
def HdN (B : Nat) (w : World) (hs : List Hand) (svs : List Value) : Prop := HdShapes w hs svs ∧ ∀ sv ∈ svs, NewB B sv
theorem HdN.kg {B : Nat} {w w' : World} {g : Nat} {hs : List Hand} {svs : List Value} (h : HdN B w hs svs) (hu : UrnAt w g) (hk : Kg g w w') : HdN B w' hs svs := ⟨h.1.kg hu hk, h.2⟩
def HandsN (B : Nat) (w : World) (v : Value) (hs : List Hand) : Prop := ∃ b c cur svs, v = .slice (some ⟨b, 0, none⟩) hs.length c ∧ Blok w b 68 cur ∧ cur.take (hs.length * 3) = hdCells hs svs ∧ HdN B w hs svs
theorem HandsN.toB {B : Nat} {w : World} {v : Value} {hs : List Hand} (h : HandsN B w v hs) : HandsB w v hs := by
  obtain ⟨b, c, cur, svs, e, hb, ht, hS⟩ := h
  exact ⟨b, c, cur, svs, e, hb, ht, hS.1⟩
theorem HandsN.of_own {B : Nat} {w : World} {base n : Nat} {v : Value} {hs : List Hand} {svs : List Value} (h : w.ownsRow base 68 3 v n (hdCells hs svs)) (hn : n = hs.length) (h0 : 0 < n) (hS : HdN B w hs svs) : HandsN B w v hs := by
  rcases h.2 with ⟨_, h1⟩ | ⟨g, cap, cur, rfl, hbg, hg, hcap, _, hsz, htake⟩
  · omega
  · refine ⟨g, cap, cur.toList, svs, by rw [hn], by unfold Blok; rw [hg], ?_, hS⟩
    rw [← hn]
    exact htake
theorem HandsN.kg {B : Nat} {w w' : World} {g : Nat} {v : Value} {hs : List Hand} (h : HandsN B w v hs) (hu : UrnAt w g) (hk : Kg g w w') : HandsN B w' v hs := by
  obtain ⟨b, c, cur, svs, e, hb, ht, hS⟩ := h
  exact ⟨b, c, cur, svs, e, hb.kg hk (hu.ne hb (by decide)), ht, hS.kg hu hk⟩
theorem HandsN.below {B : Nat} {w w' : World} {v : Value} {hs : List Hand} (h : HandsN B w v hs) (hk : Below w.heap.size w w') : HandsN B w' v hs := by
  obtain ⟨b, c, cur, svs, e, hb, ht, hS⟩ := h
  exact ⟨b, c, cur, svs, e, hb.below hk hb.size, ht, hS.1.below hk, hS.2⟩
theorem HandsN.grown {B : Nat} {w w' : World} {row : Option Nat} {v : Value} {hs : List Hand} (h : HandsN B w v hs) (hg : w.grownBy w' row) (hr : ∀ (b : Nat) (t : TypeId) (cs : List Value), Blok w b t cs → t = 86 ∨ t = 68 → row ≠ some b) : HandsN B w' v hs := by
  obtain ⟨b, c, cur, svs, e, hb, ht, hS, hN⟩ := h
  exact ⟨b, c, cur, svs, e, hb.grown hg (hr b _ cur hb (.inr rfl)), ht, ⟨hS.1, fun k a sv h1 h2 => (hS.2 k a sv h1 h2).grown hg fun b' cs' hb' => hr b' _ cs' hb' (.inl rfl)⟩, hN⟩
theorem HandsN.far {B : Nat} {w : World} {v : Value} {hs : List Hand} (h : HandsN B w v hs) {p : Addr} {t : TypeId} {cs : List Value} (hb' : Blok w p.block t cs) (h1 : t ≠ 86) (h2 : t ≠ 68) (u : Value) : HandsN B (w.setCell p u) v hs := by
  obtain ⟨b, c, cur, svs, e, hb, ht, hS, hN⟩ := h
  exact ⟨b, c, cur, svs, e, hb.far (blok_ne hb hb' (fun e => h2 e.symm)) u, ht, ⟨hS.1, fun k a sv g1 g2 => (hS.2 k a sv g1 g2).far hb' h1 u⟩, hN⟩

/-- The cells of some lights. -/
def ltCells (q : List Light) : List Value := q.flatMap fun x => [.int .i64 x.shows, .int .i64 x.seen]
theorem ltCells_snoc (q : List Light) (x : Light) : ltCells (q ++ [x]) = ltCells q ++ [.int .i64 x.shows, .int .i64 x.seen] := by simp [ltCells]
theorem ltCells_get : ∀ (q : List Light) (k : Nat) (x : Light), q[k]? = some x → (ltCells q)[k * 2]? = some (.int .i64 x.shows) ∧ (ltCells q)[k * 2 + 1]? = some (.int .i64 x.seen) := by
  intro S
  induction S with
  | nil => intro k x h; simp at h
  | cons a S ih =>
    intro k x h
    cases k with
    | zero =>
      obtain rfl : a = x := by simpa using h
      exact ⟨rfl, rfl⟩
    | succ k =>
      have := ih k x (by simpa using h)
      rw [show (k + 1) * 2 = k * 2 + 1 + 1 by omega]
      exact this
/-- A slice of lights, nil or with a block of its own from base on. -/
def LightsB (w : World) (v : Value) (q : List Light) : Prop := (v = .slice none 0 0 ∧ q = []) ∨ ∃ b c cur, v = .slice (some ⟨b, 0, none⟩) q.length c ∧ Blok w b 27 cur ∧ cur.take (q.length * 2) = ltCells q
theorem LightsB.of_own {w : World} {base : Nat} {v : Value} {q : List Light} (h : w.ownsRow base 27 2 v q.length (ltCells q)) : LightsB w v q := by
  rcases h.2 with ⟨h0, h1⟩ | ⟨g, cap, cur, rfl, hbg, hg, hcap, _, hsz, htake⟩
  · exact .inl ⟨h0, List.eq_nil_of_length_eq_zero h1⟩
  · exact .inr ⟨g, cap, cur.toList, rfl, by unfold Blok; rw [hg], htake⟩
theorem LightsB.one {w : World} {v : Value} {q : List Light} (h : LightsB w v q) : v.oneCell' = true := by
  rcases h with ⟨rfl, _⟩ | ⟨b, c, cur, rfl, _⟩ <;> rfl
theorem LightsB.kg {w w' : World} {g : Nat} {v : Value} {q : List Light} (h : LightsB w v q) (hu : UrnAt w g) (hk : Kg g w w') : LightsB w' v q := by
  rcases h with h | ⟨b, c, cur, e, hb, ht⟩
  · exact .inl h
  · exact .inr ⟨b, c, cur, e, hb.kg hk (hu.ne hb (by decide)), ht⟩
theorem LightsB.below {w w' : World} {v : Value} {q : List Light} (h : LightsB w v q) (hk : Below w.heap.size w w') : LightsB w' v q := by
  rcases h with h | ⟨b, c, cur, e, hb, ht⟩
  · exact .inl h
  · exact .inr ⟨b, c, cur, e, hb.below hk hb.size, ht⟩
theorem LightsB.grown {w w' : World} {row : Option Nat} {v : Value} {q : List Light} (h : LightsB w v q) (hg : w.grownBy w' row) (hr : ∀ (b : Nat) (cs : List Value), Blok w b 27 cs → row ≠ some b) : LightsB w' v q := by
  rcases h with h | ⟨b, c, cur, e, hb, ht⟩
  · exact .inl h
  · exact .inr ⟨b, c, cur, e, hb.grown hg (hr b cur hb), ht⟩
theorem LightsB.far {w : World} {v : Value} {q : List Light} (h : LightsB w v q) {p : Addr} {t : TypeId} {cs : List Value} (hb' : Blok w p.block t cs) (h1 : t ≠ 27) (u : Value) : LightsB (w.setCell p u) v q := by
  rcases h with h | ⟨b, c, cur, e, hb, ht⟩
  · exact .inl h
  · exact .inr ⟨b, c, cur, e, hb.far (blok_ne hb hb' (fun e => h1 e.symm)) u, ht⟩
theorem LightsB.lights {w : World} {v : Value} {q : List Light} (h : LightsB w v q) : Lights w w.heap.size v q := by
  rcases h with ⟨rfl, rfl⟩ | ⟨b, c, cur, rfl, hb, ht⟩
  · exact ⟨none, 0, rfl, fun h => by simp at h⟩
  · refine ⟨_, _, rfl, fun _ => ⟨b, 0, rfl, hb.size, fun k x hx => ?_⟩⟩
    have hk := (List.getElem?_eq_some_iff.1 hx).1
    obtain ⟨h1, h2⟩ := ltCells_get q k x hx
    rw [← ht] at h1 h2
    rw [List.getElem?_take, if_pos (by omega)] at h1 h2
    rw [Nat.zero_add, hb.cell, hb.cell]
    exact ⟨h1, h2⟩
/-- As LightsB, the block being B or above. -/
def LightsN (B : Nat) (w : World) (v : Value) (q : List Light) : Prop := LightsB w v q ∧ NewB B v
theorem LightsN.of_own {B : Nat} {w : World} {base : Nat} {v : Value} {q : List Light} (h : w.ownsRow base 27 2 v q.length (ltCells q)) (hB : B ≤ base) : LightsN B w v q := ⟨LightsB.of_own h, NewB.of_own h hB⟩
theorem LightsN.one {B : Nat} {w : World} {v : Value} {q : List Light} (h : LightsN B w v q) : v.oneCell' = true := h.1.one
theorem LightsN.kg {B : Nat} {w w' : World} {g : Nat} {v : Value} {q : List Light} (h : LightsN B w v q) (hu : UrnAt w g) (hk : Kg g w w') : LightsN B w' v q := ⟨h.1.kg hu hk, h.2⟩
theorem LightsN.below {B : Nat} {w w' : World} {v : Value} {q : List Light} (h : LightsN B w v q) (hk : Below w.heap.size w w') : LightsN B w' v q := ⟨h.1.below hk, h.2⟩
theorem LightsN.grown {B : Nat} {w w' : World} {row : Option Nat} {v : Value} {q : List Light} (h : LightsN B w v q) (hg : w.grownBy w' row) (hr : ∀ (b : Nat) (cs : List Value), Blok w b 27 cs → row ≠ some b) : LightsN B w' v q := ⟨h.1.grown hg hr, h.2⟩
theorem LightsN.far {B : Nat} {w : World} {v : Value} {q : List Light} (h : LightsN B w v q) {p : Addr} {t : TypeId} {cs : List Value} (hb' : Blok w p.block t cs) (h1 : t ≠ 27) (u : Value) : LightsN B (w.setCell p u) v q := ⟨h.1.far hb' h1 u, h.2⟩
/-- The lights of each square, at the values lvs. -/
def SqLights (w : World) (qs : List (List Light)) (lvs : List Value) : Prop := lvs.length = qs.length ∧ ∀ (k : Nat) (q : List Light) (v : Value), qs[k]? = some q → lvs[k]? = some v → LightsB w v q
end Go.Proofs.Ythhajbgddifenaa
