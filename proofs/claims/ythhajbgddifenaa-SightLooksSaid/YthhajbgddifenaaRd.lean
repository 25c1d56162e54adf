/- Raw lines whose lists are the call's own. -/
import Derived.Test.YthhajbgddifenaaRc
import Derived.Test.YthhajbgddifenaaCp
namespace Go.Proofs.Ythhajbgddifenaa
open Go.RowKit Go.Shelf

def rshCells (S : List RShape) : List Value := S.flatMap fun x => [.int .u8 x.letter, .int .i64 x.strokes]
def rltCells (S : List RLight) : List Value := S.flatMap fun x => [.int .i64 x.shows, .int .i64 x.seen]
def rhdCells : List RHand → List Value → List Value
  | h :: hs, sv :: svs => .int .i64 h.low :: .int .i64 h.high :: sv :: rhdCells hs svs
  | _, _ => []
theorem rshCells_get : ∀ (S : List RShape) (k : Nat) (x : RShape), S[k]? = some x → (rshCells S)[k * 2]? = some (.int .u8 x.letter) ∧ (rshCells S)[k * 2 + 1]? = some (.int .i64 x.strokes) := by
  intro S
  induction S with
  | nil => intro k x h; simp at h
  | cons a S ih =>
    intro k x h
    cases k with
    | zero =>
      obtain rfl : a = x := by simpa using h
      exact ⟨rfl, rfl⟩
    | succ k =>
      have := ih k x (by simpa using h)
      rw [show (k + 1) * 2 = k * 2 + 1 + 1 by omega]
      exact this
theorem rltCells_get : ∀ (S : List RLight) (k : Nat) (x : RLight), S[k]? = some x → (rltCells S)[k * 2]? = some (.int .i64 x.shows) ∧ (rltCells S)[k * 2 + 1]? = some (.int .i64 x.seen) := by
  intro S
  induction S with
  | nil => intro k x h; simp at h
  | cons a S ih =>
    intro k x h
    cases k with
    | zero =>
      obtain rfl : a = x := by simpa using h
      exact ⟨rfl, rfl⟩
    | succ k =>
      have := ih k x (by simpa using h)
      rw [show (k + 1) * 2 = k * 2 + 1 + 1 by omega]
      exact this
theorem rshCells_len (S : List RShape) : (rshCells S).length = S.length * 2 := by
  induction S with
  | nil => rfl
  | cons a q ih => simp only [rshCells, List.flatMap_cons, List.length_append, List.length_cons, List.length_nil] at ih ⊢; omega
theorem rltCells_len (S : List RLight) : (rltCells S).length = S.length * 2 := by
  induction S with
  | nil => rfl
  | cons a q ih => simp only [rltCells, List.flatMap_cons, List.length_append, List.length_cons, List.length_nil] at ih ⊢; omega
theorem rshCells_one (S : List RShape) : ∀ u ∈ rshCells S, u.oneCell' = true := by
  intro u hu
  obtain ⟨x, _, hx⟩ := List.mem_flatMap.1 hu
  simp at hx
  rcases hx with rfl | rfl <;> rfl
theorem rltCells_one (S : List RLight) : ∀ u ∈ rltCells S, u.oneCell' = true := by
  intro u hu
  obtain ⟨x, _, hx⟩ := List.mem_flatMap.1 hu
  simp at hx
  rcases hx with rfl | rfl <;> rfl
theorem rltCells_snoc (q : List RLight) (x : RLight) : rltCells (q ++ [x]) = rltCells q ++ [.int .i64 x.shows, .int .i64 x.seen] := by simp [rltCells]
theorem rhdCells_snoc : ∀ (hs : List RHand) (svs : List Value) (h : RHand) (sv : Value), svs.length = hs.length → rhdCells (hs ++ [h]) (svs ++ [sv]) = rhdCells hs svs ++ [.int .i64 h.low, .int .i64 h.high, sv] := by
  intro hs
  induction hs with
  | nil =>
    intro svs h sv e
    cases svs with
    | nil => rfl
    | cons b svs => simp at e
  | cons a hs ih =>
    intro svs h sv e
    cases svs with
    | nil => simp at e
    | cons b svs => simp [rhdCells, ih svs h sv (by simpa using e)]
theorem rhdCells_get : ∀ (hs : List RHand) (svs : List Value) (k : Nat) (h : RHand) (sv : Value), hs[k]? = some h → svs[k]? = some sv →
    (rhdCells hs svs)[k * 3]? = some (.int .i64 h.low) ∧ (rhdCells hs svs)[k * 3 + 1]? = some (.int .i64 h.high) ∧ (rhdCells hs svs)[k * 3 + 2]? = some sv := by
  intro hs
  induction hs with
  | nil => intro svs k h sv e; simp at e
  | cons a hs ih =>
    intro svs k h sv e1 e2
    cases svs with
    | nil => simp at e2
    | cons b svs =>
      cases k with
      | zero =>
        obtain rfl : a = h := by simpa using e1
        obtain rfl : b = sv := by simpa using e2
        exact ⟨rfl, rfl, rfl⟩
      | succ k =>
        have := ih svs k h sv (by simpa using e1) (by simpa using e2)
        rw [show (k + 1) * 3 = k * 3 + 1 + 1 + 1 by omega]
        exact this
/-- Two cells an element: what lies behind an address. -/
theorem pairs_cell {w : World} {x : Addr} {n : Nat} {cs : List Value} (hl : cs.length = n * 2) (h : ∀ k, k < n → w.cell? (x.add (k * 2)) = cs[k * 2]? ∧ w.cell? (x.add (k * 2 + 1)) = cs[k * 2 + 1]?) (j : Nat) (u : Value) (hj : cs[j]? = some u) : w.cell? (x.add j) = some u := by
  have hlt := (List.getElem?_eq_some_iff.1 hj).1
  obtain ⟨h1, h2⟩ := h (j / 2) (by omega)
  rcases Nat.mod_two_eq_zero_or_one j with e | e
  · rw [show j / 2 * 2 = j by omega] at h1
    rw [h1, hj]
  · rw [show j / 2 * 2 + 1 = j by omega] at h2
    rw [h2, hj]
theorem RShapes.src {w w' : World} {B : Nat} {v : Value} {S : List RShape} (h : RShapes w B v S) (hk : ∀ x : Addr, x.block < B → w'.cell? x = w.cell? x) : Src w' v S.length (rshCells S) := by
  rcases h with ⟨rfl, h0⟩ | ⟨x, c, rfl, h⟩
  · exact .inl ⟨rfl, h0, by rw [List.length_eq_zero_iff.1 h0]; rfl⟩
  · refine .inr ⟨x, c, rfl, pairs_cell (rshCells_len S) fun k hkS => ?_⟩
    obtain ⟨hb, hR⟩ := h (by omega)
    obtain ⟨h1, h2⟩ := hR k S[k] (List.getElem?_eq_getElem hkS)
    obtain ⟨g1, g2⟩ := rshCells_get S k S[k] (List.getElem?_eq_getElem hkS)
    rw [hk _ (by rw [Addr.add_block]; exact hb), hk _ (by rw [Addr.add_block]; exact hb), h1, h2, g1, g2]
    exact ⟨rfl, rfl⟩
theorem RLights.src {w w' : World} {B : Nat} {v : Value} {S : List RLight} (h : RLights w B v S) (hk : ∀ x : Addr, x.block < B → w'.cell? x = w.cell? x) : Src w' v S.length (rltCells S) := by
  rcases h with ⟨rfl, h0⟩ | ⟨x, c, rfl, h⟩
  · exact .inl ⟨rfl, h0, by rw [List.length_eq_zero_iff.1 h0]; rfl⟩
  · refine .inr ⟨x, c, rfl, pairs_cell (rltCells_len S) fun k hkS => ?_⟩
    obtain ⟨hb, hR⟩ := h (by omega)
    obtain ⟨h1, h2⟩ := hR k S[k] (List.getElem?_eq_getElem hkS)
    obtain ⟨g1, g2⟩ := rltCells_get S k S[k] (List.getElem?_eq_getElem hkS)
    rw [hk _ (by rw [Addr.add_block]; exact hb), hk _ (by rw [Addr.add_block]; exact hb), h1, h2, g1, g2]
    exact ⟨rfl, rfl⟩
/-- A row of the call's own, cell by cell. -/
theorem own_cells {w : World} {base size n : Nat} {e : TypeId} {v : Value} {xs : List Value} (h : w.ownsRow base e size v n xs) : (v = .slice none 0 0 ∧ n = 0) ∨ ∃ g c, v = .slice (some ⟨g, 0, none⟩) n c ∧ g < w.heap.size ∧ base ≤ g ∧ ∀ j u, j < n * size → xs[j]? = some u → w.cell? ⟨g, j, none⟩ = some u := by
  rcases h.2 with h2 | ⟨g, cap, cur, rfl, hbg, hg, hcap, _, hsz, htake⟩
  · exact .inl h2
  · refine .inr ⟨g, cap, rfl, (Array.getElem?_eq_some_iff.1 hg).1, hbg, fun j u hj hu => ?_⟩
    rw [← htake, List.getElem?_take, if_pos hj] at hu
    rw [cell_of_row w g j cur _ (0, 0) hg]
    simpa using hu
theorem addr0 (g j : Nat) : (⟨g, 0, none⟩ : Addr).add j = ⟨g, j, none⟩ := by rw [addr_add, Nat.zero_add]
theorem RShapes.of_own {w : World} {base : Nat} {v : Value} {S : List RShape} (h : w.ownsRow base 86 2 v S.length (rshCells S)) : RShapes w w.heap.size v S := by
  rcases own_cells h with h0 | ⟨g, c, rfl, hg, _, hc⟩
  · exact .inl h0
  · refine .inr ⟨_, c, rfl, fun _ => ⟨hg, fun k y hy => ?_⟩⟩
    have hk := (List.getElem?_eq_some_iff.1 hy).1
    obtain ⟨g1, g2⟩ := rshCells_get S k y hy
    rw [addr0, addr0]
    exact ⟨hc _ _ (by omega) g1, hc _ _ (by omega) g2⟩
theorem RLights.of_own {w : World} {base : Nat} {v : Value} {S : List RLight} (h : w.ownsRow base 27 2 v S.length (rltCells S)) : RLights w w.heap.size v S := by
  rcases own_cells h with h0 | ⟨g, c, rfl, hg, _, hc⟩
  · exact .inl h0
  · refine .inr ⟨_, c, rfl, fun _ => ⟨hg, fun k y hy => ?_⟩⟩
    have hk := (List.getElem?_eq_some_iff.1 hy).1
    obtain ⟨g1, g2⟩ := rltCells_get S k y hy
    rw [addr0, addr0]
    exact ⟨hc _ _ (by omega) g1, hc _ _ (by omega) g2⟩
/-- The shapes of each hand in a row of their own. -/
def ShOwn (B : Nat) (w : World) (hs : List RHand) (svs : List Value) : Prop :=
  svs.length = hs.length ∧ ∀ (k : Nat) (h : RHand) (v : Value), hs[k]? = some h → svs[k]? = some v → w.ownsRow B 86 2 v h.shapes.length (rshCells h.shapes)
/-- The lights of each square in a row of their own, no two in one. -/
def LtOwn (B : Nat) (w : World) (qs : List (List RLight)) (lvs : List Value) : Prop :=
  lvs.length = qs.length ∧ (∀ (k : Nat) (q : List RLight) (v : Value), qs[k]? = some q → lvs[k]? = some v → w.ownsRow B 27 2 v q.length (rltCells q)) ∧ lvs.Pairwise fun a b => ∀ g, a.ownBlock = some g → b.ownBlock ≠ some g
/-- A raw line all of whose lists are the call's own, from block B on. -/
structure ROwn (B : Nat) (w : World) (vh vq : Value) (L : RLine) (svs lvs : List Value) : Prop where
  hands : w.ownsRow B 68 3 vh L.hands.length (rhdCells L.hands svs)
  shapes : ShOwn B w L.hands svs
  squares : w.ownsRow B 39 1 vq L.squares.length lvs
  lights : LtOwn B w L.squares lvs
def rlineV (vh vq : Value) (L : RLine) : Value := .agg #[vh, .int .i64 L.worn, .int .i64 L.scr, .int .i64 L.total, vq]
theorem ROwn.line {B : Nat} {w : World} {vh vq : Value} {L : RLine} {svs lvs : List Value} (h : ROwn B w vh vq L svs lvs) : RLineAt w w.heap.size (rlineV vh vq L) L := by
  refine ⟨vh, vq, rfl, ?_, ?_⟩
  · rcases own_cells h.hands with h0 | ⟨g, c, rfl, hg, _, hc⟩
    · exact .inl h0
    · refine .inr ⟨_, c, rfl, fun _ => ⟨hg, fun k y hy => ?_⟩⟩
      have hk := (List.getElem?_eq_some_iff.1 hy).1
      obtain ⟨sv, hsv⟩ : ∃ sv, svs[k]? = some sv := ⟨_, List.getElem?_eq_getElem (by rw [h.shapes.1]; exact hk)⟩
      obtain ⟨g1, g2, g3⟩ := rhdCells_get L.hands svs k y sv hy hsv
      rw [addr0, addr0, addr0]
      exact ⟨hc _ _ (by omega) g1, hc _ _ (by omega) g2, sv, hc _ _ (by omega) g3, RShapes.of_own (h.shapes.2 k y sv hy hsv)⟩
  · rcases own_cells h.squares with h0 | ⟨g, c, rfl, hg, _, hc⟩
    · exact .inl h0
    · refine .inr ⟨_, c, rfl, fun _ => ⟨hg, fun k y hy => ?_⟩⟩
      have hk := (List.getElem?_eq_some_iff.1 hy).1
      obtain ⟨lv, hlv⟩ : ∃ lv, lvs[k]? = some lv := ⟨_, List.getElem?_eq_getElem (by rw [h.lights.1]; exact hk)⟩
      rw [addr0]
      exact ⟨lv, hc _ _ (by omega) hlv, RLights.of_own (h.lights.2.1 k y lv hy hlv)⟩
theorem ROwn.below {B : Nat} {w w' : World} {vh vq : Value} {L : RLine} {svs lvs : List Value} (h : ROwn B w vh vq L svs lvs) (hb : Below w.heap.size w w') : ROwn B w' vh vq L svs lvs :=
  ⟨own_below h.hands hb (Nat.le_refl _), ⟨h.shapes.1, fun k y v h1 h2 => own_below (h.shapes.2 k y v h1 h2) hb (Nat.le_refl _)⟩, own_below h.squares hb (Nat.le_refl _), ⟨h.lights.1, fun k y v h1 h2 => own_below (h.lights.2.1 k y v h1 h2) hb (Nat.le_refl _), h.lights.2.2⟩⟩

/-- A line of small numbers, as a raw one. -/
def Shape.raw (s : Shape) : RShape := ⟨s.letter, s.strokes⟩
def Hand.raw (h : Hand) : RHand := ⟨h.low, h.high, h.shapes.map Shape.raw⟩
def Light.raw (x : Light) : RLight := ⟨x.shows, x.seen⟩
def Line.raw (L : Line) : RLine := ⟨L.hands.map Hand.raw, L.worn, L.scr, L.total, L.squares.map fun q => q.map Light.raw⟩
theorem Sl.raw {B : Nat} {v : Value} {n n' : Nat} {R : Nat → Nat → Prop} {R' : Addr → Prop} (h : Sl B v n R) (hn : n' = n) (hcap : v = .slice none 0 0 ∨ (∃ x c, v = .slice (some x) n c)) (hR : ∀ b o, b < B → R b o → R' ⟨b, o, none⟩) : RSl B v n' R' := by
  subst hn
  obtain ⟨A, c, rfl, h⟩ := h
  rcases hcap with hc | ⟨x, c', hc⟩
  · injection hc with h1 h2 h3
    subst h1 h2 h3
    exact .inl ⟨rfl, rfl⟩
  · injection hc with h1 h2 h3
    subst h1 h3
    refine .inr ⟨x, _, rfl, fun hn => ?_⟩
    obtain ⟨b, o, e, hb, hr⟩ := h hn
    injection e with e
    subst e
    exact ⟨hb, hR b o hb hr⟩
end Go.Proofs.Ythhajbgddifenaa
