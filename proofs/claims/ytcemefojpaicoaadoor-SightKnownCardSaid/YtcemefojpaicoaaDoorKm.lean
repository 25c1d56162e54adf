/- What SightKnown's walk wants. -/
import Derived.Test.YtcemefojpaicoaaDoorPm
import Derived.Test.YtcemefojpaicoaaDoorV
import Derived.Test.YtcemefojpaicoaaDoorWt
import Derived.Test.YtcemefojpaicoaaDoorIi
import Derived.Deep.DeepCutAuto
import Derived.BigRegion
import Derived.Deep.RegionHeld3
namespace Go.Proofs.YtcemefojpaicoaaDoor
open Go.RowKit Go.Shelf

theorem LineMem.keep {w w' : World} {g B : Nat} (h : LineMem w g) (hb : Below B w w') (hg : g + 6 < B) : LineMem w' g :=
  ⟨⟨h.hands.1.below hb (by omega), h.hands.2.1.below hb (by omega), h.hands.2.2.below hb (by omega)⟩, h.q0.below hb (by omega), h.q1.below hb (by omega), h.q2.below hb (by omega), h.qs.below hb hg⟩
theorem SeenG.keep {w w' : World} {g B i : Nat} {lv : Value} (h : SeenG w g i lv) (hb : Below B w w') (hg : g + 6 < B) : SeenG w' g i lv :=
  ⟨⟨h.hands.1.below hb (by omega), h.hands.2.1.below hb (by omega), h.hands.2.2.below hb (by omega)⟩, h.q0.below hb (by omega), h.q1.below hb (by omega), h.q2.below hb (by omega), h.qs.below hb hg⟩

/-- The four lines of SightKnown that are changed, as they lie behind the changes. -/
structure KnI (wx : World) (B n a g c d : Nat) : Prop where
  b1 : Blok wx n 25 [.slice none 0 0, .int .i64 1, .int .i64 0, .int .i64 1, .slice (some ⟨a + 6, 0, none⟩) 3 3]
  b2 : Blok wx (n + 1) 25 [.slice (some ⟨g + 1 + 1, 0, none⟩) 2 2, .int .i64 1, .int .i64 0, .int .i64 1, .slice (some ⟨g + 6, 0, none⟩) 3 3]
  b3 : Blok wx (n + 1 + 1) 25 [.slice (some ⟨c + 1 + 1, 0, none⟩) 2 2, .int .i64 1, .int .i64 0, .int .i64 1, .slice (some ⟨c + 6, 0, none⟩) 3 3]
  b4 : Blok wx (n + 1 + 1 + 1) 25 [.slice (some ⟨d + 1 + 1, 0, none⟩) 2 2, .int .i64 1, .int .i64 0, .int .i64 0, .slice (some ⟨d + 6, 0, none⟩) 3 3]
  n1 : RLineAt wx B (.agg #[.slice none 0 0, .int .i64 1, .int .i64 0, .int .i64 1, .slice (some ⟨a + 6, 0, none⟩) 3 3]) rNone
  n2 : RLineAt wx B (.agg #[.slice (some ⟨g + 1 + 1, 0, none⟩) 2 2, .int .i64 1, .int .i64 0, .int .i64 1, .slice (some ⟨g + 6, 0, none⟩) 3 3]) rDark
  n3 : RLineAt wx B (.agg #[.slice (some ⟨c + 1 + 1, 0, none⟩) 2 2, .int .i64 1, .int .i64 0, .int .i64 1, .slice (some ⟨c + 6, 0, none⟩) 3 3]) rBack
  n4 : LineAt wx B (.agg #[.slice (some ⟨d + 1 + 1, 0, none⟩) 2 2, .int .i64 1, .int .i64 0, .int .i64 0, .slice (some ⟨d + 6, 0, none⟩) 3 3]) lineS
theorem KnI.keep {wx wy : World} {B n a g c d D : Nat} (h : KnI wx B n a g c d) (hb : Below D wx wy) (hn : n + 3 < D) (hB : B ≤ D) : KnI wy B n a g c d :=
  ⟨h.b1.below hb (by omega), h.b2.below hb (by omega), h.b3.below hb (by omega), h.b4.below hb (by omega), h.n1.keep (SameA.of_below (hb.mono hB)) (Nat.le_refl _), h.n2.keep (SameA.of_below (hb.mono hB)) (Nat.le_refl _), h.n3.keep (SameA.of_below (hb.mono hB)) (Nat.le_refl _), h.n4.keep (Same.of_below (hb.mono hB)) (Nat.le_refl _)⟩
theorem KnI.cells {wx : World} {B n a g c d : Nat} (h : KnI wx B n a g c d) :
    wx.cell? ⟨n, 0, none⟩ = some (.slice none 0 0) ∧ wx.cell? ⟨n, 1, none⟩ = some (.int .i64 1) ∧ wx.cell? ⟨n, 2, none⟩ = some (.int .i64 0) ∧ wx.cell? ⟨n, 3, none⟩ = some (.int .i64 1) ∧ wx.cell? ⟨n, 4, none⟩ = some (.slice (some ⟨a + 6, 0, none⟩) 3 3) ∧
    wx.cell? ⟨n + 1, 0, none⟩ = some (.slice (some ⟨g + 1 + 1, 0, none⟩) 2 2) ∧ wx.cell? ⟨n + 1, 1, none⟩ = some (.int .i64 1) ∧ wx.cell? ⟨n + 1, 2, none⟩ = some (.int .i64 0) ∧ wx.cell? ⟨n + 1, 3, none⟩ = some (.int .i64 1) ∧ wx.cell? ⟨n + 1, 4, none⟩ = some (.slice (some ⟨g + 6, 0, none⟩) 3 3) ∧
    wx.cell? ⟨n + 1 + 1, 0, none⟩ = some (.slice (some ⟨c + 1 + 1, 0, none⟩) 2 2) ∧ wx.cell? ⟨n + 1 + 1, 1, none⟩ = some (.int .i64 1) ∧ wx.cell? ⟨n + 1 + 1, 2, none⟩ = some (.int .i64 0) ∧ wx.cell? ⟨n + 1 + 1, 3, none⟩ = some (.int .i64 1) ∧ wx.cell? ⟨n + 1 + 1, 4, none⟩ = some (.slice (some ⟨c + 6, 0, none⟩) 3 3) :=
  ⟨h.b1.cell 0, h.b1.cell 1, h.b1.cell 2, h.b1.cell 3, h.b1.cell 4, h.b2.cell 0, h.b2.cell 1, h.b2.cell 2, h.b2.cell 3, h.b2.cell 4, h.b3.cell 0, h.b3.cell 1, h.b3.cell 2, h.b3.cell 3, h.b3.cell 4⟩
theorem strict_at {w : World} {g B : Nat} (h : LineMem w g) (hB : g + 6 < B) : LineAt w B (.agg #[.slice (some ⟨g + 1 + 1, 0, none⟩) 2 2, .int .i64 1, .int .i64 0, .int .i64 0, .slice (some ⟨g + 6, 0, none⟩) 3 3]) lineS := by
  obtain ⟨vh, vs, e, h1, h2⟩ := h.at_ hB
  simp [cellsL] at e
  obtain ⟨rfl, -, -, -, rfl⟩ := e
  exact ⟨_, _, rfl, h1, h2⟩
theorem back_at {w : World} {g B : Nat} (h0 : Blok w g 31 [.int .u8 65, .int .i64 7, .int .u8 84, .int .i64 12, .int .u8 76, .int .i64 3]) (h1 : Blok w (g + 1) 31 cellsB) (h2 : Blok w (g + 1 + 1) 36 (cellsH g))
    (q0 : Blok w (g + 3) 29 [.int .i64 15, .int .i64 7]) (q1 : Blok w (g + 4) 29 [.int .i64 15, .int .i64 3]) (q2 : Blok w (g + 5) 29 [.int .i64 3, .int .i64 0]) (qs : Blok w (g + 6) 53 (cellsQ g)) (hB : g + 6 < B) :
    RLineAt w B (.agg #[.slice (some ⟨g + 1 + 1, 0, none⟩) 2 2, .int .i64 1, .int .i64 0, .int .i64 1, .slice (some ⟨g + 6, 0, none⟩) 3 3]) rBack :=
  ⟨_, _, rfl, rhands_two (by omega) _ _ _ _ _ _ _ _ h2 (rshapes_ex _ (by omega) _ _ _ _ _ _ h0 _ _ rfl) (rshapes_ex _ (by omega) _ _ _ _ _ _ h1 _ _ rfl) _ _ rfl,
    rsquares_three hB _ _ _ _ _ _ qs (rlights_one (by omega) _ _ q0 _ _ rfl) (rlights_one (by omega) _ _ q1 _ _ rfl) (rlights_one (by omega) _ _ q2 _ _ rfl) _ _ rfl⟩
theorem then_as {K : Act → World → Prop} {Q : Exit → Act → World → Prop} {x : Exit} {a : Act} {X Y : World} (h : X = Y) (hh : Exit.then K Q x a X) : Exit.then K Q x a Y := h ▸ hh
/-- The swap of two shapes of the row in block c. -/
def swapW (W : World) (c : Nat) : World := ((((W.setCell ⟨c, 2, none⟩ (.int .u8 84)).setCell ⟨c, 3, none⟩ (.int .i64 12)).setCell ⟨c, 4, none⟩ (.int .u8 76)).setCell ⟨c, 5, none⟩ (.int .i64 3)).drew
theorem Blok.swap {W : World} {c g : Nat} {t : TypeId} {cs : List Value} (h : Blok W g t cs) (hne : g ≠ c) : Blok (swapW W c) g t cs := (((h.far hne _).far hne _).far hne _).far hne _
theorem swap_size (W : World) (c : Nat) : (swapW W c).heap.size = W.heap.size := by simp [swapW, World.setCell]
theorem swap_below {B c : Nat} {W : World} (h : B ≤ c) : Below B W (swapW W c) := (((((Below.refl B W).setCell (p := ⟨c, 2, none⟩) h _).setCell (p := ⟨c, 3, none⟩) h _).setCell (p := ⟨c, 4, none⟩) h _).setCell (p := ⟨c, 5, none⟩) h _).drew
theorem swap_own {W : World} {c : Nat} (h : Blok W c 31 cellsA) : Blok (swapW W c) c 31 [.int .u8 65, .int .i64 7, .int .u8 84, .int .i64 12, .int .u8 76, .int .i64 3] :=
  (((h.put 2 (.int .u8 84)).put 3 (.int .i64 12)).put 4 (.int .u8 76)).put 5 (.int .i64 3)
theorem knI_of {W : World} {n a g gl c d cl : Nat} (h1 : LineMem W a) (h2 : SeenG W g 0 (.slice (some ⟨gl, 0, none⟩) 1 cl)) (hl : Blok W gl 29 [.int .i64 3, .int .i64 4]) (h3 : LineMem W c) (h4 : LineMem W d)
    (b1 : Blok W n 25 [.slice none 0 0, .int .i64 1, .int .i64 0, .int .i64 1, .slice (some ⟨a + 6, 0, none⟩) 3 3])
    (b2 : Blok W (n + 1) 25 [.slice (some ⟨g + 1 + 1, 0, none⟩) 2 2, .int .i64 1, .int .i64 0, .int .i64 1, .slice (some ⟨g + 6, 0, none⟩) 3 3])
    (b3 : Blok W (n + 1 + 1) 25 [.slice (some ⟨c + 1 + 1, 0, none⟩) 2 2, .int .i64 1, .int .i64 0, .int .i64 1, .slice (some ⟨c + 6, 0, none⟩) 3 3])
    (b4 : Blok W (n + 1 + 1 + 1) 25 [.slice (some ⟨d + 1 + 1, 0, none⟩) 2 2, .int .i64 1, .int .i64 0, .int .i64 0, .slice (some ⟨d + 6, 0, none⟩) 3 3])
    (z1 : a + 6 < gl) (z2 : gl < g) (z3 : g + 6 < c) (z4 : c + 6 < d) (z5 : d + 6 < n) : KnI (swapW W c) n n a g c d := by
  have f : ∀ {g : Nat} {t : TypeId} {cs : List Value}, Blok W g t cs → g ≠ c → Blok (swapW W c) g t cs := fun h hne => h.swap hne
  have l1 : LineMem (swapW W c) a := ⟨⟨f h1.hands.1 (by omega), f h1.hands.2.1 (by omega), f h1.hands.2.2 (by omega)⟩, f h1.q0 (by omega), f h1.q1 (by omega), f h1.q2 (by omega), f h1.qs (by omega)⟩
  have l4 : LineMem (swapW W c) d := ⟨⟨f h4.hands.1 (by omega), f h4.hands.2.1 (by omega), f h4.hands.2.2 (by omega)⟩, f h4.q0 (by omega), f h4.q1 (by omega), f h4.q2 (by omega), f h4.qs (by omega)⟩
  have l2 : SeenG (swapW W c) g 0 (.slice (some ⟨gl, 0, none⟩) 1 cl) := ⟨⟨f h2.hands.1 (by omega), f h2.hands.2.1 (by omega), f h2.hands.2.2 (by omega)⟩, f h2.q0 (by omega), f h2.q1 (by omega), f h2.q2 (by omega), f h2.qs (by omega)⟩
  exact ⟨f b1 (by omega), f b2 (by omega), f b3 (by omega), f b4 (by omega), none_at l1 (by omega), dark_at l2 (f hl (by omega)) (by omega) (by omega),
    back_at (swap_own h3.hands.1) (f h3.hands.2.1 (by omega)) (f h3.hands.2.2 (by omega)) (f h3.q0 (by omega)) (f h3.q1 (by omega)) (f h3.q2 (by omega)) (f h3.qs (by omega)) (by omega), strict_at l4 (by omega)⟩
end Go.Proofs.YtcemefojpaicoaaDoor
