/- The wrong lines of SightKnown, as they lie in memory. -/
import Derived.Test.YtcemefojpaicoaaDoorPl
import Derived.Test.YtcemefojpaicoaaDoorSn
namespace Go.Proofs.YtcemefojpaicoaaDoor
open Go.RowKit Go.Shelf

theorem rshapes_ex {w : World} {g : Nat} {t : TypeId} (B : Nat) (hg : g < B) (a b c a' b' c' : Int) (h : Blok w g t [.int .u8 a, .int .i64 a', .int .u8 b, .int .i64 b', .int .u8 c, .int .i64 c']) (n cp : Nat) (hn : n = 3) :
    RShapes w B (.slice (some ⟨g, 0, none⟩) n cp) [⟨a, a'⟩, ⟨b, b'⟩, ⟨c, c'⟩] := by
  subst hn
  refine .inr ⟨_, _, rfl, fun _ => ⟨hg, fun k y hy => ?_⟩⟩
  rcases k with _ | _ | _ | k
  · obtain rfl : (⟨a, a'⟩ : RShape) = y := by simpa using hy
    exact ⟨(h.cell 0).trans rfl, (h.cell 1).trans rfl⟩
  · obtain rfl : (⟨b, b'⟩ : RShape) = y := by simpa using hy
    exact ⟨(h.cell 2).trans rfl, (h.cell 3).trans rfl⟩
  · obtain rfl : (⟨c, c'⟩ : RShape) = y := by simpa using hy
    exact ⟨(h.cell 4).trans rfl, (h.cell 5).trans rfl⟩
  · simp at hy
theorem rlights_one {w : World} {B g : Nat} (hg : g < B) (a b : Int) (h : Blok w g 29 [.int .i64 a, .int .i64 b]) (n c : Nat) (hn : n = 1) : RLights w B (.slice (some ⟨g, 0, none⟩) n c) [⟨a, b⟩] := by
  subst hn
  refine .inr ⟨_, _, rfl, fun _ => ⟨hg, fun k y hy => ?_⟩⟩
  rcases k with _ | k
  · obtain rfl : (⟨a, b⟩ : RLight) = y := by simpa using hy
    exact ⟨(h.cell 0).trans rfl, (h.cell 1).trans rfl⟩
  · simp at hy
theorem rhands_two {w : World} {B g : Nat} {t : TypeId} (hg : g < B) (a b a' b' : Int) (v v' : Value) (s s' : List RShape) (h : Blok w g t [.int .i64 a, .int .i64 b, v, .int .i64 a', .int .i64 b', v']) (hs : RShapes w B v s) (hs' : RShapes w B v' s') (n c : Nat) (hn : n = 2) :
    RHands w B (.slice (some ⟨g, 0, none⟩) n c) [⟨a, b, s⟩, ⟨a', b', s'⟩] := by
  subst hn
  refine .inr ⟨_, _, rfl, fun _ => ⟨hg, fun k y hy => ?_⟩⟩
  rcases k with _ | _ | k
  · obtain rfl : (⟨a, b, s⟩ : RHand) = y := by simpa using hy
    exact ⟨(h.cell 0).trans rfl, (h.cell 1).trans rfl, _, (h.cell 2).trans rfl, hs⟩
  · obtain rfl : (⟨a', b', s'⟩ : RHand) = y := by simpa using hy
    exact ⟨(h.cell 3).trans rfl, (h.cell 4).trans rfl, _, (h.cell 5).trans rfl, hs'⟩
  · simp at hy
theorem rsquares_three {w : World} {B g : Nat} {t : TypeId} (hg : g < B) (v0 v1 v2 : Value) (q0 q1 q2 : List RLight) (h : Blok w g t [v0, v1, v2]) (h0 : RLights w B v0 q0) (h1 : RLights w B v1 q1) (h2 : RLights w B v2 q2) (n c : Nat) (hn : n = 3) :
    RSquares w B (.slice (some ⟨g, 0, none⟩) n c) [q0, q1, q2] := by
  subst hn
  refine .inr ⟨_, _, rfl, fun _ => ⟨hg, fun k y hy => ?_⟩⟩
  rcases k with _ | _ | _ | k
  · obtain rfl : q0 = y := by simpa using hy
    exact ⟨_, (h.cell 0).trans rfl, h0⟩
  · obtain rfl : q1 = y := by simpa using hy
    exact ⟨_, (h.cell 1).trans rfl, h1⟩
  · obtain rfl : q2 = y := by simpa using hy
    exact ⟨_, (h.cell 2).trans rfl, h2⟩
  · simp at hy

def rA : List RShape := [⟨65, 7⟩, ⟨76, 3⟩, ⟨84, 12⟩]
def rA' : List RShape := [⟨65, 7⟩, ⟨84, 12⟩, ⟨76, 3⟩]
def rB : List RShape := [⟨65, 15⟩, ⟨76, 3⟩, ⟨84, 12⟩]
def rNone : RLine := { hands := [], worn := 1, scr := 0, total := 1, squares := [[⟨15, 7⟩], [⟨15, 3⟩], [⟨3, 0⟩]] }
def rDark : RLine := { hands := [⟨-400, -300, rA⟩, ⟨-320, -200, rB⟩], worn := 1, scr := 0, total := 1, squares := [[⟨3, 4⟩], [⟨15, 3⟩], [⟨3, 0⟩]] }
def rBack : RLine := { hands := [⟨-400, -300, rA'⟩, ⟨-320, -200, rB⟩], worn := 1, scr := 0, total := 1, squares := [[⟨15, 7⟩], [⟨15, 3⟩], [⟨3, 0⟩]] }
theorem rNone_err : lineErr rNone = 7 := by decide +kernel
theorem rDark_err : lineErr rDark = 2 := by decide +kernel
theorem rBack_err : lineErr rBack = 5 := by decide +kernel
theorem none_at {w : World} {g B : Nat} (h : LineMem w g) (hB : g + 6 < B) : RLineAt w B (.agg #[.slice none 0 0, .int .i64 1, .int .i64 0, .int .i64 1, .slice (some ⟨g + 6, 0, none⟩) 3 3]) rNone :=
  ⟨_, _, rfl, .inl ⟨rfl, rfl⟩, rsquares_three hB _ _ _ _ _ _ h.qs (rlights_one (by omega) _ _ h.q0 _ _ rfl) (rlights_one (by omega) _ _ h.q1 _ _ rfl) (rlights_one (by omega) _ _ h.q2 _ _ rfl) _ _ rfl⟩
theorem dark_at {w : World} {g gl B c : Nat} (h : SeenG w g 0 (.slice (some ⟨gl, 0, none⟩) 1 c)) (hl : Blok w gl 29 [.int .i64 3, .int .i64 4]) (hB : g + 6 < B) (hgl : gl < B) : RLineAt w B (.agg (cellsL g).toArray) rDark :=
  ⟨_, _, rfl, rhands_two (by omega) _ _ _ _ _ _ _ _ h.hands.2.2 (rshapes_ex _ (by omega) _ _ _ _ _ _ h.hands.1 _ _ rfl) (rshapes_ex _ (by omega) _ _ _ _ _ _ h.hands.2.1 _ _ rfl) _ _ rfl,
    rsquares_three hB _ _ _ _ _ _ h.qs (rlights_one hgl _ _ hl _ _ rfl) (rlights_one (by omega) _ _ h.q1 _ _ rfl) (rlights_one (by omega) _ _ h.q2 _ _ rfl) _ _ rfl⟩
end Go.Proofs.YtcemefojpaicoaaDoor
