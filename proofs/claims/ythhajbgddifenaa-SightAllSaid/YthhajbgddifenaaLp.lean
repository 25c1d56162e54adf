/- What LineOf comes to, and what holds while it goes on. -/
import Derived.Test.YthhajbgddifenaaLd
namespace Go.Proofs.Ythhajbgddifenaa
open Go.RowKit Go.Shelf

/-- A slice of squares that has a block of its own. -/
def SquaresB (w : World) (v : Value) (qs : List (List Light)) : Prop := ∃ b c cur lvs, v = .slice (some ⟨b, 0, none⟩) qs.length c ∧ Blok w b 39 cur ∧ cur.take qs.length = lvs ∧ SqLights w qs lvs
theorem SquaresB.of_own {w : World} {base n : Nat} {v : Value} {qs : List (List Light)} {lvs : List Value} (h : w.ownsRow base 39 1 v n lvs) (hn : n = qs.length) (h0 : 0 < n) (hS : SqLights w qs lvs) : SquaresB w v qs := by
  rcases h.2 with ⟨_, h1⟩ | ⟨g, cap, cur, rfl, hbg, hg, hcap, _, hsz, htake⟩
  · omega
  · refine ⟨g, cap, cur.toList, lvs, by rw [hn], by unfold Blok; rw [hg], ?_, hS⟩
    rw [← hn, ← htake, Nat.mul_one]
theorem SquaresB.at_ {w : World} {v : Value} {qs : List (List Light)} (h : SquaresB w v qs) : ∃ b c, v = .slice (some ⟨b, 0, none⟩) qs.length c ∧ b < w.heap.size ∧ ∀ (k : Nat) (q : List Light), qs[k]? = some q → ∃ lv, LightsB w lv q ∧ w.cell? ⟨b, k, none⟩ = some lv := by
  obtain ⟨b, c, cur, lvs, e, hb, ht, hS⟩ := h
  refine ⟨b, c, e, hb.size, fun k a ha => ?_⟩
  have hk := (List.getElem?_eq_some_iff.1 ha).1
  obtain ⟨lv, hlv⟩ : ∃ lv, lvs[k]? = some lv := ⟨_, List.getElem?_eq_getElem (by rw [hS.1]; exact hk)⟩
  refine ⟨lv, hS.2 k a lv ha hlv, ?_⟩
  rw [← ht, List.getElem?_take, if_pos (by omega)] at hlv
  rw [hb.cell, hlv]
theorem SquaresB.squares {w : World} {v : Value} {qs : List (List Light)} (h : SquaresB w v qs) : Squares w w.heap.size v qs := by
  obtain ⟨b, c, rfl, hb, hk⟩ := h.at_
  refine ⟨_, _, rfl, fun h0 => ⟨b, 0, rfl, hb, fun k x hx => ?_⟩⟩
  obtain ⟨lv, h1, h2⟩ := hk k x hx
  exact ⟨lv, by rw [Nat.zero_add]; exact h2, h1.lights⟩
theorem SqLights.kg {w w' : World} {g : Nat} {qs : List (List Light)} {lvs : List Value} (h : SqLights w qs lvs) (hu : UrnAt w g) (hk : Kg g w w') : SqLights w' qs lvs := ⟨h.1, fun k q v h1 h2 => (h.2 k q v h1 h2).kg hu hk⟩
theorem SqLights.below {w w' : World} {qs : List (List Light)} {lvs : List Value} (h : SqLights w qs lvs) (hk : Below w.heap.size w w') : SqLights w' qs lvs := ⟨h.1, fun k q v h1 h2 => (h.2 k q v h1 h2).below hk⟩
theorem SqLights.grown {w w' : World} {row : Option Nat} {qs : List (List Light)} {lvs : List Value} (h : SqLights w qs lvs) (hg : w.grownBy w' row) (hr : ∀ (b : Nat) (cs : List Value), Blok w b 27 cs → row ≠ some b) : SqLights w' qs lvs := ⟨h.1, fun k q v h1 h2 => (h.2 k q v h1 h2).grown hg hr⟩
theorem SqLights.far {w : World} {qs : List (List Light)} {lvs : List Value} (h : SqLights w qs lvs) {p : Addr} {t : TypeId} {cs : List Value} (hb' : Blok w p.block t cs) (h1 : t ≠ 27) (u : Value) : SqLights (w.setCell p u) qs lvs := ⟨h.1, fun k q v g1 g2 => (h.2 k q v g1 g2).far hb' h1 u⟩
theorem SqLights.snoc {w : World} {qs : List (List Light)} {lvs : List Value} {q : List Light} {v : Value} (h : SqLights w qs lvs) (hq : LightsB w v q) : SqLights w (qs ++ [q]) (lvs ++ [v]) := by
  refine ⟨by simp [h.1], fun k a b h1 h2 => ?_⟩
  by_cases hk : k < qs.length
  · rw [List.getElem?_append_left hk] at h1
    rw [List.getElem?_append_left (by rw [h.1]; exact hk)] at h2
    exact h.2 k a b h1 h2
  · have hk' : k = qs.length := by
      have := (List.getElem?_eq_some_iff.1 h1).1
      simp at this
      omega
    subst hk'
    have e1 : q = a := by simpa using h1
    rw [← h.1] at h2
    have e2 : v = b := by simpa using h2
    rw [← e1, ← e2]
    exact hq
/-- As SqLights and SquaresB, the lights' blocks being B or above. -/
def SqN (B : Nat) (w : World) (qs : List (List Light)) (lvs : List Value) : Prop := SqLights w qs lvs ∧ ∀ v ∈ lvs, NewB B v
theorem SqN.kg {B : Nat} {w w' : World} {g : Nat} {qs : List (List Light)} {lvs : List Value} (h : SqN B w qs lvs) (hu : UrnAt w g) (hk : Kg g w w') : SqN B w' qs lvs := ⟨h.1.kg hu hk, h.2⟩
theorem SqN.below {B : Nat} {w w' : World} {qs : List (List Light)} {lvs : List Value} (h : SqN B w qs lvs) (hk : Below w.heap.size w w') : SqN B w' qs lvs := ⟨h.1.below hk, h.2⟩
theorem SqN.grown {B : Nat} {w w' : World} {row : Option Nat} {qs : List (List Light)} {lvs : List Value} (h : SqN B w qs lvs) (hg : w.grownBy w' row) (hr : ∀ (b : Nat) (cs : List Value), Blok w b 27 cs → row ≠ some b) : SqN B w' qs lvs := ⟨h.1.grown hg hr, h.2⟩
theorem SqN.far {B : Nat} {w : World} {qs : List (List Light)} {lvs : List Value} (h : SqN B w qs lvs) {p : Addr} {t : TypeId} {cs : List Value} (hb' : Blok w p.block t cs) (h1 : t ≠ 27) (u : Value) : SqN B (w.setCell p u) qs lvs := ⟨h.1.far hb' h1 u, h.2⟩
theorem SqN.snoc {B : Nat} {w : World} {qs : List (List Light)} {lvs : List Value} {q : List Light} {v : Value} (h : SqN B w qs lvs) (hq : LightsN B w v q) : SqN B w (qs ++ [q]) (lvs ++ [v]) := ⟨h.1.snoc hq.1, fun x hx => by
  rcases List.mem_append.1 hx with hx | hx
  · exact h.2 x hx
  · obtain rfl : x = v := by simpa using hx
    exact hq.2⟩
def SquaresN (B : Nat) (w : World) (v : Value) (qs : List (List Light)) : Prop := ∃ b c cur lvs, v = .slice (some ⟨b, 0, none⟩) qs.length c ∧ Blok w b 39 cur ∧ cur.take qs.length = lvs ∧ SqN B w qs lvs
theorem SquaresN.of_own {B : Nat} {w : World} {base n : Nat} {v : Value} {qs : List (List Light)} {lvs : List Value} (h : w.ownsRow base 39 1 v n lvs) (hn : n = qs.length) (h0 : 0 < n) (hS : SqN B w qs lvs) : SquaresN B w v qs := by
  rcases h.2 with ⟨_, h1⟩ | ⟨g, cap, cur, rfl, hbg, hg, hcap, _, hsz, htake⟩
  · omega
  · refine ⟨g, cap, cur.toList, lvs, by rw [hn], by unfold Blok; rw [hg], ?_, hS⟩
    rw [← hn, ← htake, Nat.mul_one]
theorem SquaresN.toB {B : Nat} {w : World} {v : Value} {qs : List (List Light)} (h : SquaresN B w v qs) : SquaresB w v qs := by
  obtain ⟨b, c, cur, lvs, e, hb, ht, hS⟩ := h
  exact ⟨b, c, cur, lvs, e, hb, ht, hS.1⟩
/-- A line whose lists have blocks of their own. -/
def LineB (w : World) (v : Value) (L : Line) : Prop := ∃ vh vs, v = .agg #[vh, .int .i64 L.worn, .int .i64 L.scr, .int .i64 L.total, vs] ∧ HandsB w vh L.hands ∧ SquaresB w vs L.squares
theorem LineB.line {w : World} {v : Value} {L : Line} (h : LineB w v L) : LineAt w w.heap.size v L := by
  obtain ⟨vh, vs, rfl, h1, h2⟩ := h
  exact ⟨vh, vs, rfl, h1.hands, h2.squares⟩
/-- Numbers with a block of their own. -/
def IntsB (w : World) (v : Value) (l : List Nat) : Prop := ∃ b c cur, v = .slice (some ⟨b, 0, none⟩) l.length c ∧ Blok w b 3 cur ∧ cur.take l.length = l.map fun (x : Nat) => Value.int .i64 x
/-- The letters of a truth. -/
def lettersAt (S : List Shape) (ks : List Nat) : List UInt8 := ks.map fun k => UInt8.ofNat (S.getD k ⟨0, 0⟩).letter

/-- What LineOf comes to. -/
def LinePost (g hm sm qm : Nat) (w : World) (e : Ending) (w' : World) : Prop :=
  ∃ (L : Line) (lv vv : Value) (hand : Nat) (ks vs : List Nat) (lts : ByteArray) (H : Hand), e = .returned (.tuple #[lv, .agg #[.int .i64 hand, .string lts, vv]]) ∧ LineB w' lv L ∧ L.ok ∧ L.hands.length ≤ hm ∧ (∀ h ∈ L.hands, h.shapes.length ≤ sm ∧ ∀ s ∈ h.shapes, s.strokes < 32) ∧
    L.squares.length ≤ qm ∧ Truth L hand ks vs ∧ L.hands[hand]? = some H ∧ marksTo H.shapes ks vs L.squares.length ≤ L.total ∧ lts.data.toList = lettersAt H.shapes ks ∧ IntsB w' vv vs ∧ (∀ (b n c : Nat) (x0 x1 x2 x3 : Value), lv = .agg #[x0, x1, x2, x3, .slice (some ⟨b, 0, none⟩) n c] → w.heap.size ≤ b ∧ n ≤ c ∧ HandsN w.heap.size w' x0 L.hands ∧ SquaresN w.heap.size w' (.slice (some ⟨b, 0, none⟩) n c) L.squares) ∧ UrnAt w' g ∧ Kg g w w'

def lineCells (vh : Value) (worn scr total : Nat) (vs : Value) : List Value := [vh, .int .i64 worn, .int .i64 scr, .int .i64 total, vs]
def cutCells (hand : Nat) (lts : ByteArray) (vv : Value) : List Value := [.int .i64 hand, .string lts, vv]
def zeroLine : List Value := [.slice none 0 0, .int .i64 0, .int .i64 0, .int .i64 0, .slice none 0 0]
def zeroCut : List Value := [.int .i64 0, .string ⟨#[]⟩, .slice none 0 0]
/-- Within the first loop: the hands so far. -/
def HandsI (g : Nat) (w wr : World) (lb r8 r9 base worn scr hm sm k : Nat) : Prop :=
  ∃ (hs : List Hand) (svs : List Value) (vh : Value), Blok wr lb 25 (lineCells vh worn scr 0 (.slice none 0 0)) ∧ Blok wr r8 25 zeroLine ∧ Blok wr r9 32 zeroCut ∧ UrnAt wr g ∧ Kg g w wr ∧
    wr.ownsRow base 68 3 vh hs.length (hdCells hs svs) ∧ HdN w.heap.size wr hs svs ∧ (∀ h ∈ hs, h.ok ∧ h.shapes.length ≤ sm ∧ ∀ s ∈ h.shapes, s.strokes < 32) ∧ hs.length + k ≤ hm ∧ 1 ≤ hs.length + k ∧ base ≤ wr.heap.size
theorem info_hand : (Try.prog.info? 68).map (fun i => (i.zero, i.size, i.bytes)) = some (some (.agg #[.int .i64 0, .int .i64 0, .slice none 0 0]), 3, 40) := by kernel_rfl
theorem HdShapes.snoc {w : World} {hs : List Hand} {svs : List Value} {h : Hand} {sv : Value} (H : HdShapes w hs svs) (hq : ShapesB w sv h.shapes) : HdShapes w (hs ++ [h]) (svs ++ [sv]) := by
  refine ⟨by simp [H.1], fun k a b h1 h2 => ?_⟩
  by_cases hk : k < hs.length
  · rw [List.getElem?_append_left hk] at h1
    rw [List.getElem?_append_left (by rw [H.1]; exact hk)] at h2
    exact H.2 k a b h1 h2
  · have hk' : k = hs.length := by
      have := (List.getElem?_eq_some_iff.1 h1).1
      simp at this
      omega
    subst hk'
    have e1 : h = a := by simpa using h1
    rw [← H.1] at h2
    have e2 : sv = b := by simpa using h2
    rw [← e1, ← e2]
    exact hq
theorem ShapesB.one {w : World} {v : Value} {S : List Shape} (h : ShapesB w v S) : v.oneCell' = true := by
  obtain ⟨b, c, cur, rfl, _⟩ := h
  rfl
theorem own_ne_row {w : World} {base size n b : Nat} {e t : TypeId} {v : Value} {xs cs : List Value} (h : w.ownsRow base e size v n xs) (hb : Blok w b t cs) (hne : e ≠ t) : v.ownBlock ≠ some b := own_ne h hb hne
/-- A round of the first loop. -/
theorem HandsI.step {g : Nat} {w w5 w7 : World} {lb r8 r9 base worn scr hm sm k gg cap : Nat} {hs : List Hand} {svs : List Value} {vh sv : Value} {h : Hand} {o : Obj}
    (B8 : Blok w5 r8 25 zeroLine) (B9 : Blok w5 r9 32 zeroCut) (B7 : Blok w7 lb 25 (lineCells vh worn scr 0 (.slice none 0 0))) (hu : UrnAt w5 g) (hk : Kg g w w5) (hg : (w5.alloc o).grownBy w7 vh.ownBlock)
    (ho : w5.ownsRow base 68 3 vh hs.length (hdCells hs svs))
    (h7 : w7.ownsRow base 68 3 (.slice (some ⟨gg, 0, none⟩) (hs.length + 1) cap) (hs.length + 1) (hdCells hs svs ++ [.int .i64 h.low, .int .i64 h.high, sv]))
    (hS : HdN w.heap.size w5 hs svs) (hsv : ShapesN w.heap.size w5 sv h.shapes) (hok : ∀ h ∈ hs, h.ok ∧ h.shapes.length ≤ sm ∧ ∀ s ∈ h.shapes, s.strokes < 32) (hh : h.ok) (hh2 : h.shapes.length ≤ sm) (hh3 : ∀ s ∈ h.shapes, s.strokes < 32)
    (hlen : hs.length + k ≤ hm) (hb5 : base ≤ w5.heap.size) (h0 : w.heap.size ≤ base) (hk0 : 0 < k) (hne : r8 ≠ lb) (hw0 : w.heap.size ≤ lb) :
    HandsI g w (w7.setCell ⟨lb, 0, none⟩ (.slice (some ⟨gg, 0, none⟩) (hs.length + 1) cap)) lb r8 r9 base worn scr hm sm (k - 1) := by
  have hu5 := hu.alloc o
  have ho5 := ho.alloc o
  have hu7 := hu5.grown hg (hu5.own_ne ho5 (by decide))
  have hgu : g ≠ lb := (hu7.ne B7 (by decide)).symm
  have hS7 : HdShapes w7 hs svs := ⟨hS.1.1, fun k a b h1 h2 => ((hS.1.2 k a b h1 h2).below ((Below.refl _ _).alloc (Nat.le_refl _) o)).grown hg fun b cs hb => own_ne_row ho5 hb (by decide)⟩
  have hsv7 : ShapesB w7 sv h.shapes := (hsv.1.below ((Below.refl _ _).alloc (Nat.le_refl _) o)).grown hg fun b cs hb => own_ne_row ho5 hb (by decide)
  have hs8 := hS7.snoc hsv7
  refine ⟨hs ++ [h], svs ++ [sv], .slice (some ⟨gg, 0, none⟩) (hs.length + 1) cap, B7.put 0 _, ((B8.alloc o).grown hg (own_ne_row ho5 (B8.alloc o) (by decide))).far hne _, ?_, hu7.far hgu _,
    ((hk.alloc o).grown hg fun j e => Nat.le_trans h0 (ho5.lt j e).1).putNew hw0 _, ?_, ⟨⟨hs8.1, fun k a b h1 h2 => (hs8.2 k a b h1 h2).far (p := ⟨lb, 0, none⟩) B7 (by decide) _⟩, fun x hx => by
    rcases List.mem_append.1 hx with hx | hx
    · exact hS.2 x hx
    · obtain rfl : x = sv := by simpa using hx
      exact hsv.2⟩, ?_, ?_, ?_, ?_⟩
  · have b9 := (B9.alloc o).grown hg (own_ne_row ho5 (B9.alloc o) (by decide))
    exact b9.far (blok_ne b9 B7 (by decide)) _
  · have := own_far h7 (p := ⟨lb, 0, none⟩) (own_ne_row h7 B7 (by decide)) (.slice (some ⟨gg, 0, none⟩) (hs.length + 1) cap)
    rw [hdCells_snoc _ _ _ _ hS.1.1, List.length_append]
    exact this
  · intro a ha
    rcases List.mem_append.1 ha with ha | ha
    · exact hok a ha
    · obtain rfl : a = h := by simpa using ha
      exact ⟨hh, hh2, hh3⟩
  · rw [List.length_append]; simp; omega
  · rw [List.length_append]; simp; omega
  · have := hg.size
    simp [World.setCell] at this ⊢
    omega
end Go.Proofs.Ythhajbgddifenaa
