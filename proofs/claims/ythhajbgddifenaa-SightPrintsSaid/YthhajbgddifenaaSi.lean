/- A line that came in as an argument: what can be read of it is a raw line. -/
import Derived.Test.YthhajbgddifenaaSg
import Derived.Deep.Slices
import Derived.Deep.Fields
import Derived.ChangeSame
namespace Go.Proofs.Ythhajbgddifenaa
open Go.ChangeShapes Go.WideShapes Go.Deep Go.RowKit

section
variable {H : Type} {enc : TypeId × Value → H} {w : World} {base : Nat} {spare : Nat → Bool} {held : Bool}
theorem list_of {α : Type} {P : Nat → α → Prop} : ∀ {n : Nat}, (∀ i, i < n → ∃ a, P i a) → ∃ l : List α, l.length = n ∧ ∀ (k : Nat) (a : α), l[k]? = some a → P k a
  | 0, _ => ⟨[], rfl, fun k a h => by simp at h⟩
  | n + 1, h => by
    obtain ⟨l, hl, hp⟩ := list_of (n := n) fun i hi => h i (by omega)
    obtain ⟨a, ha⟩ := h n (by omega)
    refine ⟨l ++ [a], by simp [hl], fun k b hb => ?_⟩
    rcases Nat.lt_or_ge k n with hk | hk
    · rw [List.getElem?_append_left (by omega)] at hb
      exact hp k b hb
    · have hk2 : k < (l ++ [a]).length := (List.getElem?_eq_some_iff.1 hb).1
      simp [hl] at hk2
      obtain rfl : k = n := by omega
      rw [List.getElem?_append_right (by omega), hl, Nat.sub_self] at hb
      simp at hb
      subst hb
      exact ha
theorem field_part {P : Program} {t : TypeId} {fs : Array Field} {fuel : Nat} {cs : List Value} {x : DataW H × List MemPlace} (ht : P.underlying t = some (.struct fs)) (h : DataW.trod enc P w base spare held fuel t cs = some x) (i : Nat) (f : Field) (hf : fs[i]? = some f) :
    ∃ n y, DataW.trod enc P w base spare held n f.type ((cs.drop f.offset).take (P.cellsOf f.type)) = some y := by
  obtain ⟨xs, n, _, _, _, hxl, hall⟩ := DataW.trod_struct ht h
  have hi : i < xs.length := by rw [hxl]; exact (Array.getElem?_eq_some_iff.1 hf).1
  exact ⟨n, xs[i], (hall i f hf).trans (List.getElem?_eq_getElem hi)⟩
theorem field_one {P : Program} {t : TypeId} {fs : Array Field} {fuel : Nat} {cs : List Value} {x : DataW H × List MemPlace} (ht : P.underlying t = some (.struct fs)) (h : DataW.trod enc P w base spare held fuel t cs = some x) (i : Nat) (f : Field) (hf : fs[i]? = some f) (hc : P.cellsOf f.type = 1) (ho : f.offset < cs.length) :
    ∃ n y v, cs[f.offset]? = some v ∧ DataW.trod enc P w base spare held n f.type [v] = some y := by
  obtain ⟨n, y, hy⟩ := field_part ht h i f hf
  rw [hc, List.drop_eq_getElem_cons ho] at hy
  exact ⟨n, y, _, List.getElem?_eq_getElem ho, hy⟩
theorem field_int {P : Program} {k : IntKind} {t : TypeId} {fs : Array Field} {fuel : Nat} {cs : List Value} {x : DataW H × List MemPlace} (ht : P.underlying t = some (.struct fs)) (h : DataW.trod enc P w base spare held fuel t cs = some x) (i : Nat) (f : Field) (hf : fs[i]? = some f) (hc : P.cellsOf f.type = 1) (ho : f.offset < cs.length) (hk : P.underlying f.type = some (.int k)) :
    ∃ n : Int, cs[f.offset]? = some (.int k n) := by
  obtain ⟨n, y, v, h1, h2⟩ := field_one ht h i f hf hc ho
  obtain ⟨m, h3, _⟩ := DataW.trod_int hk h2
  injection h3 with h3
  exact ⟨m, by rw [h1, h3]⟩
theorem cells_int : Try.prog.cellsOf 3 = 1 := by kernel_rfl
theorem cells_u8 : Try.prog.cellsOf 5 = 1 := by kernel_rfl
theorem cells_light : Try.prog.cellsOf 27 = 2 := by kernel_rfl
theorem cells_shape : Try.prog.cellsOf 86 = 2 := by kernel_rfl
theorem cells_span : Try.prog.cellsOf 48 = 2 := by kernel_rfl
theorem cells_hand : Try.prog.cellsOf 68 = 3 := by kernel_rfl
theorem cells_lights : Try.prog.cellsOf 39 = 1 := by kernel_rfl
theorem cells_shapes : Try.prog.cellsOf 66 = 1 := by kernel_rfl
theorem cells_hands : Try.prog.cellsOf 22 = 1 := by kernel_rfl
theorem cells_squares : Try.prog.cellsOf 23 = 1 := by kernel_rfl
theorem cells_line : Try.prog.cellsOf 25 = 5 := by kernel_rfl
theorem open_light {fuel : Nat} {cs : List Value} {x : DataW H × List MemPlace} (h : DataW.trod enc Try.prog w base spare held fuel 27 cs = some x) : ∃ r : RLight, cs[0]? = some (.int .i64 r.shows) ∧ cs[1]? = some (.int .i64 r.seen) := by
  obtain ⟨_, _, _, _, hl, _, _⟩ := DataW.trod_struct Try.underlying27 h
  rw [cells_light] at hl
  obtain ⟨a, ha⟩ := field_int Try.underlying27 h 0 _ rfl cells_int (by simp; omega) Try.underlying3
  obtain ⟨b, hb⟩ := field_int Try.underlying27 h 1 _ rfl cells_int (by simp; omega) Try.underlying3
  exact ⟨⟨a, b⟩, ha, hb⟩
theorem open_shape {fuel : Nat} {cs : List Value} {x : DataW H × List MemPlace} (h : DataW.trod enc Try.prog w base spare held fuel 86 cs = some x) : ∃ r : RShape, cs[0]? = some (.int .u8 r.letter) ∧ cs[1]? = some (.int .i64 r.strokes) := by
  obtain ⟨_, _, _, _, hl, _, _⟩ := DataW.trod_struct Try.underlying86 h
  rw [cells_shape] at hl
  obtain ⟨a, ha⟩ := field_int Try.underlying86 h 0 _ rfl cells_u8 (by simp; omega) Try.underlying5
  obtain ⟨b, hb⟩ := field_int Try.underlying86 h 1 _ rfl cells_int (by simp; omega) Try.underlying3
  exact ⟨⟨a, b⟩, ha, hb⟩
theorem open_rows {P : Program} {t e : TypeId} {fuel size : Nat} {cs : List Value} {x : DataW H × List MemPlace} {α : Type} {T : Addr → Nat → α → Prop} (ht : P.underlying t = some (.slice e)) (hsz : P.cellsOf e = size) (h : DataW.trod enc P w base spare held fuel t cs = some x)
    (hpos : 0 < size) (hT : ∀ (a : Addr) (i : Nat) (cs' : List Value) (n : Nat) (y : DataW H × List MemPlace), (∀ j, j < size → w.cell? (a.add (i * size + j)) = cs'[j]?) → cs'.length = size → DataW.trod enc P w base spare held n e cs' = some y → ∃ r : α, T a i r) :
    ∃ (v : Value) (l : List α), cs = [v] ∧ RSl w.heap.size v l.length fun a => ∀ (k : Nat) (r : α), l[k]? = some r → T a k r := by
  rcases open_slice ht h with ⟨rfl, _⟩ | ⟨a, len, cap, m, n, D, Pl, rfl, hb, hl, hm, hmm, _, hi⟩
  · exact ⟨_, [], rfl, .inl ⟨rfl, rfl⟩⟩
  · have hlm : len ≤ m := by rw [hmm]; split <;> omega
    have hall : ∀ i, i < len → ∃ r : α, T a i r := fun i hil => by
      obtain ⟨cs', hc, ht'⟩ := hi i (by omega)
      rw [hsz] at hc
      obtain ⟨_, hcl, hat⟩ := World.cells?_some hc
      exact hT a i cs' n _ (fun j hj => by rw [← add_add]; exact hat j hj) hcl ht'
    obtain ⟨l, hll, hlp⟩ := list_of hall
    refine ⟨_, l, rfl, .inr ⟨a, cap, by rw [hll], fun h0 => ⟨?_, hlp⟩⟩⟩
    obtain ⟨cs', hc, _⟩ := hi 0 (by omega)
    rw [hsz] at hc
    obtain ⟨_, hcl, hat⟩ := World.cells?_some hc
    have h1 := hat 0 hpos
    rw [List.getElem?_eq_getElem (by omega)] at h1
    have h2 := World.block_lt_of_cell? w _ h1
    rw [Addr.add_block, Addr.add_block] at h2
    exact h2
theorem open_lights {fuel : Nat} {cs : List Value} {x : DataW H × List MemPlace} (h : DataW.trod enc Try.prog w base spare held fuel 39 cs = some x) : ∃ (v : Value) (q : List RLight), cs = [v] ∧ RLights w w.heap.size v q :=
  open_rows (T := fun (a : Addr) (k : Nat) (y : RLight) => w.cell? (a.add (k * 2)) = some (.int .i64 y.shows) ∧ w.cell? (a.add (k * 2 + 1)) = some (.int .i64 y.seen)) Try.underlying39 cells_light h (by decide) fun a i cs' n y hc hl ht => by
    obtain ⟨r, h0, h1⟩ := open_light ht
    exact ⟨r, by rw [← Nat.add_zero (i * 2), hc 0 (by decide)]; exact h0, by rw [hc 1 (by decide)]; exact h1⟩
theorem open_shapes {fuel : Nat} {cs : List Value} {x : DataW H × List MemPlace} (h : DataW.trod enc Try.prog w base spare held fuel 66 cs = some x) : ∃ (v : Value) (q : List RShape), cs = [v] ∧ RShapes w w.heap.size v q :=
  open_rows (T := fun (a : Addr) (k : Nat) (y : RShape) => w.cell? (a.add (k * 2)) = some (.int .u8 y.letter) ∧ w.cell? (a.add (k * 2 + 1)) = some (.int .i64 y.strokes)) Try.underlying66 cells_shape h (by decide) fun a i cs' n y hc hl ht => by
    obtain ⟨r, h0, h1⟩ := open_shape ht
    exact ⟨r, by rw [← Nat.add_zero (i * 2), hc 0 (by decide)]; exact h0, by rw [hc 1 (by decide)]; exact h1⟩
theorem open_squares {fuel : Nat} {cs : List Value} {x : DataW H × List MemPlace} (h : DataW.trod enc Try.prog w base spare held fuel 23 cs = some x) : ∃ (v : Value) (q : List (List RLight)), cs = [v] ∧ RSquares w w.heap.size v q :=
  open_rows (T := fun (a : Addr) (k : Nat) (y : List RLight) => ∃ v, w.cell? (a.add k) = some v ∧ RLights w w.heap.size v y) Try.underlying23 cells_lights h (by decide) fun a i cs' n y hc hl ht => by
    obtain ⟨v, q, rfl, hq⟩ := open_lights ht
    refine ⟨q, v, ?_, hq⟩
    have h0 := hc 0 (by decide)
    rw [Nat.mul_one, Nat.add_zero] at h0
    exact h0
theorem open_hand {fuel : Nat} {cs : List Value} {x : DataW H × List MemPlace} (h : DataW.trod enc Try.prog w base spare held fuel 68 cs = some x) : ∃ (r : RHand) (v : Value), cs[0]? = some (.int .i64 r.low) ∧ cs[1]? = some (.int .i64 r.high) ∧ cs[2]? = some v ∧ RShapes w w.heap.size v r.shapes := by
  obtain ⟨_, _, _, _, hl, _, _⟩ := DataW.trod_struct Try.underlying68 h
  rw [cells_hand] at hl
  obtain ⟨n, y, hy⟩ := field_part Try.underlying68 h 0 _ rfl
  have hy : DataW.trod enc Try.prog w base spare held n 48 ((cs.drop 0).take (Try.prog.cellsOf 48)) = some y := hy
  rw [cells_span, List.drop_zero] at hy
  have hl2 : (cs.take 2).length = 2 := by rw [List.length_take]; omega
  obtain ⟨a, ha⟩ := field_int Try.underlying48 hy 0 _ rfl cells_int (by simp; omega) Try.underlying3
  obtain ⟨b, hb⟩ := field_int Try.underlying48 hy 1 _ rfl cells_int (by simp; omega) Try.underlying3
  obtain ⟨n2, y2, v, hv, h2⟩ := field_one Try.underlying68 h 1 _ rfl cells_shapes (by simp; omega)
  obtain ⟨v2, q, he, hq⟩ := open_shapes h2
  injection he with he
  subst he
  have ha : (cs.take 2)[0]? = some (.int .i64 a) := ha
  have hb : (cs.take 2)[1]? = some (.int .i64 b) := hb
  rw [List.getElem?_take, if_pos (by omega)] at ha hb
  exact ⟨⟨a, b, q⟩, v, ha, hb, hv, hq⟩
theorem open_hands {fuel : Nat} {cs : List Value} {x : DataW H × List MemPlace} (h : DataW.trod enc Try.prog w base spare held fuel 22 cs = some x) : ∃ (v : Value) (q : List RHand), cs = [v] ∧ RHands w w.heap.size v q :=
  open_rows (T := fun (a : Addr) (k : Nat) (y : RHand) => w.cell? (a.add (k * 3)) = some (.int .i64 y.low) ∧ w.cell? (a.add (k * 3 + 1)) = some (.int .i64 y.high) ∧ ∃ v, w.cell? (a.add (k * 3 + 2)) = some v ∧ RShapes w w.heap.size v y.shapes) Try.underlying22 cells_hand h (by decide) fun a i cs' n y hc hl ht => by
    obtain ⟨r, v, h0, h1, h2, h3⟩ := open_hand ht
    exact ⟨r, by rw [← Nat.add_zero (i * 3), hc 0 (by decide)]; exact h0, by rw [hc 1 (by decide)]; exact h1, v, by rw [hc 2 (by decide)]; exact h2, h3⟩
set_option maxRecDepth 100000 in
theorem open_line {r : Reach} {b0 : Nat} {v : Value} {d : DataW H} {p : List MemPlace} (hv : Value.okWide Try.prog w r b0 25 v) (h : DataW.Trod enc Try.prog w base spare held 25 v d p) : ∃ R : RLine, RLineAt w w.heap.size v R := by
  obtain ⟨cs, rfl, hsz⟩ := okWide_struct Try.underlying25 hv
  obtain ⟨fuel, hf⟩ := h
  obtain ⟨l⟩ := cs
  have hl : l.length = 5 := hsz.trans cells_line
  have hf : DataW.trod enc Try.prog w base spare held fuel 25 l = some (d, p) := hf
  obtain ⟨n0, y0, v0, g0, k0⟩ := field_one Try.underlying25 hf 0 _ rfl cells_hands (by simp; omega)
  obtain ⟨a, g1⟩ := field_int Try.underlying25 hf 1 _ rfl cells_int (by simp; omega) Try.underlying3
  obtain ⟨b, g2⟩ := field_int Try.underlying25 hf 2 _ rfl cells_int (by simp; omega) Try.underlying3
  obtain ⟨c, g3⟩ := field_int Try.underlying25 hf 3 _ rfl cells_int (by simp; omega) Try.underlying3
  obtain ⟨n4, y4, v4, g4, k4⟩ := field_one Try.underlying25 hf 4 _ rfl cells_squares (by simp; omega)
  obtain ⟨v0', hs, e0, h0⟩ := open_hands k0
  obtain ⟨v4', qs, e4, h4⟩ := open_squares k4
  injection e0 with e0
  injection e4 with e4
  subst e0 e4
  refine ⟨⟨hs, a, b, c, qs⟩, v0, v4, ?_, h0, h4⟩
  match l, hl with
  | [c0, c1, c2, c3, c4], _ =>
    obtain rfl : c0 = v0 := Option.some.inj g0
    obtain rfl : c1 = .int .i64 a := Option.some.inj g1
    obtain rfl : c2 = .int .i64 b := Option.some.inj g2
    obtain rfl : c3 = .int .i64 c := Option.some.inj g3
    obtain rfl : c4 = v4 := Option.some.inj g4
    rfl
set_option maxRecDepth 100000 in
theorem open_more {r : Reach} {b0 : Nat} {v : Value} {d : DataW H} {p : List MemPlace} (hv : Value.okWide Try.prog w r b0 27 v) (h : DataW.Trod enc Try.prog w base spare held 27 v d p) : ∃ x : RLight, v = .agg #[.int .i64 x.shows, .int .i64 x.seen] := by
  obtain ⟨cs, rfl, hsz⟩ := okWide_struct Try.underlying27 hv
  obtain ⟨fuel, hf⟩ := h
  obtain ⟨l⟩ := cs
  have hl : l.length = 2 := hsz.trans cells_light
  have hf : DataW.trod enc Try.prog w base spare held fuel 27 l = some (d, p) := hf
  obtain ⟨x, h0, h1⟩ := open_light hf
  match l, hl with
  | [c0, c1], _ =>
    obtain rfl : c0 = .int .i64 x.shows := Option.some.inj h0
    obtain rfl : c1 = .int .i64 x.seen := Option.some.inj h1
    exact ⟨x, rfl⟩
end
end Go.Proofs.Ythhajbgddifenaa
