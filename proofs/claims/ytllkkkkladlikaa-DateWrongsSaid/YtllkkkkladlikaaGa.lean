/- What a law holds: an urn, a dating with a truth in variables of its own. One note more: plain. -/
import Derived.Test.YtllkkkkladlikaaFg
import Derived.Test.YtllkkkkladlikaaFk
import Derived.Test.YtllkkkkladlikaaEv
import Derived.Test.YtllkkkkladlikaaEd
namespace Go.Proofs.Ytllkkkkladlikaa
open Go.RowKit Dt

structure LC (w : World) (g bd : Nat) (d : Dat) (ys fs : List Int) (ve vn vy vf : Value) (W : World) : Prop where
  urn : UrnAt W g
  hg : w.heap.size ≤ g
  below : Below w.heap.size w W
  kd : Blok W bd 28 [.int .i64 d.stones, ve, vn]
  kw : Blok W (bd + 1) 30 [vy, vf]
  dat : DatO W w.heap.size (.agg #[.int .i64 d.stones, ve, vn]) d
  oy : IntsO W w.heap.size vy ys
  of : IntsO W w.heap.size vf fs
  zd : w.heap.size ≤ bd
section
variable {w W W' : World} {g bd : Nat} {d : Dat} {ys fs : List Int} {ve vn vy vf : Value}
theorem LC.calls (h : LC w g bd d ys fs ve vn vy vf W) (hu : UrnAt W' g) (hk : Kg g W W') : LC w g bd d ys fs ve vn vy vf W' :=
  ⟨hu, h.hg, h.below.trans (hk.below h.below.size h.hg), h.kd.kg hk (h.urn.ne h.kd (by decide)), h.kw.kg hk (h.urn.ne h.kw (by decide)), h.dat.kg h.urn hk, own_kg h.oy h.urn (by decide) hk, own_kg h.of h.urn (by decide) hk, h.zd⟩
theorem LC.to (h : LC w g bd d ys fs ve vn vy vf W) (hk : Below W.heap.size W W') : LC w g bd d ys fs ve vn vy vf W' :=
  ⟨h.urn.keep hk h.urn.size, h.hg, h.below.trans (hk.mono h.below.size), h.kd.below hk h.kd.size, h.kw.below hk h.kw.size, h.dat.below hk, own_fx h.oy (Fx.of_all hk) (fun _ _ _ _ => trivial), own_fx h.of (Fx.of_all hk) (fun _ _ _ _ => trivial), h.zd⟩
theorem LC.alloc (h : LC w g bd d ys fs ve vn vy vf W) (o : Obj) : LC w g bd d ys fs ve vn vy vf (W.alloc o) := h.to ((Below.refl _ W).alloc (Nat.le_refl _) o)
theorem LC.drew (h : LC w g bd d ys fs ve vn vy vf W) : LC w g bd d ys fs ve vn vy vf W.drew := h.to (Below.refl _ W).drew
theorem LC.start {w1 w2 : World} {smax nmax : Nat} (hb1 : Below w.heap.size w w1) (hg : w.heap.size ≤ g) (hD : DatO w2 w1.heap.size (.agg #[.int .i64 d.stones, ve, vn]) d) (hY : IntsO w2 w1.heap.size vy ys) (hF : IntsO w2 w1.heap.size vf fs) (hu : UrnAt w2 g) (hk : Kg g w1 w2) (_ : smax = nmax) :
    LC w g w2.heap.size d ys fs ve vn vy vf ((w2.alloc (.cells #[.int .i64 d.stones, ve, vn] 28)).alloc (.cells #[vy, vf] 30)) := by
  have b2 : Below w.heap.size w w2 := hb1.trans (hk.below hb1.size hg)
  have ba : Below w2.heap.size w2 ((w2.alloc (.cells #[.int .i64 d.stones, ve, vn] 28)).alloc (.cells #[vy, vf] 30)) := ((Below.refl _ w2).alloc (Nat.le_refl _) _).alloc (by simp) _
  have kw : Blok ((w2.alloc (.cells #[.int .i64 d.stones, ve, vn] 28)).alloc (.cells #[vy, vf] 30)) (w2.heap.size + 1) 30 [vy, vf] := by
    have := Blok.new (w2.alloc (.cells #[.int .i64 d.stones, ve, vn] 28)) 30 [vy, vf]
    simpa only [World.size_alloc] using this
  refine ⟨(hu.alloc _).alloc _, hg, b2.trans (ba.mono b2.size), (Blok.new w2 _ _).alloc _, kw, ?_, ?_, ?_, b2.size⟩
  · obtain ⟨ve', vn', e, h1, xs, h2, h3, h4⟩ := hD.below ba
    exact ⟨ve', vn', e, h1.mono hb1.size, xs, h2, h3.mono hb1.size, fun p hp => (h4 p hp).mono hb1.size⟩
  · exact (own_fx hY (Fx.of_all ba) (fun _ _ _ _ => trivial)).mono hb1.size
  · exact (own_fx hF (Fx.of_all ba) (fun _ _ _ _ => trivial)).mono hb1.size
theorem DatO.slices {B : Nat} {v : Value} (h : DatO W B v d) : ∃ Ae ce An cn, v = .agg #[.int .i64 d.stones, .slice Ae d.eras.length ce, .slice An d.notes.length cn] := by
  obtain ⟨ve, vn, rfl, h1, xs, _, h3, _⟩ := h
  obtain ⟨Ae, ce, rfl⟩ := own_slice h1
  obtain ⟨An, cn, rfl⟩ := own_slice h3
  exact ⟨Ae, ce, An, cn, rfl⟩
end
namespace Dt
/-- A dating with one more note. -/
def Dat.plus (d : Dat) (n : Nt) : Dat := ⟨d.stones, d.eras, d.notes ++ [n]⟩
theorem nt_ok {d d' : Dat} {n : Nt} (h : n.Ok d) (h1 : d'.stones = d.stones) (h2 : d'.eras.length = d.eras.length) : n.Ok d' :=
  ⟨by rw [h1]; exact h.stone, h.kind, h.years, h.span, h.within, fun hk => by rw [h2]; exact h.era hk, fun hk => by rw [h1]; exact h.after hk⟩
theorem plus_ok {d : Dat} {n : Nt} (h : d.Ok) (hn : n.Ok d) (h8 : d.notes.length < 8) : (d.plus n).Ok :=
  ⟨h.stones, h.eras, ⟨by simp [Dat.plus]; omega, fun m hm => by
    rcases List.mem_append.1 hm with hm | hm
    · exact nt_ok (h.notes.2 m hm) rfl rfl
    · rw [List.mem_singleton.1 hm]; exact nt_ok hn rfl rfl⟩⟩
theorem plus_is {d : Dat} {n : Nt} (x : Nat → Int) : (d.plus n).Is x ↔ d.Is x ∧ n.right x :=
  ⟨fun h => ⟨⟨h.zero, h.base, fun m hm => h.notes m (List.mem_append_left _ hm)⟩, h.notes n (by simp [Dat.plus])⟩,
   fun ⟨h, hn⟩ => ⟨h.zero, h.base, fun m hm => by
    rcases List.mem_append.1 hm with hm | hm
    · exact h.notes m hm
    · rw [List.mem_singleton.1 hm]; exact hn⟩⟩
/-- The note that a stone is of one year. -/
def yearN (k : Nat) (y : Int) : Nt := ⟨1, k, 0, [y], 0, 0⟩
theorem yearN_ok {d : Dat} {k : Nat} {y : Int} (hk : k < d.stones) (h1 : -3000 ≤ y) (h2 : y ≤ 3000) : (yearN k y).Ok d :=
  ⟨hk, ⟨by simp [yearN], by simp [yearN]⟩, fun _ => ⟨rfl, rfl, rfl, by simp [yearN], by simp [yearN], fun z hz => by rw [List.mem_singleton.1 hz]; exact ⟨h1, h2⟩, List.pairwise_singleton _ _⟩, fun h => absurd rfl h, fun h => by simp [yearN] at h, fun h => by simp [yearN] at h, fun h => by simp [yearN] at h⟩
theorem yearN_right (k : Nat) (y : Int) (x : Nat → Int) : (yearN k y).right x ↔ x (1 + k) = y := by simp [yearN, Nt.right]
structure Told (d : Dat) (k : Nat) (y : Int) : Prop where
  none : (d.plus (yearN k y)).all = [] ↔ d.cutV (1 + k) y = 2
  some : (d.plus (yearN k y)).all ≠ [] → (d.plus (yearN k y)).span (1 + k) = (y, y)
  sure : d.cutV (1 + k) y = 1 ↔ d.span (1 + k) = (y, y)
  rest : d.cutV (1 + k) y = 1 ∨ d.cutV (1 + k) y = 2 ∨ d.cutV (1 + k) y = 3
theorem told {d : Dat} (h : d.Ok) (hm : d.may) {k : Nat} {y : Int} (hk : k < d.stones) (hx : (d.plus (yearN k y)).Ok) : Told d k y := by
  have hs := h.stones
  have hv := cutV_spec h hm (1 + k) (by omega) y
  have hmay : (d.plus (yearN k y)).may ↔ ∃ x, d.Is x ∧ x (1 + k) = y :=
    ⟨fun ⟨x, hx⟩ => ⟨x, ((plus_is x).1 hx).1, (yearN_right k y x).1 ((plus_is x).1 hx).2⟩, fun ⟨x, hx, hy⟩ => ⟨x, (plus_is x).2 ⟨hx, (yearN_right k y x).2 hy⟩⟩⟩
  refine ⟨?_, fun hne => ?_, ?_, hv.rest⟩
  · rw [hv.no]
    constructor
    · intro he x hxi hxy
      exact (may_iff hx).1 (hmay.2 ⟨x, hxi, hxy⟩) he
    · intro hall
      refine Classical.byContradiction fun hne => ?_
      obtain ⟨x, hxi, hxy⟩ := hmay.1 ((may_iff hx).2 hne)
      exact hall x hxi hxy
  · obtain ⟨⟨a, ha, h1⟩, ⟨b, hb, h2⟩, _⟩ := span_spec hx ((may_iff hx).2 hne) (1 + k) (by omega)
    have ea := (yearN_right k y a).1 ((plus_is a).1 ha).2
    have eb := (yearN_right k y b).1 ((plus_is b).1 hb).2
    exact Prod.ext (h1.symm.trans ea) (h2.symm.trans eb)
  · unfold Dat.cutV
    constructor
    · intro hc
      refine Classical.byContradiction fun hn => ?_
      rw [if_neg hn] at hc
      split at hc <;> omega
    · intro hc
      rw [if_pos hc]
end Dt
end Go.Proofs.Ytllkkkkladlikaa
