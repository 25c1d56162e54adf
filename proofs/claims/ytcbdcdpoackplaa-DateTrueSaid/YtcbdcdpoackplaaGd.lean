/- DateTrue: what it holds; plain. -/
import Derived.Test.YtcbdcdpoackplaaGa
namespace Go.Proofs.Ytcbdcdpoackplaa
open Go.RowKit Dt

/-- A law's dating with the years of its stones and eras. -/
structure LT (w : World) (g bd : Nat) (d : Dat) (ys fs : List Int) (ve vn vy vf va vb : Value) (la lb : List (Int × Int)) (na nb : Nat) (W : World) : Prop where
  lc : LC w g bd d ys fs ve vn vy vf W
  a : W.ownsRow w.heap.size 39 2 va na (flatS la)
  b : W.ownsRow w.heap.size 39 2 vb nb (flatS lb)
section
variable {w W W' : World} {g bd na nb : Nat} {d : Dat} {ys fs : List Int} {ve vn vy vf va vb : Value} {la lb : List (Int × Int)}
theorem LT.calls (h : LT w g bd d ys fs ve vn vy vf va vb la lb na nb W) (hu : UrnAt W' g) (hk : Kg g W W') : LT w g bd d ys fs ve vn vy vf va vb la lb na nb W' :=
  ⟨h.lc.calls hu hk, own_kg h.a h.lc.urn (by decide) hk, own_kg h.b h.lc.urn (by decide) hk⟩
theorem LT.to (h : LT w g bd d ys fs ve vn vy vf va vb la lb na nb W) (hk : Below W.heap.size W W') : LT w g bd d ys fs ve vn vy vf va vb la lb na nb W' :=
  ⟨h.lc.to hk, own_fx h.a (Fx.of_all hk) (fun _ _ _ _ => trivial), own_fx h.b (Fx.of_all hk) (fun _ _ _ _ => trivial)⟩
theorem LT.alloc (h : LT w g bd d ys fs ve vn vy vf va vb la lb na nb W) (o : Obj) : LT w g bd d ys fs ve vn vy vf va vb la lb na nb (W.alloc o) := h.to ((Below.refl _ W).alloc (Nat.le_refl _) o)
theorem LT.drew (h : LT w g bd d ys fs ve vn vy vf va vb la lb na nb W) : LT w g bd d ys fs ve vn vy vf va vb la lb na nb W.drew := h.to (Below.refl _ W).drew
theorem LT.urn (h : LT w g bd d ys fs ve vn vy vf va vb la lb na nb W) : UrnAt W g := h.lc.urn
theorem LT.below (h : LT w g bd d ys fs ve vn vy vf va vb la lb na nb W) : Below w.heap.size w W := h.lc.below
end
namespace Dt
theorem true_span {smax nmax : Nat} {d : Dat} {ys fs : List Int} (h : Made smax nmax d ys fs) (i : Nat) (y : Int) (hy : ys[i]? = some y) : hasB (d.span (1 + i)).1 (d.span (1 + i)).2 y = true := by
  have hi := (List.getElem?_eq_some_iff.1 hy).1
  have hs := h.ok.stones
  have h1 := (span_spec h.ok ⟨_, h.is⟩ (1 + i) (by have := h.ny; omega)).2.2 _ h.is
  rw [xOf_stone ys fs i y (by have := h.ny; omega) hy] at h1
  simp [hasB, h1.1, h1.2]
theorem true_first {smax nmax : Nat} {d : Dat} {ys fs : List Int} (h : Made smax nmax d ys fs) (i : Nat) (y : Int) (hy : fs[i]? = some y) : hasB (d.span (7 + i)).1 (d.span (7 + i)).2 y = true := by
  have hi := (List.getElem?_eq_some_iff.1 hy).1
  have h1 := (span_spec h.ok ⟨_, h.is⟩ (7 + i) (by have := h.nf; have := h.eras; omega)).2.2 _ h.is
  rw [xOf_era ys fs i y hy] at h1
  simp [hasB, h1.1, h1.2]
theorem fits_of {T so : (Nat → Int) → Prop} {v : Nat} {b : Bool} (h : Verdict T so v) (x : Nat → Int) (hx : T x) (hb : b = true ↔ so x) : fitsB v b = true := by
  unfold fitsB
  rcases h.rest with rfl | rfl | rfl
  · rw [hb.2 (h.yes.1 rfl x hx)]
    decide
  · have : b = false := by
      cases b
      · rfl
      · exact absurd (hb.1 rfl) (h.no.1 rfl x hx)
    rw [this]
    decide
  · simp
theorem true_cut {smax nmax : Nat} {d : Dat} {ys fs : List Int} (h : Made smax nmax d ys fs) (i : Nat) (y : Int) (hy : ys[i]? = some y) (n : Int) : fitsB (d.cutV (1 + i) n) (n == y) = true := by
  have hi := (List.getElem?_eq_some_iff.1 hy).1
  have hs := h.ok.stones
  have hn := h.ny
  refine fits_of (cutV_spec h.ok ⟨_, h.is⟩ (1 + i) (by omega) n) _ h.is ?_
  show _ ↔ xOf ys fs (1 + i) = n
  rw [xOf_stone ys fs i y (by omega) hy]
  rw [beq_iff_eq]
  exact eq_comm
theorem true_later {smax nmax : Nat} {d : Dat} {ys fs : List Int} (h : Made smax nmax d ys fs) (i k : Nat) (y z : Int) (hy : ys[i]? = some y) (hz : ys[k]? = some z) : fitsB (d.laterV (1 + i) (1 + k)) (decide (y < z)) = true := by
  have hi := (List.getElem?_eq_some_iff.1 hy).1
  have hk := (List.getElem?_eq_some_iff.1 hz).1
  have hs := h.ok.stones
  have hn := h.ny
  refine fits_of (laterV_spec h.ok ⟨_, h.is⟩ (1 + i) (1 + k) (by omega) (by omega)) _ h.is ?_
  show _ ↔ xOf ys fs (1 + i) < xOf ys fs (1 + k)
  rw [xOf_stone ys fs i y (by omega) hy, xOf_stone ys fs k z (by omega) hz]
  simp
end Dt
end Go.Proofs.Ytcbdcdpoackplaa
