/- What a law holds, in general: an urn, a dating with a truth, blocks, rows, notes and datings of its own. -/
import Derived.Test.YtllkkkkladlikaaGh
namespace Go.Proofs.Ytllkkkkladlikaa
open Go.RowKit Dt

structure ORow where
  e : TypeId
  size : Nat
  v : Value
  n : Nat
  xs : List Value
structure OBlok where
  b : Nat
  t : TypeId
  cs : List Value
structure LG (w : World) (g bd : Nat) (d : Dat) (ys fs : List Int) (ve vn vy vf : Value) (K : List OBlok) (L : List ORow) (N : List (Value × List Nt)) (D : List (Value × Dat)) (W : World) : Prop where
  lc : LC w g bd d ys fs ve vn vy vf W
  bl : ∀ p ∈ K, p.t ≠ 69 ∧ w.heap.size ≤ p.b ∧ Blok W p.b p.t p.cs
  ow : ∀ r ∈ L, r.e ≠ 69 ∧ W.ownsRow w.heap.size r.e r.size r.v r.n r.xs
  no : ∀ p ∈ N, NotesO W w.heap.size p.1 p.2
  da : ∀ p ∈ D, DatO W w.heap.size p.1 p.2
section
variable {w W W' : World} {g bd : Nat} {d : Dat} {ys fs : List Int} {ve vn vy vf : Value} {K : List OBlok} {L : List ORow} {N : List (Value × List Nt)} {D : List (Value × Dat)}
theorem LG.calls (h : LG w g bd d ys fs ve vn vy vf K L N D W) (hu : UrnAt W' g) (hk : Kg g W W') : LG w g bd d ys fs ve vn vy vf K L N D W' :=
  ⟨h.lc.calls hu hk, fun p hp => ⟨(h.bl p hp).1, (h.bl p hp).2.1, (h.bl p hp).2.2.kg hk (h.lc.urn.ne (h.bl p hp).2.2 (h.bl p hp).1)⟩, fun r hr => ⟨(h.ow r hr).1, own_kg (h.ow r hr).2 h.lc.urn (h.ow r hr).1 hk⟩,
   fun p hp => (h.no p hp).fx (Fx.of_kg hk h.lc.urn) (fun _ _ _ => by decide), fun p hp => (h.da p hp).kg h.lc.urn hk⟩
theorem LG.to (h : LG w g bd d ys fs ve vn vy vf K L N D W) (hk : Below W.heap.size W W') : LG w g bd d ys fs ve vn vy vf K L N D W' :=
  ⟨h.lc.to hk, fun p hp => ⟨(h.bl p hp).1, (h.bl p hp).2.1, (h.bl p hp).2.2.below hk (h.bl p hp).2.2.size⟩, fun r hr => ⟨(h.ow r hr).1, own_fx (h.ow r hr).2 (Fx.of_all hk) (fun _ _ _ _ => trivial)⟩,
   fun p hp => (h.no p hp).fx (Fx.of_all hk) (fun _ _ _ => ⟨trivial, trivial⟩), fun p hp => (h.da p hp).below hk⟩
theorem LG.alloc (h : LG w g bd d ys fs ve vn vy vf K L N D W) (o : Obj) : LG w g bd d ys fs ve vn vy vf K L N D (W.alloc o) := h.to ((Below.refl _ W).alloc (Nat.le_refl _) o)
theorem LG.drew (h : LG w g bd d ys fs ve vn vy vf K L N D W) : LG w g bd d ys fs ve vn vy vf K L N D W.drew := h.to (Below.refl _ W).drew
theorem LG.urn (h : LG w g bd d ys fs ve vn vy vf K L N D W) : UrnAt W g := h.lc.urn
theorem LG.below (h : LG w g bd d ys fs ve vn vy vf K L N D W) : Below w.heap.size w W := h.lc.below
theorem LG.of (h : LC w g bd d ys fs ve vn vy vf W) : LG w g bd d ys fs ve vn vy vf [] [] [] [] W := ⟨h, by simp, by simp, by simp, by simp⟩
theorem LG.blok (h : LG w g bd d ys fs ve vn vy vf K L N D W) (k : Nat) {p : OBlok} (hp : K[k]? = some p) : Blok W p.b p.t p.cs := (h.bl p (List.mem_of_getElem? hp)).2.2
theorem LG.row (h : LG w g bd d ys fs ve vn vy vf K L N D W) (k : Nat) {r : ORow} (hr : L[k]? = some r) : W.ownsRow w.heap.size r.e r.size r.v r.n r.xs := (h.ow r (List.mem_of_getElem? hr)).2
theorem LG.notes (h : LG w g bd d ys fs ve vn vy vf K L N D W) (k : Nat) {p : Value × List Nt} (hp : N[k]? = some p) : NotesO W w.heap.size p.1 p.2 := h.no p (List.mem_of_getElem? hp)
theorem LG.dat (h : LG w g bd d ys fs ve vn vy vf K L N D W) (k : Nat) {p : Value × Dat} (hp : D[k]? = some p) : DatO W w.heap.size p.1 p.2 := h.da p (List.mem_of_getElem? hp)
theorem LG.addB (h : LG w g bd d ys fs ve vn vy vf K L N D W) (p : OBlok) (h1 : p.t ≠ 69) (h2 : w.heap.size ≤ p.b) (h3 : Blok W p.b p.t p.cs) : LG w g bd d ys fs ve vn vy vf (K ++ [p]) L N D W :=
  ⟨h.lc, fun q hq => by
    rcases List.mem_append.1 hq with hq | hq
    · exact h.bl q hq
    · rw [List.mem_singleton.1 hq]; exact ⟨h1, h2, h3⟩, h.ow, h.no, h.da⟩
theorem LG.addR (h : LG w g bd d ys fs ve vn vy vf K L N D W) (r : ORow) (h1 : r.e ≠ 69) (h3 : W.ownsRow w.heap.size r.e r.size r.v r.n r.xs) : LG w g bd d ys fs ve vn vy vf K (L ++ [r]) N D W :=
  ⟨h.lc, h.bl, fun q hq => by
    rcases List.mem_append.1 hq with hq | hq
    · exact h.ow q hq
    · rw [List.mem_singleton.1 hq]; exact ⟨h1, h3⟩, h.no, h.da⟩
theorem LG.addN (h : LG w g bd d ys fs ve vn vy vf K L N D W) (p : Value × List Nt) (h3 : NotesO W w.heap.size p.1 p.2) : LG w g bd d ys fs ve vn vy vf K L (N ++ [p]) D W :=
  ⟨h.lc, h.bl, h.ow, fun q hq => by
    rcases List.mem_append.1 hq with hq | hq
    · exact h.no q hq
    · rw [List.mem_singleton.1 hq]; exact h3, h.da⟩
theorem LG.addD (h : LG w g bd d ys fs ve vn vy vf K L N D W) (p : Value × Dat) (h3 : DatO W w.heap.size p.1 p.2) : LG w g bd d ys fs ve vn vy vf K L N (D ++ [p]) W :=
  ⟨h.lc, h.bl, h.ow, h.no, fun q hq => by
    rcases List.mem_append.1 hq with hq | hq
    · exact h.da q hq
    · rw [List.mem_singleton.1 hq]; exact h3⟩
/-- A law's start is laid in a world that goes on from w. -/
theorem DatO.mono {B B' : Nat} {v : Value} {d : Dat} (h : DatO W B v d) (hB : B' ≤ B) : DatO W B' v d := by
  obtain ⟨ve, vn, e, h1, xs, h2, h3, h4⟩ := h
  exact ⟨ve, vn, e, h1.mono hB, xs, h2, h3.mono hB, fun p hp => (h4 p hp).mono hB⟩
end
end Go.Proofs.Ytllkkkkladlikaa
