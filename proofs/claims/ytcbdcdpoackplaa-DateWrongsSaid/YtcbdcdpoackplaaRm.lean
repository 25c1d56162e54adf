/- A loop's state across stores into blocks of the iterator's own. -/
import Derived.Test.YtcbdcdpoackplaaRl
import Derived.Test.YtcbdcdpoackplaaMa
namespace Go.Proofs.Ytcbdcdpoackplaa
open Go.RowKit

section
variable {α : Type} {c n₀ : Nat} {G : World → Nat → Prop} {J : List α → World → Prop}
theorem Keeps.fresh (h : Keeps c G J) {pre : List α} {W W' : World} (hj : J pre W) (hc : c ≤ W.heap.size) (hb : Below W.heap.size W W') : ∀ k, W.heap.size ≤ k → ¬ G W' k := by
  intro k hk hg
  have h2 := (h.step pre W W' hj ⟨hb.mono hc, fun b hg => hb.block b (h.lies pre W b hj hg)⟩).2 k hg
  have := h.lies pre W k hj h2
  omega
theorem Rnd.none {W W' : World} (h : Rnd n₀ G W W') {k : Nat} (hk : k < W.heap.size) (hg : ¬ G W k) : ¬ G W' k := fun hg' => by
  rcases h.grow k hg' with h1 | h1
  · exact hg h1
  · omega
theorem Rnd.blok {W W' : World} (h : Rnd n₀ G W W') {k : Nat} {t : TypeId} {cs : List Value} (hg : ¬ G W k) (hb : Blok W k t cs) : Blok W' k t cs := (h.rest k hb.size hg).trans hb
/-- A store into a block that is the iterator's own. -/
theorem Keeps.put (h : Keeps c G J) {pre : List α} {W : World} (hj : J pre W) {k : Nat} (hk : c ≤ k) (hg : ¬ G W k) (i : Nat) (u : Value) : J pre (W.setCell ⟨k, i, none⟩ u) ∧ ∀ b, G (W.setCell ⟨k, i, none⟩ u) b → G W b :=
  h.step pre W _ hj ⟨(Below.refl _ W).setCell (p := ⟨k, i, none⟩) hk u, fun b hg' => Below.heap_setCell _ _ _ _ (show b ≠ k from fun e => hg (e ▸ hg'))⟩
theorem Keeps.putRow (h : Keeps c G J) {pre : List α} {W : World} (hj : J pre W) {k : Nat} (hk : c ≤ k) (hg : ¬ G W k) (cs : Array Value) : J pre (W.setRow k cs) ∧ ∀ b, G (W.setRow k cs) b → G W b :=
  h.step pre W _ hj ⟨below_setRow (Below.refl _ W) hk cs, fun b hg' => setRow_other W k b cs (fun e => hg (e ▸ hg'))⟩
theorem Rnd.put {W W' : World} (h : Rnd n₀ G W W') {k : Nat} (hk : W.heap.size ≤ k) (hn : n₀ ≤ k) (i : Nat) (u : Value) (hs : ∀ b, G (W'.setCell ⟨k, i, Option.none⟩ u) b → G W' b) : Rnd n₀ G W (W'.setCell ⟨k, i, Option.none⟩ u) :=
  ⟨h.below.setCell (p := ⟨k, i, Option.none⟩) hn u, fun b hb hg => (Below.heap_setCell _ _ _ _ (by show b ≠ k; omega)).trans (h.rest b hb hg), fun b hg => h.grow b (hs b hg)⟩
theorem Rnd.putRow {W W' : World} (h : Rnd n₀ G W W') {k : Nat} (hk : W.heap.size ≤ k) (hn : n₀ ≤ k) (cs : Array Value) (hs : ∀ b, G (W'.setRow k cs) b → G W' b) : Rnd n₀ G W (W'.setRow k cs) :=
  ⟨below_setRow h.below hn cs, fun b hb hg => (setRow_other W' k b cs (by omega)).trans (h.rest b hb hg), fun b hg => h.grow b (hs b hg)⟩
theorem Keeps.drew (h : Keeps c G J) {pre : List α} {W : World} (hj : J pre W) (m : Nat) : J pre (W.drewN m) ∧ ∀ b, G (W.drewN m) b → G W b :=
  h.step pre W _ hj ⟨⟨rfl, rfl, rfl, Nat.le_refl _, fun _ _ => rfl⟩, fun _ _ => rfl⟩
/-- One block more is the loop's. -/
def AddB (G : World → Nat → Prop) (r : Nat) : World → Nat → Prop := fun W b => G W b ∨ b = r
theorem Rnd.add {W W' : World} (h : Rnd n₀ G W W') (r : Nat) : Rnd n₀ (AddB G r) W W' := by
  refine ⟨h.below, fun b hb hg => h.rest b hb fun hg' => hg (.inl hg'), fun b hg => ?_⟩
  rcases hg with hg | hg
  · rcases h.grow b hg with h1 | h1
    · exact .inl (.inl h1)
    · exact .inr h1
  · exact .inl (.inr hg)
theorem Rnd.drop {W w1 W' : World} {r : Nat} (h1 : Rnd n₀ G W w1) (h2 : Rnd n₀ (AddB G r) w1 W') (hr : W.heap.size ≤ r) : Rnd n₀ G W W' := by
  have hs := h1.below.size
  refine ⟨h1.below.trans h2.below, fun b hb hg => ?_, fun b hg => ?_⟩
  · refine (h2.rest b (by omega) fun hg' => ?_).trans (h1.rest b hb hg)
    rcases hg' with hg' | hg'
    · exact h1.none hb hg hg'
    · omega
  · rcases h2.grow b (.inl hg) with (h3 | h3) | h3
    · exact h1.grow b h3
    · exact .inr (by omega)
    · exact .inr (by omega)
/-- A store into a block that is the loop's. -/
theorem Rnd.touch {W W' : World} (h : Rnd n₀ G W W') {k : Nat} (hk : G W k) (hn : n₀ ≤ k) (i : Nat) (u : Value) (hs : ∀ b, G (W'.setCell ⟨k, i, Option.none⟩ u) b → G W' b) : Rnd n₀ G W (W'.setCell ⟨k, i, Option.none⟩ u) :=
  ⟨h.below.setCell (p := ⟨k, i, Option.none⟩) hn u, fun b hb hg => (Below.heap_setCell _ _ _ _ (show b ≠ k from fun e => hg (e ▸ hk))).trans (h.rest b hb hg), fun b hg => h.grow b (hs b hg)⟩
theorem Blok.ne_loop {w : World} {g k : Nat} {t : TypeId} {cs : List Value} {r : Loop} (h : Blok w g t cs) (hl : w.heap[k]? = some (.loop r)) : g ≠ k := fun e => by
  subst e
  rw [Blok, hl] at h
  cases h
theorem Blok.putObj {w : World} {g k : Nat} {t : TypeId} {cs : List Value} {r : Loop} (h : Blok w g t cs) (hl : w.heap[k]? = some (.loop r)) (o : Obj) : Blok (w.putObj k o) g t cs := (World.putObj_heap_other (h.ne_loop hl)).trans h
end
end Go.Proofs.Ytcbdcdpoackplaa
