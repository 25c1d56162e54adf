/- Datings that a call made: their slices own their blocks. Frames by type: what keeps all blocks of some kinds keeps such a dating. -/
import Derived.Test.YtcbdcdpoackplaaFa
import Derived.Test.YtcbdcdpoackplaaLy
namespace Go.Proofs.Ytcbdcdpoackplaa
open Go.RowKit Dt

/-- All blocks of cells of which p speaks are as they were. -/
def Fx (p : Nat → TypeId → Prop) (w w' : World) : Prop := ∀ (b : Nat) (t : TypeId) (cs : List Value), p b t → Blok w b t cs → Blok w' b t cs
section
variable {p q : Nat → TypeId → Prop} {a b c w w' : World}
theorem Fx.refl (p : Nat → TypeId → Prop) (w : World) : Fx p w w := fun _ _ _ _ h => h
theorem Fx.trans (h : Fx p a b) (k : Fx p b c) : Fx p a c := fun i t cs hp hb => k i t cs hp (h i t cs hp hb)
theorem Fx.mono (h : Fx p a b) (hq : ∀ i t, q i t → p i t) : Fx q a b := fun i t cs hp hb => h i t cs (hq i t hp) hb
theorem Fx.of_kg {g : Nat} (h : Kg g w w') (hu : UrnAt w g) : Fx (fun _ t => t ≠ 66) w w' := fun _ _ _ ht hb => hb.kg h (hu.ne hb ht)
theorem Fx.of_kgB {g : Nat} (h : Kg g w w') : Fx (fun i _ => i ≠ g) w w' := fun _ _ _ ht hb => hb.kg h ht
theorem Fx.of_below {B : Nat} (h : Below B w w') : Fx (fun i _ => i < B) w w' := fun _ _ _ ht hb => hb.below h ht
theorem Fx.of_all (h : Below w.heap.size w w') : Fx (fun _ _ => True) w w' := fun _ _ _ _ hb => hb.below h hb.size
theorem Fx.of_grown {row : Option Nat} (h : w.grownBy w' row) : Fx (fun i _ => row ≠ some i) w w' := fun _ _ _ ht hb => hb.grown h ht
theorem Fx.of_put (w : World) (x : Addr) (u : Value) : Fx (fun i _ => i ≠ x.block) w (w.setCell x u) := fun _ _ _ ht hb => hb.far ht u
theorem Fx.of_putT {x : Addr} {t0 : TypeId} {cs0 : List Value} (h : Blok w x.block t0 cs0) (u : Value) : Fx (fun _ t => t ≠ t0) w (w.setCell x u) := fun _ _ _ ht hb => hb.far (fun e => by
  subst e
  have h2 := hb.symm.trans h
  injection h2 with h2
  injection h2 with _ h2
  exact ht h2) u
theorem Fx.alloc (w : World) (o : Obj) : Fx (fun _ _ => True) w (w.alloc o) := fun _ _ _ _ hb => hb.alloc o
theorem Fx.drew (w : World) : Fx (fun _ _ => True) w w.drew := fun _ _ _ _ hb => hb
end
theorem own_fx {p : Nat → TypeId → Prop} {w w' : World} {base size n : Nat} {e : TypeId} {v : Value} {xs : List Value} (h : w.ownsRow base e size v n xs) (hk : Fx p w w') (hp : ∀ b, base ≤ b → b < w.heap.size → v.ownBlock = some b → p b e) : w'.ownsRow base e size v n xs := by
  obtain ⟨h1, h2⟩ := h
  refine ⟨h1, ?_⟩
  rcases h2 with h2 | ⟨r, cap, cur, rfl, e2, e3, e4⟩
  · exact .inl h2
  · have hb : Blok w r e cur.toList := by unfold Blok; rw [e3]
    have := hk r e cur.toList (hp r e2 hb.size rfl) hb
    exact .inr ⟨r, cap, cur, rfl, e2, by unfold Blok at this; simpa using this, e4⟩
/-- The cells of some notes, each with the value of its years. -/
def cellsN (xs : List (Nt × Value)) : List Value := xs.flatMap fun p => ntL p.1 p.2
theorem cellsN_snoc (xs : List (Nt × Value)) (p : Nt × Value) : cellsN (xs ++ [p]) = cellsN xs ++ ntL p.1 p.2 := by simp [cellsN]
theorem cellsN_len : ∀ xs : List (Nt × Value), (cellsN xs).length = xs.length * 6
  | [] => rfl
  | p :: xs => by
    have := cellsN_len xs
    simp only [cellsN, List.flatMap_cons, List.length_append] at this ⊢
    rw [this]
    simp [ntL]
    omega
theorem cellsN_at : ∀ (xs : List (Nt × Value)) (k : Nat) (p : Nt × Value) (i : Nat), xs[k]? = some p → i < 6 → (cellsN xs)[k * 6 + i]? = (ntL p.1 p.2)[i]?
  | [], k, p, i, h, _ => by simp at h
  | a :: xs, 0, p, i, h, hi => by
    obtain rfl : a = p := by simpa using h
    simp only [cellsN, List.flatMap_cons]
    rw [List.getElem?_append_left (by simp [ntL]; omega), Nat.zero_mul, Nat.zero_add]
  | a :: xs, k + 1, p, i, h, hi => by
    have := cellsN_at xs k p i (by simpa using h) hi
    simp only [cellsN, List.flatMap_cons] at this ⊢
    rw [List.getElem?_append_right (by simp [ntL]; omega), ← this]
    congr 1
    simp [ntL]
    omega
def intCells (l : List Int) : List Value := l.map fun x => .int .i64 x
/-- A slice of numbers, of spans, that has a block of its own. -/
abbrev IntsO (w : World) (B : Nat) (v : Value) (l : List Int) : Prop := w.ownsRow B 3 1 v l.length (intCells l)
abbrev SpansO (w : World) (B : Nat) (v : Value) (l : List (Int × Int)) : Prop := w.ownsRow B 39 2 v l.length (flatS l)
/-- Notes in a block of their own, and the years of each in another one. -/
def NotesO (w : World) (B : Nat) (v : Value) (l : List Nt) : Prop := ∃ xs : List (Nt × Value), xs.map Prod.fst = l ∧ w.ownsRow B 51 6 v l.length (cellsN xs) ∧ ∀ p ∈ xs, IntsO w B p.2 p.1.years
def DatO (w : World) (B : Nat) (v : Value) (d : Dat) : Prop := ∃ ve vn, v = .agg #[.int .i64 d.stones, ve, vn] ∧ SpansO w B ve d.eras ∧ NotesO w B vn d.notes
theorem intsO_ints {w : World} {B : Nat} {v : Value} {l : List Int} (h : IntsO w B v l) : Ints w w.heap.size v l := by
  obtain ⟨h1, h2⟩ := h
  rcases h2 with ⟨rfl, h0⟩ | ⟨g, cap, cur, rfl, hbg, hg, hcap, _, hsz, htake⟩
  · have e : l = [] := List.length_eq_zero_iff.1 h0
    subst e
    exact ⟨_, _, rfl, fun h => absurd h (by simp)⟩
  · have hb : Blok w g 3 cur.toList := by unfold Blok; rw [hg]
    refine ⟨_, _, rfl, fun _ => ⟨g, 0, rfl, hb.size, fun k x hx => ?_⟩⟩
    have hk := (List.getElem?_eq_some_iff.1 hx).1
    have e : (intCells l)[k]? = some (.int .i64 x) := by simp [intCells, hx]
    rw [← htake, List.getElem?_take, if_pos (by omega)] at e
    rw [Nat.zero_add, hb.cell]
    exact e
theorem notesO_notes {w : World} {B : Nat} {v : Value} {l : List Nt} (h : NotesO w B v l) : Notes w w.heap.size v l := by
  obtain ⟨xs, rfl, ⟨h1, h2⟩, hy⟩ := h
  rcases h2 with ⟨rfl, h0⟩ | ⟨g, cap, cur, rfl, hbg, hg, hcap, _, hsz, htake⟩
  · have e : xs = [] := by simpa using h0
    subst e
    exact ⟨_, _, rfl, fun h => absurd h (by simp)⟩
  · have hb : Blok w g 51 cur.toList := by unfold Blok; rw [hg]
    refine ⟨_, _, rfl, fun _ => ⟨g, 0, rfl, hb.size, fun k x hx => ?_⟩⟩
    obtain ⟨p, hp, rfl⟩ : ∃ p, xs[k]? = some p ∧ p.1 = x := by
      rw [List.getElem?_map] at hx
      cases hq : xs[k]? with
      | none => rw [hq] at hx; simp at hx
      | some p => rw [hq] at hx; simp at hx; exact ⟨p, rfl, hx⟩
    have hk := (List.getElem?_eq_some_iff.1 hp).1
    have e : ∀ i, i < 6 → w.cell? ⟨g, k * 6 + i, none⟩ = (ntL p.1 p.2)[i]? := fun i hi => by
      have e := cellsN_at xs k p i hp hi
      rw [← htake, List.getElem?_take, if_pos (by simp; omega)] at e
      rw [hb.cell]
      exact e
    simp only [Nat.zero_add]
    exact ⟨e 0 (by omega), e 1 (by omega), e 2 (by omega), ⟨p.2, e 3 (by omega), intsO_ints (hy p (List.mem_of_getElem? hp))⟩, e 4 (by omega), e 5 (by omega)⟩
theorem DatO.dat {w : World} {B : Nat} {v : Value} {d : Dat} (h : DatO w B v d) : DatAt w w.heap.size v d := by
  obtain ⟨ve, vn, rfl, h1, h2⟩ := h
  exact ⟨ve, vn, rfl, spans_of_own h1, notesO_notes h2⟩
/-- What keeps spans, notes and numbers from B on keeps a dating. -/
def Kd (B : Nat) (p : Nat → TypeId → Prop) : Prop := ∀ b t, B ≤ b → (t = 39 ∨ t = 51 ∨ t = 3) → p b t
theorem NotesO.fx {p : Nat → TypeId → Prop} {w w' : World} {B : Nat} {v : Value} {l : List Nt} (h : NotesO w B v l) (hk : Fx p w w') (hp : ∀ b, B ≤ b → b < w.heap.size → p b 51 ∧ p b 3) : NotesO w' B v l := by
  obtain ⟨xs, e, h1, h2⟩ := h
  exact ⟨xs, e, own_fx h1 hk fun b h1 h2 _ => (hp b h1 h2).1, fun q hq => own_fx (h2 q hq) hk fun b h1 h2 _ => (hp b h1 h2).2⟩
theorem DatO.fx {p : Nat → TypeId → Prop} {w w' : World} {B : Nat} {v : Value} {d : Dat} (h : DatO w B v d) (hk : Fx p w w') (hp : ∀ b t, B ≤ b → b < w.heap.size → (t = 39 ∨ t = 51 ∨ t = 3) → p b t) : DatO w' B v d := by
  obtain ⟨ve, vn, rfl, h1, h2⟩ := h
  exact ⟨ve, vn, rfl, own_fx h1 hk fun b k1 k2 _ => hp b _ k1 k2 (.inl rfl), h2.fx hk fun b k1 k2 => ⟨hp b _ k1 k2 (.inr (.inl rfl)), hp b _ k1 k2 (.inr (.inr rfl))⟩⟩
theorem DatO.kg {w w' : World} {g B : Nat} {v : Value} {d : Dat} (h : DatO w B v d) (hu : UrnAt w g) (hk : Kg g w w') : DatO w' B v d :=
  h.fx (Fx.of_kg hk hu) fun _ t _ _ ht => by rcases ht with rfl | rfl | rfl <;> decide
theorem DatO.below {w w' : World} {B : Nat} {v : Value} {d : Dat} (h : DatO w B v d) (hk : Below w.heap.size w w') : DatO w' B v d := h.fx (Fx.of_all hk) fun _ _ _ _ _ => trivial
end Go.Proofs.Ytcbdcdpoackplaa
