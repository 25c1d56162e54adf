/- A set of letters that was gathered: its size, and what is in it; in order. -/
import Derived.Test.YtcemefojpaicoaaDoorO
import Derived.Test.YtcemefojpaicoaaDoorI
namespace Go.Proofs.YtcemefojpaicoaaDoor
open Go.RowKit Go.Maps Go.Shelf

/-- The letters of zs, each once, from the least on. -/
def orderOf (zs : List (Fin 256)) : List Nat := (List.range 256).filter fun x => zs.any fun z => z.val == x
theorem mem_orderOf {zs : List (Fin 256)} {x : Nat} : x ∈ orderOf zs ↔ ∃ z ∈ zs, z.val = x := by
  simp only [orderOf, List.mem_filter, List.mem_range, List.any_eq_true, beq_iff_eq]
  constructor
  · rintro ⟨_, h⟩; exact h
  · rintro ⟨z, hz, rfl⟩; exact ⟨z.isLt, z, hz, rfl⟩
theorem orderOf_sorted (zs : List (Fin 256)) : (orderOf zs).Pairwise (· < ·) := List.pairwise_lt_range.sublist List.filter_sublist
theorem rising_ext {xs ys : List Nat} (hx : xs.Pairwise (· < ·)) (hy : ys.Pairwise (· < ·)) (h : ∀ a, a ∈ xs ↔ a ∈ ys) : xs = ys := by
  induction xs generalizing ys with
  | nil => cases ys with
    | nil => rfl
    | cons y ys => exact absurd ((h y).2 (by simp)) (by simp)
  | cons x xs ih =>
    cases ys with
    | nil => exact absurd ((h x).1 (by simp)) (by simp)
    | cons y ys =>
      obtain ⟨h1, h2⟩ := List.pairwise_cons.1 hx
      obtain ⟨k1, k2⟩ := List.pairwise_cons.1 hy
      have e : x = y := by
        rcases List.mem_cons.1 ((h x).1 (by simp)) with e | e
        · exact e
        · rcases List.mem_cons.1 ((h y).2 (by simp)) with e' | e'
          · exact e'.symm
          · have := k1 x e; have := h1 y e'; omega
      subst e
      rw [ih h2 k2 fun a => ⟨fun ha => by
        rcases List.mem_cons.1 ((h a).1 (by simp [ha])) with e | e
        · have := h1 a ha; omega
        · exact e, fun ha => by
        rcases List.mem_cons.1 ((h a).2 (by simp [ha])) with e | e
        · have := k1 a ha; omega
        · exact e⟩]

theorem setD_tidy {H : Type} (zs : List (Fin 256)) : Tidy (setD (H := H) zs) := by
  suffices h : ∀ (D : DataW H), Tidy D → Tidy (zs.foldl (fun D x => D.put (.int .u8 x.val) (.lit (.bool true))) D) from h _ tidy_empty
  induction zs with
  | nil => exact fun D h => h
  | cons z zs ih => exact fun D h => ih _ (h.put (by trivial) _)
theorem setD_has {H : Type} (zs : List (Fin 256)) (x : Fin 256) : has (setD (H := H) zs) (.int .u8 x.val) = true ↔ x ∈ zs := by
  suffices h : ∀ rs : List (Fin 256), has (setD (H := H) rs.reverse) (.int .u8 x.val) = true ↔ x ∈ rs by simpa using h zs.reverse
  intro rs
  induction rs with
  | nil => simp [setD, has]
  | cons r rs ih =>
    rw [List.reverse_cons, setD_snoc]
    by_cases e : x = r
    · subst e
      rw [has_put_same (setD_tidy _).isMap (by trivial)]
      simp
    · rw [has_put_other (by simp; omega), ih]
      simp [e]
theorem filter_or_len {α : Type} (p q : α → Bool) (l : List α) (h : ∀ a ∈ l, ¬(p a = true ∧ q a = true)) : (l.filter fun a => p a || q a).length = (l.filter p).length + (l.filter q).length := by
  induction l with
  | nil => simp
  | cons a l ih =>
    have h1 := h a (by simp)
    have h2 := ih fun b hb => h b (by simp [hb])
    simp only [List.filter_cons]
    cases hp : p a <;> cases hq : q a <;> simp_all <;> omega
theorem one_of : ∀ x : Fin 256, ((List.range 256).filter fun a => x.val == a).length = 1 := by decide +kernel
theorem orderOf_snoc (zs : List (Fin 256)) (x : Fin 256) : (orderOf (zs ++ [x])).length = if x ∈ zs then (orderOf zs).length else (orderOf zs).length + 1 := by
  split
  · rename_i h
    congr 1
    refine rising_ext (orderOf_sorted _) (orderOf_sorted _) fun a => ?_
    rw [mem_orderOf, mem_orderOf]
    constructor
    · rintro ⟨z, hz, e⟩
      rcases List.mem_append.1 hz with hz | hz
      · exact ⟨z, hz, e⟩
      · rw [List.mem_singleton] at hz; subst hz; exact ⟨_, h, e⟩
    · rintro ⟨z, hz, e⟩; exact ⟨z, List.mem_append_left _ hz, e⟩
  · rename_i h
    have e : orderOf (zs ++ [x]) = (List.range 256).filter fun a => (zs.any fun z => z.val == a) || (x.val == a) := by simp [orderOf]
    rw [e, filter_or_len, one_of]
    · rfl
    · rintro a _ ⟨h1, h2⟩
      obtain ⟨z, hz, hz2⟩ := List.any_eq_true.1 h1
      have : z = x := Fin.ext (by rw [beq_iff_eq] at hz2 h2; omega)
      exact h (this ▸ hz)
theorem setD_size {H : Type} (zs : List (Fin 256)) : size (setD (H := H) zs) = (orderOf zs).length := by
  suffices h : ∀ rs : List (Fin 256), size (setD (H := H) rs.reverse) = (orderOf rs.reverse).length by simpa using h zs.reverse
  intro rs
  induction rs with
  | nil =>
    have e : orderOf [] = [] := List.filter_eq_nil_iff.2 (by simp)
    rw [List.reverse_nil, e]
    rfl
  | cons r rs ih =>
    rw [List.reverse_cons, setD_snoc, size_put (setD_tidy _), orderOf_snoc, ih]
    by_cases e : r ∈ rs.reverse
    · rw [if_pos ((setD_has _ _).2 e), if_pos e]
    · rw [if_neg (fun h => e ((setD_has _ _).1 h)), if_neg e]
theorem orderOf_len (zs : List (Fin 256)) : (orderOf zs).length ≤ 256 := by
  have := List.length_filter_le (fun x => zs.any fun z => z.val == x) (List.range 256)
  simpa [orderOf] using this

/-- The text of the letters of zs. -/
def orderText (zs : List (Fin 256)) : ByteArray := ⟨((orderOf zs).map UInt8.ofNat).toArray⟩
theorem inOrder_set {H : Type} (b n : Nat) (zs : List (Fin 256)) (w : World) (hown : w.ownsMap Tryd.prog 5 (plainElem (H := H) Tryd.prog 4) b n (setD zs)) :
    Calls Tryd.prog 31 #[.map (some b)] w fun e w' => e = .returned (.string (orderText zs)) ∧ Below w.heap.size w w' := by
  refine (inOrder_any b n (setD zs) w hown (by rw [setD_size]; exact orderOf_len zs)).mono ?_
  rintro e w' ⟨hb, ys, rfl, hc⟩
  have he : ys = orderOf zs := by
    refine rising_ext hc.1 (orderOf_sorted zs) fun a => ?_
    rw [mem_orderOf]
    constructor
    · intro ha
      have h1 := (hc.2.2 ⟨a, hc.2.1 a ha⟩).1 ha
      exact ⟨_, (setD_has zs _).1 h1.1, rfl⟩
    · rintro ⟨z, hz, rfl⟩
      exact (hc.2.2 z).2 ⟨(setD_has zs z).2 hz, rfl⟩
  subst he
  exact ⟨rfl, hb⟩
end Go.Proofs.YtcemefojpaicoaaDoor
