/- SightAll, plain: what all truths come to is what the specification says. -/
import Derived.Test.YthhajbgddifenaaAx
namespace Go.Proofs.Ythhajbgddifenaa

theorem addByte_mem {l : List UInt8} {u v : UInt8} : v ∈ addByte l u ↔ v ∈ l ∨ v = u := by
  unfold addByte
  split
  · rename_i h
    exact ⟨.inl, fun h' => h'.elim id fun e => e ▸ h⟩
  · simp
theorem addByte_nodup {l : List UInt8} (u : UInt8) (h : l.Nodup) : (addByte l u).Nodup := by
  unfold addByte
  split
  · exact h
  · rename_i hu
    exact List.nodup_append.2 ⟨h, by simp, fun a ha b hb => by
      obtain rfl : b = u := by simpa using hb
      rintro rfl
      exact hu ha⟩
theorem addTo_getD (S : List Shape) (ks : List Nat) (ls : List (List UInt8)) : ∀ n, n ≤ ls.length → ∀ q, (addTo S ks ls n).getD q [] = if q < n then addByte (ls.getD q []) (byteAt S (ks.getD q 0)) else ls.getD q [] := by
  intro n
  induction n with
  | zero => intro _ q; rw [if_neg (by omega)]; rfl
  | succ n ih =>
    intro hn q
    have hl := addTo_length S ks ls n
    rw [addTo]
    by_cases e : q = n
    · subst e
      rw [if_pos (by omega)]
      have e1 : ((addTo S ks ls q).set q (addByte ((addTo S ks ls q).getD q []) (byteAt S (ks.getD q 0)))).getD q [] = addByte ((addTo S ks ls q).getD q []) (byteAt S (ks.getD q 0)) := by
        simp only [List.getD, List.getElem?_set_self (show q < (addTo S ks ls q).length by omega), Option.getD_some]
      rw [e1, ih (by omega), if_neg (by omega)]
    · have e1 : ∀ x, ((addTo S ks ls n).set n x).getD q [] = (addTo S ks ls n).getD q [] := fun x => by simp only [List.getD, List.getElem?_set_ne (Ne.symm e)]
      rw [e1, ih (by omega)]
      by_cases e2 : q < n
      · rw [if_pos e2, if_pos (by omega)]
      · rw [if_neg e2, if_neg (by omega)]
theorem addHand_eq (n : Nat) (hs : List Nat) (h : ∀ x ∈ hs, x < n) : addHand hs n = hs ++ [n] := by
  unfold addHand
  rw [if_neg (fun hm => by have := h n hm; omega)]
/-- What holds of what was found of some ways of a hand. -/
structure Adds (T m : Nat) (S : List Shape) (h : Nat) (f : Found) (xs : List Way) (f' : Found) : Prop where
  len : f'.letters.length = m
  marks : f'.marks ≤ f.marks ∧ (∀ x ∈ xs, f'.marks ≤ x.2) ∧ (f'.marks = f.marks ∨ ∃ x ∈ xs, f'.marks = x.2)
  hands : f'.hands = if ∃ x ∈ xs, x.2 ≤ T then addHand f.hands h else f.hands
  letters : ∀ q, q < m → ∀ u, u ∈ f'.letters.getD q [] ↔ u ∈ f.letters.getD q [] ∨ ∃ x ∈ xs, x.2 ≤ T ∧ u = byteAt S (x.1.getD q 0)
  nodup : (∀ q, q < m → (f.letters.getD q []).Nodup) → ∀ q, q < m → (f'.letters.getD q []).Nodup
theorem adds_all (T m : Nat) (S : List Shape) (h : Nat) (f : Found) (hf : f.letters.length = m) : ∀ xs : List Way, (∀ x ∈ xs, x.1.length = m) → Adds T m S h f xs (f.adds T S h xs) := by
  intro xs
  suffices H : ∀ rs : List Way, (∀ x ∈ rs.reverse, x.1.length = m) → Adds T m S h f rs.reverse (f.adds T S h rs.reverse) by
    intro hx
    have := H xs.reverse (by simpa using hx)
    simpa using this
  intro rs
  induction rs with
  | nil => exact fun _ => ⟨hf, ⟨Nat.le_refl _, by simp, .inl rfl⟩, by simp [Found.adds], fun q hq u => by simp [Found.adds], fun h => h⟩
  | cons x rs ih =>
    intro hx
    rw [List.reverse_cons] at hx ⊢
    have hxl : x.1.length = m := hx x (by simp)
    obtain ⟨a1, ⟨a2, a3, a4⟩, a5, a6, a7⟩ := ih fun y hy => hx y (by simp at hy ⊢; exact .inl hy)
    obtain ⟨g, hg⟩ : ∃ g, g = f.adds T S h rs.reverse := ⟨_, rfl⟩
    rw [Found.adds_append, ← hg]
    rw [← hg] at a1 a2 a3 a4 a5 a6 a7
    have e : g.adds T S h [x] = g.add T S h x := rfl
    rw [e]
    unfold Found.add
    by_cases ht : x.2 ≤ T
    · rw [if_pos ht]
      refine ⟨by rw [addTo_length]; exact a1, ⟨Nat.le_trans (Nat.min_le_left _ _) a2, fun y hy => ?_, ?_⟩, ?_, fun q hq u => ?_, fun hn q hq => ?_⟩
      · rcases List.mem_append.1 hy with hy | hy
        · exact Nat.le_trans (Nat.min_le_left _ _) (a3 y hy)
        · obtain rfl : y = x := by simpa using hy
          exact Nat.min_le_right _ _
      · show min g.marks x.2 = _ ∨ _
        rcases Nat.le_total g.marks x.2 with c | c
        · rw [Nat.min_eq_left c]
          rcases a4 with a4 | ⟨y, hy, e⟩
          · exact .inl a4
          · exact .inr ⟨y, List.mem_append_left _ hy, e⟩
        · rw [Nat.min_eq_right c]
          exact .inr ⟨x, by simp, rfl⟩
      · show addHand g.hands h = _
        rw [if_pos ⟨x, by simp, ht⟩, a5]
        by_cases c : ∃ y ∈ rs.reverse, y.2 ≤ T
        · rw [if_pos c]
          by_cases hm : h ∈ f.hands <;> simp [addHand, hm]
        · rw [if_neg c]
      · rw [addTo_getD S x.1 g.letters x.1.length (by omega) q, if_pos (by omega), addByte_mem, a6 q hq u]
        constructor
        · rintro ((h1 | ⟨y, hy, h2⟩) | h1)
          · exact .inl h1
          · exact .inr ⟨y, List.mem_append_left _ hy, h2⟩
          · exact .inr ⟨x, by simp, ht, h1⟩
        · rintro (h1 | ⟨y, hy, h2, h3⟩)
          · exact .inl (.inl h1)
          · rcases List.mem_append.1 hy with hy | hy
            · exact .inl (.inr ⟨y, hy, h2, h3⟩)
            · obtain rfl : y = x := by simpa using hy
              exact .inr h3
      · rw [addTo_getD S x.1 g.letters x.1.length (by omega) q, if_pos (by omega)]
        exact addByte_nodup _ (a7 hn q hq)
    · rw [if_neg ht]
      refine ⟨a1, ⟨Nat.le_trans (Nat.min_le_left _ _) a2, fun y hy => ?_, ?_⟩, ?_, fun q hq u => ?_, a7⟩
      · rcases List.mem_append.1 hy with hy | hy
        · exact Nat.le_trans (Nat.min_le_left _ _) (a3 y hy)
        · obtain rfl : y = x := by simpa using hy
          exact Nat.min_le_right _ _
      · show min g.marks x.2 = _ ∨ _
        rcases Nat.le_total g.marks x.2 with c | c
        · rw [Nat.min_eq_left c]
          rcases a4 with a4 | ⟨y, hy, e⟩
          · exact .inl a4
          · exact .inr ⟨y, List.mem_append_left _ hy, e⟩
        · rw [Nat.min_eq_right c]
          exact .inr ⟨x, by simp, rfl⟩
      · show g.hands = _
        rw [a5]
        have : (∃ y ∈ rs.reverse ++ [x], y.2 ≤ T) ↔ ∃ y ∈ rs.reverse, y.2 ≤ T := by
          constructor
          · rintro ⟨y, hy, h1⟩
            rcases List.mem_append.1 hy with hy | hy
            · exact ⟨y, hy, h1⟩
            · obtain rfl : y = x := by simpa using hy
              exact absurd h1 ht
          · rintro ⟨y, hy, h1⟩
            exact ⟨y, List.mem_append_left _ hy, h1⟩
        simp only [this]
      · show u ∈ g.letters.getD q [] ↔ _
        rw [a6 q hq u]
        constructor
        · rintro (h1 | ⟨y, hy, h2⟩)
          · exact .inl h1
          · exact .inr ⟨y, List.mem_append_left _ hy, h2⟩
        · rintro (h1 | ⟨y, hy, h2, h3⟩)
          · exact .inl h1
          · rcases List.mem_append.1 hy with hy | hy
            · exact .inr ⟨y, hy, h2, h3⟩
            · obtain rfl : y = x := by simpa using hy
              exact absurd h2 ht
/-- Does a hand fit? -/
def handFits (L : Line) (k : Nat) : Bool := match L.hands[k]? with
  | some H => decide (sumOf L H ≤ L.total)
  | none => false
/-- What holds of what was found of the hands below n. -/
structure FoundOk (L : Line) (n : Nat) (f : Found) : Prop where
  len : f.letters.length = L.squares.length
  few : f.marks ≤ 999
  marks : ∀ k H, k < n → L.hands[k]? = some H → ∀ y, WayOk L H.shapes L.squares.length y → f.marks ≤ y.2
  least : f.marks = 999 ∨ ∃ k H y, k < n ∧ L.hands[k]? = some H ∧ WayOk L H.shapes L.squares.length y ∧ f.marks = y.2
  hands : f.hands = (List.range n).filter (handFits L)
  letters : ∀ q, q < L.squares.length → ∀ u, u ∈ f.letters.getD q [] ↔ ∃ k H y, k < n ∧ L.hands[k]? = some H ∧ WayOk L H.shapes L.squares.length y ∧ y.2 ≤ L.total ∧ u = byteAt H.shapes (y.1.getD q 0)
  nodup : ∀ q, q < L.squares.length → (f.letters.getD q []).Nodup
theorem foundTo_ok {L : Line} (hL : Slim L) : ∀ n, n ≤ L.hands.length → FoundOk L n (foundTo L n) := by
  intro n
  induction n with
  | zero =>
    intro _
    have e : ∀ q, (List.replicate L.squares.length ([] : List UInt8)).getD q [] = [] := fun q => by
      simp only [List.getD, List.getElem?_replicate]
      split <;> rfl
    refine ⟨by simp [foundTo], Nat.le_refl _, fun k H hk => by omega, .inl rfl, rfl, fun q hq u => ?_, fun q hq => ?_⟩
    · show u ∈ (List.replicate L.squares.length ([] : List UInt8)).getD q [] ↔ _
      rw [e]
      constructor
      · intro h; cases h
      · rintro ⟨k, _, _, hk, _⟩; omega
    · show ((List.replicate L.squares.length ([] : List UInt8)).getD q []).Nodup
      rw [e]
      exact List.nodup_nil
  | succ n ih =>
    intro hn
    obtain ⟨b1, b2, b3, b4, b5, b6, b7⟩ := ih (by omega)
    have hH : L.hands[n]? = some L.hands[n] := List.getElem?_eq_getElem (by omega)
    have hm : L.hands[n] ∈ L.hands := List.getElem_mem _
    have eH : L.hands.getD n ⟨0, 0, []⟩ = L.hands[n] := by simp [List.getD, hH]
    have hT : L.total ≤ 40 := hL.ok.2.2.2.2.2.1
    obtain ⟨a1, ⟨a2, a3, a4⟩, a5, a6, a7⟩ := adds_all L.total L.squares.length L.hands[n].shapes n (foundTo L n) b1 (ext L L.hands[n].shapes L.squares.length ([], 0)) fun x hx => (mem_ways.1 hx).len
    have e : foundTo L (n + 1) = (foundTo L n).adds L.total L.hands[n].shapes n (ext L L.hands[n].shapes L.squares.length ([], 0)) := by rw [foundTo, eH]
    rw [e]
    have hlast : ∀ {k H}, k < n + 1 → L.hands[k]? = some H → k < n ∨ (k = n ∧ H = L.hands[n]) := fun {k H} hk hkH => by
      by_cases c : k < n
      · exact .inl c
      · right
        have c' : k = n := by omega
        subst c'
        rw [hH] at hkH
        injection hkH with hkH
        exact ⟨rfl, hkH.symm⟩
    refine ⟨a1, Nat.le_trans a2 b2, fun k H hk hkH y hy => ?_, ?_, ?_, fun q hq u => ?_, a7 b7⟩
    · rcases hlast hk hkH with c | ⟨rfl, rfl⟩
      · exact Nat.le_trans a2 (b3 k H c hkH y hy)
      · exact a3 y (mem_ways.2 hy)
    · rcases a4 with a4 | ⟨y, hy, a4⟩
      · rcases b4 with b4 | ⟨k, H, y, h1, h2, h3, h4⟩
        · exact .inl (a4.trans b4)
        · exact .inr ⟨k, H, y, by omega, h2, h3, a4.trans h4⟩
      · exact .inr ⟨n, _, y, by omega, hH, mem_ways.1 hy, a4⟩
    · rw [a5, List.range_succ, List.filter_append, b5]
      have hf : handFits L n = decide (sumOf L L.hands[n] ≤ L.total) := by unfold handFits; rw [hH]
      have hiff : (∃ x ∈ ext L L.hands[n].shapes L.squares.length ([], 0), x.2 ≤ L.total) ↔ sumOf L L.hands[n] ≤ L.total := by
        constructor
        · rintro ⟨x, hx, h1⟩
          exact Nat.le_trans (way_sum hL hm (mem_ways.1 hx)).1 h1
        · intro h
          obtain ⟨y, hy, e⟩ := way_least hL hm (show sumOf L L.hands[n] < 81 by omega)
          exact ⟨y, mem_ways.2 hy, by omega⟩
      by_cases c : sumOf L L.hands[n] ≤ L.total
      · rw [if_pos (hiff.2 c), addHand_eq n _ (fun x hx => List.mem_range.1 (List.mem_filter.1 hx).1)]
        simp [hf, c]
      · rw [if_neg (fun h => c (hiff.1 h))]
        simp [hf, c]
    · rw [a6 q hq u, b6 q hq u]
      constructor
      · rintro (⟨k, H, y, h1, h2⟩ | ⟨y, hy, h1, h2⟩)
        · exact ⟨k, H, y, by omega, h2⟩
        · exact ⟨n, _, y, by omega, hH, mem_ways.1 hy, h1, h2⟩
      · rintro ⟨k, H, y, h1, h2, h3, h4, h5⟩
        rcases hlast h1 h2 with c | ⟨rfl, rfl⟩
        · exact .inl ⟨k, H, y, c, h2, h3, h4, h5⟩
        · exact .inr ⟨y, mem_ways.2 h3, h4, h5⟩
section
variable {L : Line} (hL : Slim L)
include hL
theorem found_all : FoundOk L L.hands.length (foundAll L) := foundTo_ok hL _ (Nat.le_refl _)
omit hL in
theorem hands_filter : handsOf L = (List.range L.hands.length).filter (handFits L) := by
  unfold handsOf fits fitsTo
  have hlen : (cuttersOf L).length = L.hands.length := by simp [cuttersOf]
  rw [hlen]
  have key : ∀ n, n ≤ L.hands.length → ((List.range n).filterMap (fitAt (cuttersOf L) L.squares.length L.total)).map (fun x => x.1.1) = (List.range n).filter (handFits L) := by
    intro n
    induction n with
    | zero => intro _; rfl
    | succ n ih =>
      intro hn
      have hH : L.hands[n]? = some L.hands[n] := List.getElem?_eq_getElem (by omega)
      have hc := cutters_at hH
      have hf : handFits L n = decide (sumOf L L.hands[n] ≤ L.total) := by unfold handFits; rw [hH]
      rw [List.range_succ, List.filterMap_append, List.map_append, List.filter_append, ih (by omega)]
      congr 1
      by_cases c : sumOf L L.hands[n] ≤ L.total
      · have e := fitAt_yes (cuttersOf L) L.squares.length L.total n _ hc c
        simp [e, hf, c]
      · have e := fitAt_no (cuttersOf L) L.squares.length L.total n _ hc c
        simp [e, hf, c]
  exact key _ (Nat.le_refl _)
theorem found_hands : (foundAll L).hands = handsOf L := by rw [hands_filter]; exact (found_all hL).hands
/-- No way at all: Marks says that there is none; else it is the least. -/
theorem found_marks : (marksOf L = 81 ∧ (foundAll L).marks = 999) ∨ (marksOf L ≠ 81 ∧ (foundAll L).marks = marksOf L ∧ marksOf L < 999) := by
  obtain ⟨b1, b2, b3, b4, _, _, _⟩ := found_all hL
  have hle : marksOf L ≤ 81 := leastOf_le _ _
  rcases b4 with h9 | ⟨k, H, y, hk, hkH, hy, e⟩
  · left
    refine ⟨?_, h9⟩
    rcases leastOf_mem 81 (sumsOf L) with h | h
    · exact h
    · obtain ⟨c, hc, h1⟩ := List.mem_map.1 h
      obtain ⟨H, hH, rfl⟩ := List.mem_map.1 hc
      obtain ⟨k, hk, hkH⟩ := List.mem_iff_getElem.1 hH
      by_cases c : sumOf L H < 81
      · exfalso
        obtain ⟨y, hy, e⟩ := way_least hL hH c
        have := b3 k H hk (by rw [List.getElem?_eq_getElem hk, hkH]) y hy
        omega
      · have h2 : sumOf L H = marksOf L := h1
        omega
  · right
    have hH := List.mem_of_getElem? hkH
    have h60 := way_few hL hH hy
    have hs := (way_sum hL hH hy).1
    have hmem : sumOf L H ∈ sumsOf L := List.mem_map.2 ⟨_, List.mem_map.2 ⟨H, hH, rfl⟩, rfl⟩
    have h1 : marksOf L ≤ sumOf L H := leastOf_le_mem hmem
    refine ⟨by omega, ?_, by omega⟩
    rcases leastOf_mem 81 (sumsOf L) with h | h
    · have : marksOf L = 81 := h
      omega
    · obtain ⟨c, hc, h2⟩ := List.mem_map.1 h
      obtain ⟨H', hH', rfl⟩ := List.mem_map.1 hc
      obtain ⟨k', hk', hkH'⟩ := List.mem_iff_getElem.1 hH'
      have h3 : sumOf L H' = marksOf L := h2
      obtain ⟨y', hy', e'⟩ := way_least hL hH' (by omega)
      have := b3 k' H' hk' (by rw [List.getElem?_eq_getElem hk', hkH']) y' hy'
      omega
theorem found_letters {q : Nat} (hq : q < L.squares.length) (u : UInt8) : u ∈ (foundAll L).letters.getD q [] ↔ u ∈ (orderText (allLetters L q)).data.toList := by
  rw [(found_all hL).letters q hq u, mem_orderText]
  have hlet : ∀ {H : Hand} {i : Nat}, H ∈ L.hands → i < H.shapes.length → byteAt H.shapes i = UInt8.ofNat (letF (H.shapes.getD i ⟨0, 0⟩).letter).val := fun {H i} hH hi => by
    have hs := (hL.ok.2.2.1 H hH).2.2.2.2.2.1 _ (List.getElem_mem hi)
    have e : H.shapes.getD i ⟨0, 0⟩ = H.shapes[i] := by simp [List.getD, hi]
    unfold byteAt
    rw [e, letF_lt _ (by have := hs.2.1; omega)]
  constructor
  · rintro ⟨k, H, y, hk, hkH, hy, ht, rfl⟩
    have hH := List.mem_of_getElem? hkH
    have hf := way_fits hL hH hy ht hq
    exact ⟨_, mem_letters.2 ⟨k, H, _, hkH, hf, rfl⟩, hlet hH hf.2.1⟩
  · rintro ⟨z, hz, rfl⟩
    obtain ⟨k, H, i, hkH, hf, rfl⟩ := mem_letters.1 hz
    have hH := List.mem_of_getElem? hkH
    obtain ⟨y, hy, ht, e⟩ := way_letter hL hH hq hf
    exact ⟨k, H, y, (List.getElem?_eq_some_iff.1 hkH).1, hkH, hy, ht, by rw [e]; exact (hlet hH hf.2.1).symm⟩
end
theorem nodup_sub : ∀ (a b : List UInt8), a.Nodup → (∀ x ∈ a, x ∈ b) → a.length ≤ b.length := by
  intro a
  induction a with
  | nil => intro b _ _; simp
  | cons x a ih =>
    intro b hn hs
    obtain ⟨h1, h2⟩ := List.nodup_cons.1 hn
    have hx : x ∈ b := hs x (by simp)
    have := ih (b.erase x) h2 fun y hy => (List.mem_erase_of_ne (by rintro rfl; exact h1 hy)).2 (hs y (by simp [hy]))
    rw [List.length_erase_of_mem hx] at this
    have hb : 0 < b.length := List.length_pos_of_mem hx
    simp only [List.length_cons]
    omega
theorem orderText_rising (zs : List (Fin 256)) : (orderText zs).data.toList.Pairwise fun a b => a.toNat < b.toNat := by
  show (((orderOf zs).map UInt8.ofNat).toArray).toList.Pairwise _
  show ((orderOf zs).map UInt8.ofNat).Pairwise _
  rw [List.pairwise_map]
  have h256 : ∀ x ∈ orderOf zs, x < 256 := fun x hx => by
    obtain ⟨z, _, rfl⟩ := mem_orderOf.1 hx
    exact z.isLt
  refine (orderOf_sorted zs).imp_of_mem fun {a b} ha hb hab => ?_
  rw [UInt8.toNat_ofNat', UInt8.toNat_ofNat']
  have h1 := h256 a ha
  have h2 := h256 b hb
  rw [Nat.mod_eq_of_lt (by omega), Nat.mod_eq_of_lt (by omega)]
  exact hab
theorem found_len {L : Line} (hL : Slim L) {q : Nat} (hq : q < L.squares.length) : ((foundAll L).letters.getD q []).length = (orderText (allLetters L q)).size := by
  have e : (orderText (allLetters L q)).size = (orderText (allLetters L q)).data.toList.length := by rw [Array.length_toList]; rfl
  rw [e]
  have hn2 : (orderText (allLetters L q)).data.toList.Nodup := (orderText_rising _).imp fun {a b} h e => by rw [e] at h; omega
  exact Nat.le_antisymm (nodup_sub _ _ ((found_all hL).nodup q hq) fun x hx => (found_letters hL hq x).1 hx) (nodup_sub _ _ hn2 fun x hx => (found_letters hL hq x).2 hx)
end Go.Proofs.Ythhajbgddifenaa
