/- Print. -/
import Derived.Test.YtcemefojpaicoaaDoorQ
namespace Go.Proofs.YtcemefojpaicoaaDoor
open Go.RowKit Go.Maps Go.Shelf

theorem own_form {w : World} {base n size : Nat} {e : TypeId} {v : Value} {xs : List Value} (h : w.ownsRow base e size v n xs) : ∃ A c, v = .slice A n c := by
  rcases h.2 with ⟨rfl, h0⟩ | ⟨g, cap, cur, rfl, _⟩
  · exact ⟨none, 0, by rw [h0]⟩
  · exact ⟨_, _, rfl⟩
theorem letters_none (H : Type) (v : Value) (L : Line) (w : World) (hL : L.ok) (hv : LineAt w w.heap.size v L) (h : handsOf L = []) :
    Calls Tryd.prog 16 #[v] w fun e w' => e = .returned (.tuple #[.slice none 0 0, .int .i64 9]) ∧ Below w.heap.size w w' :=
  (letters_any H v L w hL hv).mono fun e w' hp => by
    rcases hp with ⟨hb, ⟨_, rfl⟩ | ⟨h', _⟩⟩
    · exact ⟨rfl, hb⟩
    · exact absurd h h'
theorem letters_some (H : Type) (v : Value) (L : Line) (w : World) (hL : L.ok) (hv : LineAt w w.heap.size v L) (h : handsOf L ≠ []) :
    Calls Tryd.prog 16 #[v] w fun e w' => ∃ u, e = .returned (.tuple #[u, .int .i64 0]) ∧ w'.ownsRow w.heap.size 9 1 u L.squares.length ((lettersOf L).map Value.string) ∧ Below w.heap.size w w' :=
  (letters_any H v L w hL hv).mono fun e w' hp => by
    rcases hp with ⟨hb, ⟨h', _⟩ | ⟨_, u, rfl, hu⟩⟩
    · exact absurd h' h
    · exact ⟨u, rfl, hu, hb⟩

/-- A square as it is printed. -/
def piece (s : ByteArray) : ByteArray := if s.size = 1 then s else if s.size = 2 ∨ s.size = 3 then ⟨#[123]⟩ ++ s ++ ⟨#[125]⟩ else ⟨#[45]⟩
def printTo (ts : List ByteArray) : ByteArray := ts.foldl (fun a s => a ++ piece s) ⟨#[]⟩
theorem piece_size (s : ByteArray) : (piece s).size ≤ 5 := by
  have h1 : (⟨#[123]⟩ : ByteArray).size = 1 := rfl
  have h2 : (⟨#[125]⟩ : ByteArray).size = 1 := rfl
  have h3 : (⟨#[45]⟩ : ByteArray).size = 1 := rfl
  unfold piece
  split
  · omega
  · split
    · simp only [ByteArray.size_append, h1, h2]; omega
    · omega
theorem printTo_snoc (ts : List ByteArray) (s : ByteArray) : printTo (ts ++ [s]) = printTo ts ++ piece s := by simp [printTo]
theorem printTo_size (ts : List ByteArray) : (printTo ts).size ≤ 5 * ts.length := by
  suffices h : ∀ a : ByteArray, (ts.foldl (fun a s => a ++ piece s) a).size ≤ a.size + 5 * ts.length by
    have := h ⟨#[]⟩
    have e : (⟨#[]⟩ : ByteArray).size = 0 := rfl
    simpa [printTo, e] using this
  induction ts with
  | nil => intro a; simp
  | cons s ts ih =>
    intro a
    have h1 := ih (a ++ piece s)
    have h2 := piece_size s
    simp only [List.foldl_cons, List.length_cons, ByteArray.size_append] at h1 ⊢
    omega

set_option maxRecDepth 100000 in
set_option maxHeartbeats 2000000 in
theorem print_any (H : Type) (v : Value) (L : Line) (w : World) (hL : L.ok) (hv : LineAt w w.heap.size v L) (hh : handsOf L ≠ []) :
    Calls Tryd.prog 10 #[v] w fun e w' => e = .returned (.tuple #[.string (printTo (lettersOf L)), .int .i64 0]) ∧ Below w.heap.size w w' := by
  have HL := Lib.hid hL
  have HV := Lib.hid hv
  obtain ⟨vh, vs, rfl, hh', hq⟩ := hv
  obtain ⟨A, c, rfl, -⟩ := hh'
  obtain ⟨AQ, cQ, rfl, -⟩ := hq
  go_enter Tryd.func10, Tryd.ntmps10
  go_wp2_with (first
    | (go_at_call 16; refine (letters_some H _ L _ HL.out (HV.out.keep (Same.of_below ((Below.refl _ _).alloc (Nat.le_refl _) _)) (by simp)) hh).mono ?_; rintro e w1 ⟨u, rfl, hu, hb1⟩; have HU := Lib.hid hu; have HB1 := Lib.hid (((Below.refl w.heap.size w).alloc (Nat.le_refl _) (.cells #[.slice A L.hands.length c, .int .i64 L.worn, .int .i64 L.scr, .int .i64 L.total, .slice AQ L.squares.length cQ] 25)).trans (hb1.mono (by simp))); obtain ⟨Au, cu, rfl⟩ := own_form hu; clear hu hb1))
  obtain ⟨m, hm⟩ : ∃ m, m = L.squares.length := ⟨_, rfl⟩
  have hm8 : L.squares.length ≤ 8 := HL.out.2.2.2.2.2.2.2.1
  have hlen : (lettersOf L).length = m := by rw [hm]; simp [lettersOf]
  rw [← hm] at hm8
  rw [← hm]
  have HM := Lib.hid hm
  have HLEN := Lib.hid hlen
  clear hm hlen hL
  go_loop [6, 19] (fun s i => ∃ k : Nat, k ≤ m ∧ i = .int .i64 k ∧ s = .string (printTo ((lettersOf L).take k))) (fun _ i => m - (intOf i).toNat)
  case atStart => exact ⟨0, by omega, rfl, rfl⟩
  case round =>
    obtain ⟨k, hk, rfl, rfl⟩ := hrel
    have htl : ((lettersOf L).take k).length ≤ k := by simp; omega
    have hps := printTo_size ((lettersOf L).take k)
    by_cases hlt : k < m
    · obtain ⟨s, hs⟩ : ∃ s, (lettersOf L)[k]? = some s := ⟨_, List.getElem?_eq_getElem (by rw [HLEN.out]; exact hlt)⟩
      obtain ⟨T, hT⟩ : ∃ T, T = printTo ((lettersOf L).take k) := ⟨_, rfl⟩
      have htk : printTo ((lettersOf L).take (k + 1)) = T ++ piece s := by
        have hk' : k < (lettersOf L).length := by rw [HLEN.out]; exact hlt
        rw [List.take_succ_eq_append_getElem hk', printTo_snoc, hT]
        rw [List.getElem?_eq_getElem hk'] at hs
        injection hs with hs
        rw [hs]
      have hcs : ∃ g, Au = some ⟨g, 0, none⟩ ∧ w1.cell? ⟨g, k, none⟩ = some (.string s) := by
        rcases HU.out.2 with ⟨h', h0⟩ | ⟨g, cap, cur, h', _⟩
        · have := HM.out; omega
        · injection h' with e1 e2 e3
          subst e1
          refine ⟨g, rfl, ?_⟩
          have h5 := HU.out.cellAt k (by have := HM.out; omega)
          rw [h5, List.getElem?_map, hs]
          rfl
      obtain ⟨g, rfl, hcell⟩ := hcs
      rw [← hT] at hps ⊢
      have HTK := Lib.hid htk
      have hT40 : T.size ≤ 40 := by omega
      clear hT htk hs htl hps
      by_cases h1 : s.size = 1
      · go_wp2
        exact ⟨⟨k + 1, by omega, by go_num, by rw [HTK.out]; simp [piece, h1]⟩, by simp [intOf]; omega⟩
      · by_cases h2 : s.size = 2
        · go_wp2
          exact ⟨⟨k + 1, by omega, by go_num, by rw [HTK.out]; simp [piece, h2]⟩, by simp [intOf]; omega⟩
        · by_cases h3 : s.size = 3
          · go_wp2
            exact ⟨⟨k + 1, by omega, by go_num, by rw [HTK.out]; simp [piece, h3]⟩, by simp [intOf]; omega⟩
          · go_wp2
            exact ⟨⟨k + 1, by omega, by go_num, by rw [HTK.out]; simp [piece, h1, h2, h3]⟩, by simp [intOf]; omega⟩
    · obtain rfl : k = m := by omega
      have e : (lettersOf L).take k = lettersOf L := List.take_of_length_le (by rw [HLEN.out]; exact Nat.le_refl _)
      rw [e]
      clear hps htl e
      go_wp2
      go_ret2
      exact ⟨rfl, HB1.out⟩
set_option maxRecDepth 100000 in
set_option maxHeartbeats 2000000 in
theorem print_none (H : Type) (v : Value) (L : Line) (w : World) (hL : L.ok) (hv : LineAt w w.heap.size v L) (hh : handsOf L = []) :
    Calls Tryd.prog 10 #[v] w fun e w' => e = .returned (.tuple #[.string ⟨#[]⟩, .int .i64 9]) ∧ Below w.heap.size w w' := by
  have HL := Lib.hid hL
  have HV := Lib.hid hv
  obtain ⟨vh, vs, rfl, hh', hq⟩ := hv
  obtain ⟨A, c, rfl, -⟩ := hh'
  obtain ⟨AQ, cQ, rfl, -⟩ := hq
  go_enter Tryd.func10, Tryd.ntmps10
  go_wp2_with (first
    | (go_at_call 16; refine (letters_none H _ L _ HL.out (HV.out.keep (Same.of_below ((Below.refl _ _).alloc (Nat.le_refl _) _)) (by simp)) hh).mono ?_; rintro e w1 ⟨rfl, hb1⟩; have HB1 := Lib.hid (((Below.refl w.heap.size w).alloc (Nat.le_refl _) (.cells #[.slice A L.hands.length c, .int .i64 L.worn, .int .i64 L.scr, .int .i64 L.total, .slice AQ L.squares.length cQ] 25)).trans (hb1.mono (by simp))); clear hb1))
  go_ret2
  exact ⟨rfl, HB1.out⟩
end Go.Proofs.YtcemefojpaicoaaDoor
