/- Print. · The kit's own helpers. · The chapter's line, as the statements make it. · The chapter's line: what the plain specification says of it. · The chapter's line as a line; the chapter's examples that a law checks. -/
import Derived.Test.YthhajbgddifenaaQ
import Derived.Test.YthhajbgddifenaaC
namespace Go.Proofs.Ythhajbgddifenaa
section
open Go.RowKit Go.Maps Go.Shelf

theorem own_form {w : World} {base n size : Nat} {e : TypeId} {v : Value} {xs : List Value} (h : w.ownsRow base e size v n xs) : ∃ A c, v = .slice A n c := by
  rcases h.2 with ⟨rfl, h0⟩ | ⟨g, cap, cur, rfl, _⟩
  · exact ⟨none, 0, by rw [h0]⟩
  · exact ⟨_, _, rfl⟩
theorem letters_none (H : Type) (v : Value) (L : Line) (w : World) (hL : L.ok) (hv : LineAt w w.heap.size v L) (h : handsOf L = []) :
    Calls Try.prog 21 #[v] w fun e w' => e = .returned (.tuple #[.slice none 0 0, .int .i64 9]) ∧ Below w.heap.size w w' :=
  (letters_any H v L w hL hv).mono fun e w' hp => by
    rcases hp with ⟨hb, ⟨_, rfl⟩ | ⟨h', _⟩⟩
    · exact ⟨rfl, hb⟩
    · exact absurd h h'
theorem letters_some (H : Type) (v : Value) (L : Line) (w : World) (hL : L.ok) (hv : LineAt w w.heap.size v L) (h : handsOf L ≠ []) :
    Calls Try.prog 21 #[v] w fun e w' => ∃ u, e = .returned (.tuple #[u, .int .i64 0]) ∧ w'.ownsRow w.heap.size 9 1 u L.squares.length ((lettersOf L).map Value.string) ∧ Below w.heap.size w w' :=
  (letters_any H v L w hL hv).mono fun e w' hp => by
    rcases hp with ⟨hb, ⟨h', _⟩ | ⟨_, u, rfl, hu⟩⟩
    · exact absurd h' h
    · exact ⟨u, rfl, hu, hb⟩

/-- A square as it is printed. -/
def piece (s : ByteArray) : ByteArray := if s.size = 1 then s else if s.size = 2 ∨ s.size = 3 then ⟨#[123]⟩ ++ s ++ ⟨#[125]⟩ else ⟨#[45]⟩
def printTo (ts : List ByteArray) : ByteArray := ts.foldl (fun a s => a ++ piece s) ⟨#[]⟩
theorem piece_size (s : ByteArray) : (piece s).size ≤ 5 := by
  have h1 : (⟨#[123]⟩ : ByteArray).size = 1 := rfl
  have h2 : (⟨#[125]⟩ : ByteArray).size = 1 := rfl
  have h3 : (⟨#[45]⟩ : ByteArray).size = 1 := rfl
  unfold piece
  split
  · omega
  · split
    · simp only [ByteArray.size_append, h1, h2]; omega
    · omega
theorem printTo_snoc (ts : List ByteArray) (s : ByteArray) : printTo (ts ++ [s]) = printTo ts ++ piece s := by simp [printTo]
theorem printTo_size (ts : List ByteArray) : (printTo ts).size ≤ 5 * ts.length := by
  suffices h : ∀ a : ByteArray, (ts.foldl (fun a s => a ++ piece s) a).size ≤ a.size + 5 * ts.length by
    have := h ⟨#[]⟩
    have e : (⟨#[]⟩ : ByteArray).size = 0 := rfl
    simpa [printTo, e] using this
  induction ts with
  | nil => intro a; simp
  | cons s ts ih =>
    intro a
    have h1 := ih (a ++ piece s)
    have h2 := piece_size s
    simp only [List.foldl_cons, List.length_cons, ByteArray.size_append] at h1 ⊢
    omega

set_option maxRecDepth 100000 in
set_option maxHeartbeats 2000000 in
theorem print_any (H : Type) (v : Value) (L : Line) (w : World) (hL : L.ok) (hv : LineAt w w.heap.size v L) (hh : handsOf L ≠ []) :
    Calls Try.prog 30 #[v] w fun e w' => e = .returned (.tuple #[.string (printTo (lettersOf L)), .int .i64 0]) ∧ Below w.heap.size w w' := by
  have HL := Lib.hid hL
  have HV := Lib.hid hv
  obtain ⟨vh, vs, rfl, hh', hq⟩ := hv
  obtain ⟨A, c, rfl, -⟩ := hh'
  obtain ⟨AQ, cQ, rfl, -⟩ := hq
  go_enter Try.func30, Try.ntmps30
  go_wp2_with (first
    | (go_at_call 21; refine (letters_some H _ L _ HL.out (HV.out.keep (Same.of_below ((Below.refl _ _).alloc (Nat.le_refl _) _)) (by simp)) hh).mono ?_; rintro e w1 ⟨u, rfl, hu, hb1⟩; have HU := Lib.hid hu; have HB1 := Lib.hid (((Below.refl w.heap.size w).alloc (Nat.le_refl _) (.cells #[.slice A L.hands.length c, .int .i64 L.worn, .int .i64 L.scr, .int .i64 L.total, .slice AQ L.squares.length cQ] 25)).trans (hb1.mono (by simp))); obtain ⟨Au, cu, rfl⟩ := own_form hu; clear hu hb1))
  obtain ⟨m, hm⟩ : ∃ m, m = L.squares.length := ⟨_, rfl⟩
  have hm8 : L.squares.length ≤ 8 := HL.out.2.2.2.2.2.2.2.1
  have hlen : (lettersOf L).length = m := by rw [hm]; simp [lettersOf]
  rw [← hm] at hm8
  rw [← hm]
  have HM := Lib.hid hm
  have HLEN := Lib.hid hlen
  clear hm hlen hL
  go_loop [6, 19] (fun s i => ∃ k : Nat, k ≤ m ∧ i = .int .i64 k ∧ s = .string (printTo ((lettersOf L).take k))) (fun _ i => m - (intOf i).toNat)
  case atStart => exact ⟨0, by omega, rfl, rfl⟩
  case round =>
    obtain ⟨k, hk, rfl, rfl⟩ := hrel
    have htl : ((lettersOf L).take k).length ≤ k := by simp; omega
    have hps := printTo_size ((lettersOf L).take k)
    by_cases hlt : k < m
    · obtain ⟨s, hs⟩ : ∃ s, (lettersOf L)[k]? = some s := ⟨_, List.getElem?_eq_getElem (by rw [HLEN.out]; exact hlt)⟩
      obtain ⟨T, hT⟩ : ∃ T, T = printTo ((lettersOf L).take k) := ⟨_, rfl⟩
      have htk : printTo ((lettersOf L).take (k + 1)) = T ++ piece s := by
        have hk' : k < (lettersOf L).length := by rw [HLEN.out]; exact hlt
        rw [List.take_succ_eq_append_getElem hk', printTo_snoc, hT]
        rw [List.getElem?_eq_getElem hk'] at hs
        injection hs with hs
        rw [hs]
      have hcs : ∃ g, Au = some ⟨g, 0, none⟩ ∧ w1.cell? ⟨g, k, none⟩ = some (.string s) := by
        rcases HU.out.2 with ⟨h', h0⟩ | ⟨g, cap, cur, h', _⟩
        · have := HM.out; omega
        · injection h' with e1 e2 e3
          subst e1
          refine ⟨g, rfl, ?_⟩
          have h5 := HU.out.cellAt k (by have := HM.out; omega)
          rw [h5, List.getElem?_map, hs]
          rfl
      obtain ⟨g, rfl, hcell⟩ := hcs
      rw [← hT] at hps ⊢
      have HTK := Lib.hid htk
      have hT40 : T.size ≤ 40 := by omega
      clear hT htk hs htl hps
      by_cases h1 : s.size = 1
      · go_wp2
        exact ⟨⟨k + 1, by omega, by go_num, by rw [HTK.out]; simp [piece, h1]⟩, by simp [intOf]; omega⟩
      · by_cases h2 : s.size = 2
        · go_wp2
          exact ⟨⟨k + 1, by omega, by go_num, by rw [HTK.out]; simp [piece, h2]⟩, by simp [intOf]; omega⟩
        · by_cases h3 : s.size = 3
          · go_wp2
            exact ⟨⟨k + 1, by omega, by go_num, by rw [HTK.out]; simp [piece, h3]⟩, by simp [intOf]; omega⟩
          · go_wp2
            exact ⟨⟨k + 1, by omega, by go_num, by rw [HTK.out]; simp [piece, h1, h2, h3]⟩, by simp [intOf]; omega⟩
    · obtain rfl : k = m := by omega
      have e : (lettersOf L).take k = lettersOf L := List.take_of_length_le (by rw [HLEN.out]; exact Nat.le_refl _)
      rw [e]
      clear hps htl e
      go_wp2
      go_ret2
      exact ⟨rfl, HB1.out⟩
set_option maxRecDepth 100000 in
set_option maxHeartbeats 2000000 in
theorem print_none (H : Type) (v : Value) (L : Line) (w : World) (hL : L.ok) (hv : LineAt w w.heap.size v L) (hh : handsOf L = []) :
    Calls Try.prog 30 #[v] w fun e w' => e = .returned (.tuple #[.string ⟨#[]⟩, .int .i64 9]) ∧ Below w.heap.size w w' := by
  have HL := Lib.hid hL
  have HV := Lib.hid hv
  obtain ⟨vh, vs, rfl, hh', hq⟩ := hv
  obtain ⟨A, c, rfl, -⟩ := hh'
  obtain ⟨AQ, cQ, rfl, -⟩ := hq
  go_enter Try.func30, Try.ntmps30
  go_wp2_with (first
    | (go_at_call 21; refine (letters_none H _ L _ HL.out (HV.out.keep (Same.of_below ((Below.refl _ _).alloc (Nat.le_refl _) _)) (by simp)) hh).mono ?_; rintro e w1 ⟨rfl, hb1⟩; have HB1 := Lib.hid (((Below.refl w.heap.size w).alloc (Nat.le_refl _) (.cells #[.slice A L.hands.length c, .int .i64 L.worn, .int .i64 L.scr, .int .i64 L.total, .slice AQ L.squares.length cQ] 25)).trans (hb1.mono (by simp))); clear hb1))
  go_ret2
  exact ⟨rfl, HB1.out⟩
end
section
open Go.RowKit Go.Maps Go.Shelf

def textsR (w : World) (ts : List ByteArray) (b o : Nat) : Prop := ∀ k s, ts[k]? = some s → w.cell? ⟨b, o + k, none⟩ = some (.string s)
def Texts (w : World) (B : Nat) (v : Value) (ts : List ByteArray) : Prop := Sl B v ts.length (textsR w ts)

theorem bytes_eq {x y : ByteArray} (h : x.toList = y.toList) : x = y := by
  rw [ByteArray.toList_eq, ByteArray.toList_eq] at h
  exact ByteArray.ext (Array.toList_inj.1 h)
set_option maxHeartbeats 1000000 in
theorem sameTexts_any (va vb : Value) (xs ys : List ByteArray) (B : Nat) (w : World) (hBw : B ≤ w.heap.size) (hn : xs.length ≤ 100) (hn' : ys.length ≤ 100) (ha : Texts w B va xs) (hb : Texts w B vb ys) :
    Calls Try.prog 28 #[va, vb] w fun e w' => e = .returned (.bool (decide (xs = ys))) ∧ Below w.heap.size w w' := by
  obtain ⟨A, c, rfl, hA⟩ := ha
  obtain ⟨A', c', rfl, hA'⟩ := hb
  obtain ⟨n, hn2⟩ : ∃ n, n = xs.length := ⟨_, rfl⟩
  obtain ⟨m, hm2⟩ : ∃ m, m = ys.length := ⟨_, rfl⟩
  rw [← hn2] at hA hn ⊢
  rw [← hm2] at hA' hn' ⊢
  have HN := Lib.hid hn2
  have HM := Lib.hid hm2
  have HA := Lib.hid hA
  have HA' := Lib.hid hA'
  clear hn2 hm2 hA hA'
  go_enter Try.func28, Try.ntmps28
  go_wp2
  go_loopw [5, 6] (fun s i wr => ∃ (k : Nat) (q : Bool), k ≤ n ∧ i = .int .i64 k ∧ s = .bool q ∧ Below w.heap.size w wr ∧ (q = true → n = m ∧ xs.take k = ys.take k) ∧ (q = false → xs ≠ ys)) (fun _ i _ => n - (intOf i).toNat)
  case atStart =>
    refine ⟨0, decide (n = m), by omega, rfl, ?_, Below.refl _ _, fun h => ⟨by simpa using h, by simp⟩, fun h e => ?_⟩
    · by_cases h : n = m
      · subst h; simp
      · have h' : ¬ (n : Int) = m := by omega
        simp [h, h']
    · rw [decide_eq_false_iff_not, HN.out, HM.out, e] at h
      exact h rfl
  case round =>
    obtain ⟨k, q, hk, rfl, rfl, hb, h1, h2⟩ := hrel
    cases q with
    | false =>
      have hne := h2 rfl
      have hfin : (.returned (.bool false) : Ending) = .returned (.bool (decide (xs = ys))) ∧ Below w.heap.size w wr := ⟨by simp [hne], hb⟩
      clear h1 h2 hb hne
      go_wp2
      go_ret
      exact hfin
    | true =>
      obtain ⟨hnm, htk⟩ := h1 rfl
      clear h1 h2
      by_cases hlt : k < n
      · obtain ⟨b, o, rfl, hb1, hr1⟩ := HA.out (by omega)
        obtain ⟨b', o', rfl, hb1', hr1'⟩ := HA'.out (by omega)
        obtain ⟨x, hx⟩ : ∃ x, xs[k]? = some x := ⟨_, List.getElem?_eq_getElem (by rw [← HN.out]; exact hlt)⟩
        obtain ⟨y, hy⟩ : ∃ y, ys[k]? = some y := ⟨_, List.getElem?_eq_getElem (by rw [← HM.out]; omega)⟩
        have c1 := (hb.cell (p := ⟨b, o + k, none⟩) (show b < _ by omega)).trans (hr1 k x hx)
        have c2 := (hb.cell (p := ⟨b', o' + k, none⟩) (show b' < _ by omega)).trans (hr1' k y hy)
        have HB := Lib.hid hb
        have HX := Lib.hid hx
        have HY := Lib.hid hy
        have HT := Lib.hid htk
        have hkm : k < m := by omega
        clear hb hx hy htk hr1 hr1'
        go_wp2
        go_region
        go_wp2
        refine ⟨⟨k + 1, x.toList == y.toList, by omega, by go_num, rfl, HB.out.drew, fun h => ⟨hnm, ?_⟩, fun h e => ?_⟩, by simp [intOf]; omega⟩
        · have hxy : x = y := bytes_eq (by simpa using h)
          have hkx := (List.getElem?_eq_some_iff.1 HX.out).1
          have hky := (List.getElem?_eq_some_iff.1 HY.out).1
          have ex := (List.getElem?_eq_some_iff.1 HX.out).2
          have ey := (List.getElem?_eq_some_iff.1 HY.out).2
          rw [List.take_succ_eq_append_getElem hkx, List.take_succ_eq_append_getElem hky, HT.out, ex, ey, hxy]
        · have h3 : some x = some y := by rw [← HX.out, ← HY.out, e]
          injection h3 with h3
          rw [h3] at h
          simp at h
      · obtain rfl : k = n := by omega
        have e : xs = ys := by
          rw [List.take_of_length_le (by rw [HN.out]; exact Nat.le_refl _), List.take_of_length_le (by rw [hnm, HM.out]; exact Nat.le_refl _)] at htk
          exact htk
        have hfin : (.returned (.bool true) : Ending) = .returned (.bool (decide (xs = ys))) ∧ Below w.heap.size w wr := ⟨by simp [e], hb⟩
        clear hb htk e
        go_wp2
        go_ret
        exact hfin
end
section
open Go.RowKit

def sA : List Shape := [⟨65, 7⟩, ⟨76, 3⟩, ⟨84, 12⟩]
def sB : List Shape := [⟨65, 15⟩, ⟨76, 3⟩, ⟨84, 12⟩]
/-- The chapter's line L. -/
def lineL (q0 q1 q2 : List Light) : Line := { hands := [⟨-400, -300, sA⟩, ⟨-320, -200, sB⟩], worn := 1, scr := 0, total := 1, squares := [q0, q1, q2] }

def shapeCells (s : List Shape) : List Value := s.flatMap fun x => [.int .u8 x.letter, .int .i64 x.strokes]
theorem shapes_ex {w : World} {g : Nat} {t : TypeId} (B : Nat) (hg : g < B) (a b c a' b' c' : Nat) (h : Blok w g t [.int .u8 a, .int .i64 a', .int .u8 b, .int .i64 b', .int .u8 c, .int .i64 c']) (n cp : Nat) (hn : n = 3) :
    Shapes w B (.slice (some ⟨g, 0, none⟩) n cp) [⟨a, a'⟩, ⟨b, b'⟩, ⟨c, c'⟩] := by
  subst hn
  refine ⟨_, _, rfl, fun _ => ⟨g, 0, rfl, hg, fun k x hx => ?_⟩⟩
  rcases k with _ | _ | _ | k
  · obtain rfl : (⟨a, a'⟩ : Shape) = x := by simpa using hx
    exact ⟨by rw [h.cell]; rfl, by rw [h.cell]; rfl⟩
  · obtain rfl : (⟨b, b'⟩ : Shape) = x := by simpa using hx
    exact ⟨by rw [h.cell]; rfl, by rw [h.cell]; rfl⟩
  · obtain rfl : (⟨c, c'⟩ : Shape) = x := by simpa using hx
    exact ⟨by rw [h.cell]; rfl, by rw [h.cell]; rfl⟩
  · simp at hx

def cellsA : List Value := [.int .u8 65, .int .i64 7, .int .u8 76, .int .i64 3, .int .u8 84, .int .i64 12]
def cellsB : List Value := [.int .u8 65, .int .i64 15, .int .u8 76, .int .i64 3, .int .u8 84, .int .i64 12]
def cellsH (g : Nat) : List Value := [.int .i64 (-400), .int .i64 (-300), .slice (some ⟨g, 0, none⟩) 3 3, .int .i64 (-320), .int .i64 (-200), .slice (some ⟨g + 1, 0, none⟩) 3 3]
/-- The world with the chapter's hands. -/
def handsW (w : World) : World := ((w.alloc (.cells cellsA.toArray 86)).alloc (.cells cellsB.toArray 86)).alloc (.cells (cellsH w.heap.size).toArray 68)
theorem handsW_size (w : World) : (handsW w).heap.size = w.heap.size + 1 + 1 + 1 := by simp [handsW]
theorem handsW_below (w : World) : Below w.heap.size w (handsW w) := (((Below.refl _ _).alloc (Nat.le_refl _) _).alloc (by simp) _).alloc (by simp; omega) _
theorem handsW_blok (w : World) : Blok (handsW w) w.heap.size 86 cellsA ∧ Blok (handsW w) (w.heap.size + 1) 86 cellsB ∧ Blok (handsW w) (w.heap.size + 1 + 1) 68 (cellsH w.heap.size) := three w cellsA cellsB (cellsH w.heap.size) 86 86 68

set_option maxRecDepth 100000 in
set_option maxHeartbeats 1000000 in
theorem hands_ex (w : World) : Calls Try.prog 75 #[] w fun e w' => e = .returned (.slice (some ⟨w.heap.size + 1 + 1, 0, none⟩) 2 2) ∧ w' = handsW w := by
  go_enter Try.func75, Try.ntmps75
  go_wp2
  go_ret
  exact ⟨rfl, rfl⟩
theorem hands_mem {w : World} {g B : Nat} (h : Blok w g 86 cellsA ∧ Blok w (g + 1) 86 cellsB ∧ Blok w (g + 1 + 1) 68 (cellsH g)) (hB : g + 1 + 1 < B) : Hands w B (.slice (some ⟨g + 1 + 1, 0, none⟩) 2 2) (lineL [] [] []).hands := by
  obtain ⟨t1, t2, t3⟩ := h
  refine ⟨_, _, rfl, fun _ => ⟨g + 1 + 1, 0, rfl, hB, fun k x hx => ?_⟩⟩
  rcases k with _ | _ | k
  · obtain rfl : (⟨-400, -300, sA⟩ : Hand) = x := by simpa [lineL] using hx
    exact ⟨by rw [t3.cell]; rfl, by rw [t3.cell]; rfl, _, by rw [t3.cell]; rfl, shapes_ex _ (by omega) _ _ _ _ _ _ t1 _ _ rfl⟩
  · obtain rfl : (⟨-320, -200, sB⟩ : Hand) = x := by simpa [lineL] using hx
    exact ⟨by rw [t3.cell]; rfl, by rw [t3.cell]; rfl, _, by rw [t3.cell]; rfl, shapes_ex _ (by omega) _ _ _ _ _ _ t2 _ _ rfl⟩
  · simp [lineL] at hx

/-- The chapter's line in memory: the line's own box is block b0; its parts lie behind. -/
def cellsL (g : Nat) : List Value := [.slice (some ⟨g + 1 + 1, 0, none⟩) 2 2, .int .i64 1, .int .i64 0, .int .i64 1, .slice (some ⟨g + 6, 0, none⟩) 3 3]
def cellsQ (g : Nat) : List Value := [.slice (some ⟨g + 3, 0, none⟩) 1 1, .slice (some ⟨g + 4, 0, none⟩) 1 1, .slice (some ⟨g + 5, 0, none⟩) 1 1]
structure LineMem (w : World) (g : Nat) : Prop where
  hands : Blok w g 86 cellsA ∧ Blok w (g + 1) 86 cellsB ∧ Blok w (g + 1 + 1) 68 (cellsH g)
  q0 : Blok w (g + 3) 27 [.int .i64 15, .int .i64 7]
  q1 : Blok w (g + 4) 27 [.int .i64 15, .int .i64 3]
  q2 : Blok w (g + 5) 27 [.int .i64 3, .int .i64 0]
  qs : Blok w (g + 6) 39 (cellsQ g)

set_option maxRecDepth 100000 in
set_option maxHeartbeats 1000000 in
theorem line_mem (w : World) : Calls Try.prog 48 #[] w fun e w' => e = .returned (.agg (cellsL (w.heap.size + 1)).toArray) ∧ LineMem w' (w.heap.size + 1) ∧ Below w.heap.size w w' ∧ w'.heap.size = w.heap.size + 8 := by
  go_enter Try.func48, Try.ntmps48
  go_wp2_with fail
  refine (hands_ex _).mono ?_
  rintro e w1 ⟨rfl, hw1⟩
  have hbl : Blok w1 w.heap.size 25 [.slice none 0 0, .int .i64 0, .int .i64 0, .int .i64 0, .slice none 0 0] := by
    rw [hw1]; exact (Blok.new w 25 _).below (handsW_below _) (by simp)
  have hmem := handsW_blok (w.alloc (.cells #[.slice none 0 0, .int .i64 0, .int .i64 0, .int .i64 0, .slice none 0 0] 25))
  have hb := handsW_below (w.alloc (.cells #[.slice none 0 0, .int .i64 0, .int .i64 0, .int .i64 0, .slice none 0 0] 25))
  have hsz := handsW_size (w.alloc (.cells #[.slice none 0 0, .int .i64 0, .int .i64 0, .int .i64 0, .slice none 0 0] 25))
  have hw1' : handsW (w.alloc (.cells #[.slice none 0 0, .int .i64 0, .int .i64 0, .int .i64 0, .slice none 0 0] 25)) = w1 := hw1.symm
  rw [hw1'] at hmem hb hsz
  simp only [World.size_alloc] at hmem hb hsz
  clear hw1 hw1'
  have c0 : w1.cell? ⟨w.heap.size, 0, none⟩ = some (.slice none 0 0) := hbl.cell 0
  have c1 : w1.cell? ⟨w.heap.size, 1, none⟩ = some (.int .i64 0) := hbl.cell 1
  have c2 : w1.cell? ⟨w.heap.size, 2, none⟩ = some (.int .i64 0) := hbl.cell 2
  have c3 : w1.cell? ⟨w.heap.size, 3, none⟩ = some (.int .i64 0) := hbl.cell 3
  have c4 : w1.cell? ⟨w.heap.size, 4, none⟩ = some (.slice none 0 0) := hbl.cell 4
  have f0 := hbl.free 0
  have f1 := hbl.free 1
  have f2 := hbl.free 2
  have f3 := hbl.free 3
  have f4 := hbl.free 4
  have HB := Lib.hid hb
  have HBL := Lib.hid hbl
  have HMEM := Lib.hid hmem
  have HSZ := Lib.hid hsz
  have z := hbl.size
  have z1 : w.heap.size < w1.heap.size + 1 := by omega
  have z2 : w.heap.size < w1.heap.size + 1 + 1 := by omega
  have z3 : w.heap.size < w1.heap.size + 1 + 1 + 1 := by omega
  clear hb hbl hmem hsz
  go_wp2
  clear c0 c1 c2 c3 c4 f0 f1 f2 f3 f4 z1 z2 z3
  obtain ⟨WS, hWS⟩ : ∃ WS, WS = ((((w1.setCell ⟨w.heap.size, 0, none⟩ (.slice (some ⟨w.heap.size + 1 + 1 + 1, 0, none⟩) 2 2)).setCell ⟨w.heap.size, 1, none⟩ (.int .i64 1)).setCell ⟨w.heap.size, 2, none⟩ (.int .i64 0)).setCell ⟨w.heap.size, 3, none⟩ (.int .i64 1)).setCell ⟨w.heap.size, 4, none⟩ (.slice (some ⟨w1.heap.size + 1 + 1 + 1, 0, none⟩) 3 3) := ⟨_, rfl⟩
  rw [← hWS]
  have e1 : w1.heap.size = w.heap.size + 4 := by rw [HSZ.out]
  have hS : WS.heap.size = w.heap.size + 4 := by rw [hWS]; simp [World.setCell]; exact e1
  have hfar : ∀ {g : Nat} {t : TypeId} {cs : List Value}, g ≠ w.heap.size → Blok w1 g t cs → Blok WS g t cs := fun h hb => by rw [hWS]; exact ((((hb.far h _).far h _).far h _).far h _).far h _
  have hown : Blok WS w.heap.size 25 (cellsL (w.heap.size + 1)) := by
    have := ((((HBL.out.put 0 (.slice (some ⟨w.heap.size + 1 + 1 + 1, 0, none⟩) 2 2)).put 1 (.int .i64 1)).put 2 (.int .i64 0)).put 3 (.int .i64 1)).put 4 (.slice (some ⟨w1.heap.size + 1 + 1 + 1, 0, none⟩) 3 3)
    rw [← hWS, e1] at this
    exact this
  have hbS : Below w.heap.size w WS := by
    rw [hWS]
    exact ((((((((Below.refl _ w).alloc (Nat.le_refl _) _).trans (HB.out.mono (Nat.le_succ _))).setCell (Nat.le_refl _) _).setCell (Nat.le_refl _) _).setCell (Nat.le_refl _) _).setCell (Nat.le_refl _) _).setCell (Nat.le_refl _) _)
  clear hWS
  rw [e1]
  have q0 := (((Blok.new WS 27 [.int .i64 15, .int .i64 7]).alloc (.cells #[.int .i64 15, .int .i64 3] 27)).alloc (.cells #[.int .i64 3, .int .i64 0] 27)).alloc (.cells (cellsQ (w.heap.size + 1)).toArray 39)
  have q1 := ((Blok.new (WS.alloc (.cells #[.int .i64 15, .int .i64 7] 27)) 27 [.int .i64 15, .int .i64 3]).alloc (.cells #[.int .i64 3, .int .i64 0] 27)).alloc (.cells (cellsQ (w.heap.size + 1)).toArray 39)
  have q2 := (Blok.new ((WS.alloc (.cells #[.int .i64 15, .int .i64 7] 27)).alloc (.cells #[.int .i64 15, .int .i64 3] 27)) 27 [.int .i64 3, .int .i64 0]).alloc (.cells (cellsQ (w.heap.size + 1)).toArray 39)
  have qs := Blok.new (((WS.alloc (.cells #[.int .i64 15, .int .i64 7] 27)).alloc (.cells #[.int .i64 15, .int .i64 3] 27)).alloc (.cells #[.int .i64 3, .int .i64 0] 27)) 39 (cellsQ (w.heap.size + 1))
  simp only [World.size_alloc, hS] at q0 q1 q2 qs
  refine bodyPost_ret (v := .agg (cellsL (w.heap.size + 1)).toArray) ?_ ?_ ?_
  · exact results_cell_row Try.results48 _ _ w.heap.size 25 _ (0, 0) _ rfl ((((hown.alloc _).alloc _).alloc _).alloc _) Try.underlying25 rfl (by kernel_rfl)
  · rfl
  · obtain ⟨t1, t2, t3⟩ := HMEM.out
    exact ⟨rfl, ⟨⟨((((hfar (by omega) t1).alloc _).alloc _).alloc _).alloc _, ((((hfar (by omega) t2).alloc _).alloc _).alloc _).alloc _, ((((hfar (by omega) t3).alloc _).alloc _).alloc _).alloc _⟩, q0, q1, q2, qs⟩,
      (((hbS.alloc (by omega) _).alloc (by simp; omega) _).alloc (by simp; omega) _).alloc (by simp; omega) _, by simp [hS]⟩
theorem lights_one {w : World} {B g : Nat} (hg : g < B) (a b : Nat) (h : Blok w g 27 [.int .i64 a, .int .i64 b]) (n c : Nat) (hn : n = 1) : Lights w B (.slice (some ⟨g, 0, none⟩) n c) [⟨a, b⟩] := by
  subst hn
  refine ⟨_, _, rfl, fun _ => ⟨g, 0, rfl, hg, fun k x hx => ?_⟩⟩
  rcases k with _ | k
  · obtain rfl : (⟨a, b⟩ : Light) = x := by simpa using hx
    exact ⟨by rw [h.cell]; rfl, by rw [h.cell]; rfl⟩
  · simp at hx
theorem LineMem.at_ {w : World} {g B : Nat} (h : LineMem w g) (hB : g + 6 < B) : LineAt w B (.agg (cellsL g).toArray) (lineL [⟨15, 7⟩] [⟨15, 3⟩] [⟨3, 0⟩]) := by
  refine ⟨_, _, rfl, hands_mem h.hands (by omega), _, _, rfl, fun _ => ⟨g + 6, 0, rfl, hB, fun k x hx => ?_⟩⟩
  rcases k with _ | _ | _ | k
  · obtain rfl : ([⟨15, 7⟩] : List Light) = x := by simpa [lineL] using hx
    exact ⟨_, by rw [h.qs.cell]; rfl, lights_one (by omega) 15 7 h.q0 _ _ rfl⟩
  · obtain rfl : ([⟨15, 3⟩] : List Light) = x := by simpa [lineL] using hx
    exact ⟨_, by rw [h.qs.cell]; rfl, lights_one (by omega) 15 3 h.q1 _ _ rfl⟩
  · obtain rfl : ([⟨3, 0⟩] : List Light) = x := by simpa [lineL] using hx
    exact ⟨_, by rw [h.qs.cell]; rfl, lights_one (by omega) 3 0 h.q2 _ _ rfl⟩
  · simp [lineL] at hx
end
section
open Go.RowKit Go.Maps Go.Shelf

def lineC : Line := lineL [⟨15, 7⟩] [⟨15, 3⟩] [⟨3, 0⟩]
def lineC1 : Line := lineL [⟨15, 7⟩] [⟨15, 15⟩] [⟨3, 0⟩]
theorem lineC_letters : (lettersOf lineC).map (fun s => s.data.toList) = [[65], [65, 76], [84]] := by decide +kernel
theorem lineC_hands : handsOf lineC ≠ [] := by decide +kernel
theorem lineC1_marks : marksOf lineC1 = 1 := by decide +kernel
theorem lineC_print : (printTo (lettersOf lineC)).data.toList = [65, 123, 65, 76, 125, 84] := by decide +kernel
instance (x : Light) : Decidable x.ok := by unfold Light.ok; infer_instance
instance (x : Shape) : Decidable x.ok := by unfold Shape.ok; infer_instance
instance (x : Hand) : Decidable x.ok := by unfold Hand.ok; infer_instance
instance (x : Line) : Decidable x.ok := by unfold Line.ok; infer_instance
theorem lineC1_ok : lineC1.ok := by decide +kernel
theorem lineC_ok : lineC.ok := by decide +kernel

/-- The chapter's line with other lights in its second square. -/
structure SeenMem (w : World) (g gl : Nat) : Prop where
  hands : Blok w g 86 cellsA ∧ Blok w (g + 1) 86 cellsB ∧ Blok w (g + 1 + 1) 68 (cellsH g)
  q0 : Blok w (g + 3) 27 [.int .i64 15, .int .i64 7]
  q1 : Blok w gl 27 [.int .i64 15, .int .i64 15]
  q2 : Blok w (g + 5) 27 [.int .i64 3, .int .i64 0]
  qs : Blok w (g + 6) 39 [.slice (some ⟨g + 3, 0, none⟩) 1 1, .slice (some ⟨gl, 0, none⟩) 1 1, .slice (some ⟨g + 5, 0, none⟩) 1 1]

set_option maxRecDepth 100000 in
set_option maxHeartbeats 1000000 in
theorem seen_mem (w : World) (gl : Nat) (hgl : gl < w.heap.size) (hl : Blok w gl 27 [.int .i64 15, .int .i64 15]) :
    Calls Try.prog 49 #[.int .i64 1, .slice (some ⟨gl, 0, none⟩) 1 1] w fun e w' => ∃ g, e = .returned (.agg (cellsL g).toArray) ∧ SeenMem w' g gl ∧ Below w.heap.size w w' ∧ w.heap.size ≤ g ∧ g + 7 ≤ w'.heap.size := by
  go_enter Try.func49, Try.ntmps49
  go_wp2_with (first
    | (go_at_call 48; refine (line_mem _).mono ?_; rintro e w1 ⟨he, hm, hb, hz⟩; simp only [cellsL] at he; subst he; have HZ := Lib.hid hz; have HM := Lib.hid hm; have HB := Lib.hid hb; have hq := hm.qs; have cq := hq.cell 1; have fq := hq.free 1; have lq := hq.size; simp only [World.size_alloc] at cq fq lq; have lq1 := Nat.ne_of_lt lq; have h0 := (Blok.new w 25 [.slice none 0 0, .int .i64 0, .int .i64 0, .int .i64 0, .slice none 0 0]).below hb (by simp); have c0 := h0.cell 0; have c1 := h0.cell 1; have c2 := h0.cell 2; have c3 := h0.cell 3; have c4 := h0.cell 4; have f0 := h0.free 0; have f1 := h0.free 1; have f2 := h0.free 2; have f3 := h0.free 3; have f4 := h0.free 4; have l0 := h0.size; have l01 := Nat.ne_of_lt l0; simp at c0 c1 c2 c3 c4; have H0 := Lib.hid h0; clear hz hm hb hq h0))
  clear c0 c1 c2 c3 c4 f0 f1 f2 f3 f4 cq fq
  obtain ⟨WS, hWS⟩ : ∃ WS, WS = (((((w1.setCell ⟨w.heap.size + 1 + 1 + 6, 1, none⟩ (.slice (some ⟨gl, 0, none⟩) 1 1)).setCell ⟨w.heap.size, 0, none⟩ (.slice (some ⟨w.heap.size + 1 + 1 + 1 + 1, 0, none⟩) 2 2)).setCell ⟨w.heap.size, 1, none⟩ (.int .i64 1)).setCell ⟨w.heap.size, 2, none⟩ (.int .i64 0)).setCell ⟨w.heap.size, 3, none⟩ (.int .i64 1)).setCell ⟨w.heap.size, 4, none⟩ (.slice (some ⟨w.heap.size + 1 + 1 + 6, 0, none⟩) 3 3) := ⟨_, rfl⟩
  rw [← hWS]
  have e1 : w1.heap.size = w.heap.size + 1 + 8 := by have := HZ.out; simpa using this
  have hS : WS.heap.size = w1.heap.size := by rw [hWS]; simp [World.setCell]
  have hfar : ∀ {g : Nat} {t : TypeId} {cs : List Value}, g ≠ w.heap.size → g ≠ w.heap.size + 1 + 1 + 6 → Blok w1 g t cs → Blok WS g t cs := fun h h' hb => by rw [hWS]; exact (((((hb.far h' _).far h _).far h _).far h _).far h _).far h _
  have hown : Blok WS w.heap.size 25 (cellsL (w.heap.size + 1 + 1)) := by
    have := (((((H0.out.far (p := ⟨w.heap.size + 1 + 1 + 6, 1, none⟩) (show w.heap.size ≠ w.heap.size + 1 + 1 + 6 by omega) (.slice (some ⟨gl, 0, none⟩) 1 1)).put 0 (.slice (some ⟨w.heap.size + 1 + 1 + 1 + 1, 0, none⟩) 2 2)).put 1 (.int .i64 1)).put 2 (.int .i64 0)).put 3 (.int .i64 1)).put 4 (.slice (some ⟨w.heap.size + 1 + 1 + 6, 0, none⟩) 3 3)
    rw [← hWS] at this
    exact this
  have hsq : Blok WS (w.heap.size + 1 + 1 + 6) 39 [.slice (some ⟨w.heap.size + 1 + 1 + 3, 0, none⟩) 1 1, .slice (some ⟨gl, 0, none⟩) 1 1, .slice (some ⟨w.heap.size + 1 + 1 + 5, 0, none⟩) 1 1] := by
    have h1 := HM.out.qs
    simp only [World.size_alloc] at h1
    have hne : w.heap.size + 1 + 1 + 6 ≠ w.heap.size := by omega
    have := (((((h1.put 1 (.slice (some ⟨gl, 0, none⟩) 1 1)).far (p := ⟨w.heap.size, 0, none⟩) hne (.slice (some ⟨w.heap.size + 1 + 1 + 1 + 1, 0, none⟩) 2 2)).far (p := ⟨w.heap.size, 1, none⟩) hne (.int .i64 1)).far (p := ⟨w.heap.size, 2, none⟩) hne (.int .i64 0)).far (p := ⟨w.heap.size, 3, none⟩) hne (.int .i64 1)).far (p := ⟨w.heap.size, 4, none⟩) hne (.slice (some ⟨w.heap.size + 1 + 1 + 6, 0, none⟩) 3 3)
    rw [← hWS] at this
    exact this
  have hb1 : Below w.heap.size w w1 := ((Below.refl _ w).alloc (Nat.le_refl _) _).trans (HB.out.mono (by simp))
  have hbS : Below w.heap.size w WS := by
    rw [hWS]
    exact (((((hb1.setCell (p := ⟨w.heap.size + 1 + 1 + 6, 1, none⟩) (show w.heap.size ≤ w.heap.size + 1 + 1 + 6 by omega) _).setCell (Nat.le_refl _) _).setCell (Nat.le_refl _) _).setCell (Nat.le_refl _) _).setCell (Nat.le_refl _) _).setCell (Nat.le_refl _) _
  clear hWS
  have hm := HM.out
  have hh := hm.hands
  have hq0 := hm.q0
  have hq2 := hm.q2
  simp only [World.size_alloc] at hh hq0 hq2
  obtain ⟨t1, t2, t3⟩ := hh
  have hgl1 : Blok w1 gl 27 [.int .i64 15, .int .i64 15] := hl.below hb1 hgl
  refine bodyPost_ret (v := .agg (cellsL (w.heap.size + 1 + 1)).toArray) ?_ ?_ ?_
  · exact results_cell_row Try.results49 _ _ w.heap.size 25 _ (0, 0) _ rfl (hown.alloc _) Try.underlying25 rfl (by kernel_rfl)
  · rfl
  · exact ⟨w.heap.size + 1 + 1, rfl, ⟨⟨(hfar (by omega) (by omega) t1).alloc _, (hfar (by omega) (by omega) t2).alloc _, (hfar (by omega) (by omega) t3).alloc _⟩, (hfar (by omega) (by omega) hq0).alloc _, (hfar (by omega) (by omega) hgl1).alloc _, (hfar (by omega) (by omega) hq2).alloc _, hsq.alloc _⟩, hbS.alloc (by omega) _, by omega, by simp [hS]; omega⟩
end
section
open Go.RowKit Go.Maps Go.Shelf

theorem SeenMem.at_ {w : World} {g gl B : Nat} (h : SeenMem w g gl) (hB : g + 6 < B) (hl : gl < B) : LineAt w B (.agg (cellsL g).toArray) lineC1 := by
  refine ⟨_, _, rfl, hands_mem h.hands (by omega), _, _, rfl, fun _ => ⟨g + 6, 0, rfl, hB, fun k x hx => ?_⟩⟩
  rcases k with _ | _ | _ | k
  · obtain rfl : ([⟨15, 7⟩] : List Light) = x := by simpa [lineC1, lineL] using hx
    exact ⟨_, by rw [h.qs.cell]; rfl, lights_one (by omega) 15 7 h.q0 _ _ rfl⟩
  · obtain rfl : ([⟨15, 15⟩] : List Light) = x := by simpa [lineC1, lineL] using hx
    exact ⟨_, by rw [h.qs.cell]; rfl, lights_one (by omega) 15 15 h.q1 _ _ rfl⟩
  · obtain rfl : ([⟨3, 0⟩] : List Light) = x := by simpa [lineC1, lineL] using hx
    exact ⟨_, by rw [h.qs.cell]; rfl, lights_one (by omega) 3 0 h.q2 _ _ rfl⟩
  · simp [lineC1, lineL] at hx

theorem lineC_texts : lettersOf lineC = [⟨#[65]⟩, ⟨#[65, 76]⟩, ⟨#[84]⟩] := by decide +kernel
theorem lineC_printed : printTo (lettersOf lineC) = ⟨#[65, 123, 65, 76, 125, 84]⟩ := by decide +kernel
theorem texts_of_own {w : World} {base : Nat} {t : TypeId} {v : Value} {l : List ByteArray} {n : Nat} (hl : l.length = n) (h : w.ownsRow base t 1 v n (l.map Value.string)) : Texts w w.heap.size v l := by
  subst hl
  rcases h.2 with ⟨rfl, hn⟩ | ⟨g, cap, cur, rfl, hbg, hg, hcap, _, hsz, htake⟩
  · exact ⟨none, 0, by rw [hn], fun h0 => by omega⟩
  · refine ⟨_, _, rfl, fun _ => ⟨g, 0, rfl, (Array.getElem?_eq_some_iff.1 hg).1, fun k x hx => ?_⟩⟩
    have h5 := h.cellAt k (by have := (List.getElem?_eq_some_iff.1 hx).1; omega)
    rw [Nat.zero_add, h5, List.getElem?_map, hx]
    rfl
theorem texts_three {w : World} {g : Nat} {t : TypeId} {a b c : ByteArray} (h : Blok w g t [.string a, .string b, .string c]) (B : Nat) (hB : g < B) : Texts w B (.slice (some ⟨g, 0, none⟩) 3 3) [a, b, c] := by
  refine ⟨_, _, rfl, fun _ => ⟨g, 0, rfl, hB, fun k x hx => ?_⟩⟩
  rw [Nat.zero_add, h.cell]
  rcases k with _ | _ | _ | k <;> simp_all

theorem marks_one (w : World) {v : Value} (hv : LineAt w w.heap.size v lineC1) : Calls Try.prog 32 #[v] w fun e w' => e = .returned (.tuple #[.int .i64 1, .int .i64 0]) ∧ Below w.heap.size w w' :=
  (marks_any v lineC1 w lineC1_ok hv).mono fun e w' hp => by
    have h1 := lineC1_marks
    rcases hp with ⟨hb, ⟨h81, rfl⟩ | ⟨_, rfl⟩⟩
    · omega
    · rw [h1]; exact ⟨rfl, hb⟩

set_option maxRecDepth 100000 in
set_option maxHeartbeats 2000000 in
theorem ready_any (H : Type) (w : World) : Calls Try.prog 14 #[] w fun e w' => e = .returned (.bool true) ∧ Below w.heap.size w w' := by
  go_enter Try.func14, Try.ntmps14
  go_wp2_with (first
    | (go_at_call 48; refine (line_mem _).mono ?_; rintro e w1 ⟨rfl, hm, hb, hz⟩; have HZ := Lib.hid hz; have HM := Lib.hid hm; have HB := Lib.hid hb; clear hz hm hb)
    | (go_at_call 21; refine (letters_some H _ lineC _ lineC_ok (HM.out.at_ (by have := HZ.out; omega)) lineC_hands).mono ?_; rintro e w2 ⟨u, rfl, hu, hb2⟩; have HU := Lib.hid hu; have HBW := Lib.hid (HB.out.trans (hb2.mono HB.out.size)); clear hu hb2)
    | (go_at_call 30; refine (print_any H _ lineC _ lineC_ok (HM.out.at_ (by have := HZ.out; omega)) lineC_hands).mono ?_; rintro e w3 ⟨he, hb3⟩; rw [lineC_printed] at he; subst he; have HB3 := Lib.hid hb3; clear hb3)
    | (go_at_call 49; refine (seen_mem _ _ (by simp) (Blok.new _ 27 [.int .i64 15, .int .i64 15])).mono ?_; rintro e w4 ⟨g, rfl, hsm, hb4, hg1, hg2⟩; have HSM := Lib.hid hsm; have HB4 := Lib.hid hb4; have HG1 := Lib.hid hg1; have HG2 := Lib.hid hg2; clear hsm hb4 hg1 hg2)
    | (go_at_call 32; refine (marks_one _ (HSM.out.at_ (by have := HG2.out; omega) (by have := HB4.out.size; simp at this; omega))).mono ?_; rintro e w5 ⟨rfl, hb5⟩; have h35 : Below w3.heap.size w3 w5 := (((Below.refl _ w3).alloc (Nat.le_refl _) _).trans (HB4.out.mono (by simp))).trans (hb5.mono (by have := HB4.out.size; simp at this; omega)); have h25 : Below w2.heap.size w2 w5 := (HB.out.trans (HB3.out.mono HB.out.size)).trans (h35.mono (by have := HB.out.size; have := HB3.out.size; omega)); have hu5 := (own_below HU.out h25 (Nat.le_refl _)).alloc (.cells #[.string ⟨#[65]⟩, .string ⟨#[65, 76]⟩, .string ⟨#[84]⟩] 9); have TX := Lib.hid (texts_of_own (by rw [lineC_texts]; rfl) hu5); have H25 := Lib.hid h25; clear h35 h25 hu5; have HB5 := Lib.hid hb5; clear hb5)
    | (go_at_call 28; go_loud (refine (sameTexts_any _ _ (lettersOf lineC) [⟨#[65]⟩, ⟨#[65, 76]⟩, ⟨#[84]⟩] ((w5.alloc (.cells #[.string ⟨#[65]⟩, .string ⟨#[65, 76]⟩, .string ⟨#[84]⟩] 9)).heap.size) _ (Nat.le_refl _) (by rw [lineC_texts]; decide) (by decide) (TX.out) (texts_three (Blok.new _ 9 [.string ⟨#[65]⟩, .string ⟨#[65, 76]⟩, .string ⟨#[84]⟩]) _ (by simp))).mono ?_); rintro e w6 ⟨he, hb6⟩; rw [lineC_texts, decide_eq_true rfl] at he; subst he; have HB6 := Lib.hid hb6; clear hb6))
  go_ret
  have h2 := HBW.out.size
  have h5 := H25.out.size
  exact ⟨rfl, ((HBW.out.trans (H25.out.mono h2)).alloc (by omega) _).trans (HB6.out.mono (by simp; omega))⟩
end
end Go.Proofs.Ythhajbgddifenaa
