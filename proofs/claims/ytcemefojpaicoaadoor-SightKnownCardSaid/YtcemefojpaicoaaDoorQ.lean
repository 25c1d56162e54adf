/- Letters. -/
import Derived.Test.YtcemefojpaicoaaDoorP
import Derived.Test.YtcemefojpaicoaaDoorJ
namespace Go.Proofs.YtcemefojpaicoaaDoor
open Go.RowKit Go.Maps Go.Shelf

theorem info_string : (Tryd.prog.info? 9).map (fun i => (i.zero, i.size, i.bytes)) = some (some (.string ByteArray.empty), 1, 16) := by kernel_rfl

theorem own_mono {w : World} {base base' : Nat} {e : TypeId} {size : Nat} {v : Value} {n : Nat} {xs : List Value} (h : w.ownsRow base e size v n xs) (hb : base' ≤ base) : w.ownsRow base' e size v n xs := by
  obtain ⟨h1, h2⟩ := h
  refine ⟨h1, h2.imp id ?_⟩
  rintro ⟨g, cap, cur, r1, r2, r3⟩
  exact ⟨g, cap, cur, r1, by omega, r3⟩
/-- The texts of the squares' letters. -/
def lettersOf (L : Line) : List ByteArray := (List.range L.squares.length).map fun q => orderText (allLetters L q)
/-- Letters answers ErrClash, or the squares' letters. -/
def LettersPost (L : Line) (w : World) (e : Ending) (w' : World) : Prop :=
  Below w.heap.size w w' ∧ ((handsOf L = [] ∧ e = .returned (.tuple #[.slice none 0 0, .int .i64 9])) ∨
    (handsOf L ≠ [] ∧ ∃ v, e = .returned (.tuple #[v, .int .i64 0]) ∧ w'.ownsRow w.heap.size 9 1 v L.squares.length ((lettersOf L).map Value.string)))

theorem hands_none (v : Value) (L : Line) (w : World) (hL : L.ok) (hv : LineAt w w.heap.size v L) (h : handsOf L = []) :
    Calls Tryd.prog 8 #[v] w fun e w' => e = .returned (.tuple #[.slice none 0 0, .int .i64 9]) ∧ Below w.heap.size w w' :=
  (hands_any v L w hL hv).mono fun e w' hp => by
    rcases hp with ⟨hb, ⟨_, rfl⟩ | ⟨h', _⟩⟩
    · exact ⟨rfl, hb⟩
    · exact absurd h h'
theorem hands_some (v : Value) (L : Line) (w : World) (hL : L.ok) (hv : LineAt w w.heap.size v L) (h : handsOf L ≠ []) :
    Calls Tryd.prog 8 #[v] w fun e w' => (∃ u, e = .returned (.tuple #[u, .int .i64 0])) ∧ Below w.heap.size w w' :=
  (hands_any v L w hL hv).mono fun e w' hp => by
    rcases hp with ⟨hb, ⟨h', _⟩ | ⟨_, u, rfl, _⟩⟩
    · exact absurd h' h
    · exact ⟨⟨u, rfl⟩, hb⟩

set_option maxRecDepth 100000 in
set_option maxHeartbeats 2000000 in
theorem letters_any (H : Type) (v : Value) (L : Line) (w : World) (hL : L.ok) (hv : LineAt w w.heap.size v L) :
    Calls Tryd.prog 16 #[v] w (LettersPost L w) := by
  have HL := Lib.hid hL
  have HV := Lib.hid hv
  obtain ⟨vh, vs, rfl, hh, hq⟩ := hv
  obtain ⟨A, c, rfl, -⟩ := hh
  obtain ⟨AQ, cQ, rfl, -⟩ := hq
  go_enter Tryd.func16, Tryd.ntmps16
  by_cases hh : handsOf L = []
  · go_wp2_with (first
      | (go_at_call 8; refine (hands_none _ L _ HL.out (HV.out.keep (Same.of_below ((Below.refl _ _).alloc (Nat.le_refl _) _)) (by simp)) hh).mono ?_; rintro e w1 ⟨rfl, hb1⟩; have HB1 := Lib.hid (((Below.refl w.heap.size w).alloc (Nat.le_refl _) (.cells #[.slice A L.hands.length c, .int .i64 L.worn, .int .i64 L.scr, .int .i64 L.total, .slice AQ L.squares.length cQ] 25)).trans (hb1.mono (by simp))); clear hb1))
    go_ret2
    exact ⟨HB1.out, .inl ⟨hh, rfl⟩⟩
  · go_wp2_with (first
      | (go_at_call 8; refine (hands_some _ L _ HL.out (HV.out.keep (Same.of_below ((Below.refl _ _).alloc (Nat.le_refl _) _)) (by simp)) hh).mono ?_; rintro e w1 ⟨⟨u, rfl⟩, hb1⟩; have hbx := (Blok.new w 25 [.slice A L.hands.length c, .int .i64 L.worn, .int .i64 L.scr, .int .i64 L.total, .slice AQ L.squares.length cQ]).below hb1 (by simp); have l0 : w1.cell? ⟨w.heap.size, 0, none⟩ = some (.slice A L.hands.length c) := hbx.cell 0; have l1 : w1.cell? ⟨w.heap.size, 1, none⟩ = some (.int .i64 L.worn) := hbx.cell 1; have l2 : w1.cell? ⟨w.heap.size, 2, none⟩ = some (.int .i64 L.scr) := hbx.cell 2; have l3 : w1.cell? ⟨w.heap.size, 3, none⟩ = some (.int .i64 L.total) := hbx.cell 3; have l4 : w1.cell? ⟨w.heap.size, 4, none⟩ = some (.slice AQ L.squares.length cQ) := hbx.cell 4; have HB1 := Lib.hid (((Below.refl w.heap.size w).alloc (Nat.le_refl _) (.cells #[.slice A L.hands.length c, .int .i64 L.worn, .int .i64 L.scr, .int .i64 L.total, .slice AQ L.squares.length cQ] 25)).trans (hb1.mono (by simp))); have z1 : w.heap.size < w1.heap.size := (by have := hb1.size; simp at this; omega); clear hb1 hbx))
    go_region_held3 (fun w' => w'.cell? ⟨w.heap.size, 0, none⟩ = some (.slice A L.hands.length c) ∧ w'.cell? ⟨w.heap.size, 1, none⟩ = some (.int .i64 L.worn) ∧ w'.cell? ⟨w.heap.size, 2, none⟩ = some (.int .i64 L.scr) ∧ w'.cell? ⟨w.heap.size, 3, none⟩ = some (.int .i64 L.total) ∧ w'.cell? ⟨w.heap.size, 4, none⟩ = some (.slice AQ L.squares.length cQ))
      (first
        | go_keep
        | (refine ⟨?_, ?_, ?_, ?_, ?_⟩ <;> (refine (hb3.cell (p := ⟨_, _, none⟩) (by simp; try omega)).trans ?_; simp [*]))
        | (refine ⟨?_, ?_, ?_, ?_, ?_⟩ <;> (refine (hb2.cell (p := ⟨_, _, none⟩) (by simp; try omega)).trans ?_; simp [*])))
      (first
        | (go_at_call 23; refine (cutters_any _ L _ w.heap.size (by simp; have := HB1.out.size; omega) HL.out (HV.out.keep (Same.of_below (HB1.out.drew)) (Nat.le_refl _))).mono ?_; rintro e w2 ⟨cv, rfl, hcut, hb2⟩; have HCUT := Lib.hid hcut; have hz2 : w1.heap.size ≤ w2.heap.size := hb2.size)
        | (go_at_call 30; refine (gather_any H _ _ L _ _ (fun k hk => by have := HB1.out.size; simp at hk; omega) HL.out (HV.out.keep (Same.of_below (HB1.out.drew.trans (hb2.mono HB1.out.size))) (by have := HB1.out.size; omega)) HCUT.out).mono ?_; rintro e w3 ⟨hb3, sb, mb, rfl, g1, g2, g3, g4, g5⟩))
    go_wp2_with fail
    have h03 : Below w.heap.size w w3 := (HB1.out.drew.trans (hb2.mono HB1.out.size)).trans (hb3.mono (by have := HB1.out.size; omega))
    have hlen : (lettersOf L).length = L.squares.length := by simp [lettersOf]
    have hm8 : L.squares.length ≤ 8 := HL.out.2.2.2.2.2.2.2.1
    obtain ⟨i0, hi, hz0, hz1, hz2⟩ := info_parts info_string
    have H03 := Lib.hid h03
    have HLEN := Lib.hid hlen
    have HG4 := Lib.hid g4
    have HG5 := Lib.hid g5
    obtain ⟨m, hm⟩ : ∃ m, m = L.squares.length := ⟨_, rfl⟩
    rw [← hm] at hm8 HLEN HG4 HG5
    rw [← hm]
    have HM := Lib.hid hm
    clear h03 hlen g4 g5 hb2 hb3 l0 l1 l2 l3 l4 hm hL
    go_loopw [6, 22] (fun v i wr => ∃ k : Nat, k ≤ m ∧ i = .int .i64 k ∧ Below w3.heap.size w3 wr ∧ wr.ownsRow w3.heap.size 9 1 v k (((lettersOf L).take k).map Value.string)) (fun _ i _ => m - (intOf i).toNat)
    case atStart => exact ⟨0, by omega, rfl, Below.refl _ _, World.ownsRow_nil _ _ _ _⟩
    case round =>
      obtain ⟨k, hk, rfl, hb, hown⟩ := hrel
      by_cases hlt : k < m
      · have c1 : wr.cell? ⟨sb, k, none⟩ = some (.map (some (mb + k))) := (hb.cell (p := ⟨sb, k, none⟩) g1).trans (HG4.out k hlt)
        have hmp := (HG5.out k hlt).kept (below_grown hb) (by simp)
        have HIO := Lib.hid (inOrder_set _ _ _ wr hmp)
        have HOWN := Lib.hid hown
        have HB := Lib.hid hb
        have hsz : w3.heap.size ≤ wr.heap.size := hb.size
        have htk : (lettersOf L).take (k + 1) = (lettersOf L).take k ++ [orderText (allLetters L k)] := by
          have hk' : k < (lettersOf L).length := by rw [HLEN.out]; exact hlt
          rw [List.take_succ_eq_append_getElem hk']
          congr 2
          simp [lettersOf]
        have HTK := Lib.hid htk
        clear hmp hown hb htk
        go_wp2_with (first
          | (go_at_call 31; refine HIO.out.mono ?_; rintro e w5 ⟨rfl, hb5⟩; have HB5 := Lib.hid hb5; have hs5 := hb5.size; clear hb5)
          | (at_builtin; refine wpList_append_own _ rfl _ _ 54 rfl w3.heap.size 9 i0 (.string ByteArray.empty) 1 16 Tryd.underlying54 hi hz0 hz1 hz2 rfl (by decide) _ _ _ rfl ((own_below HOWN.out HB5.out (Nat.le_refl _)).alloc _) ⟨w5.heap.size, 0, none⟩ 1 1 [.string (orderText (allLetters L k))] rfl rfl (cell_one_new _ _ _) (by simp [Value.oneCell']) (by unfold maxLen; omega) (by omega) (by simp; omega) ?_; intro v' w6 hown' hgrow _))
        go_roundw
        case rel =>
          refine ⟨k + 1, by omega, by go_num, (((HB.out.trans (HB5.out.mono hsz)).alloc (by omega) _).grown hgrow (by simp; omega) (fun j e => (HOWN.out.lt j e).1)), ?_⟩
          rw [HTK.out, List.map_append]
          exact hown'
        case measure => simp [intOf]; omega
      · obtain rfl : k = m := by omega
        rw [List.take_of_length_le (by rw [HLEN.out]; exact Nat.le_refl _)] at hown
        have hfin : LettersPost L w (.returned (.tuple #[u6, .int .i64 0])) wr := ⟨H03.out.trans (hb.mono H03.out.size), .inr ⟨hh, _, rfl, by rw [← HM.out]; exact own_mono hown H03.out.size⟩⟩
        clear hb hown
        go_wp2
        go_ret2
        exact hfin
end Go.Proofs.YtcemefojpaicoaaDoor
