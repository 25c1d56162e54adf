/- SightAll's walk. -/
import Derived.Test.YthhajbgddifenaaWb
import Derived.Test.YthhajbgddifenaaSk
import Derived.Test.YthhajbgddifenaaSp
namespace Go.Proofs.Ythhajbgddifenaa
open Go.RowKit Go.Shelf

theorem made_strs (m : Nat) : (madeCells (Value.string ByteArray.empty).cells (m * 1)).toList = (List.replicate m ([] : List UInt8)).map fun l => Value.string (strOf l) := by
  rw [Nat.mul_one]
  show (madeCells #[Value.string ByteArray.empty] m).toList = _
  rw [toList_madeCells_one, List.map_replicate]
  rfl
theorem letters_in {w : World} {base c : Nat} {A : Option Addr} {L : Line} (h : w.ownsRow base 9 1 (.slice A L.squares.length c) L.squares.length ((lettersOf L).map Value.string)) (h1 : 1 ≤ L.squares.length) :
    ∃ g, A = some ⟨g, 0, none⟩ ∧ base ≤ g ∧ g < w.heap.size ∧ ∀ k, k < L.squares.length → w.cell? ⟨g, k, none⟩ = some (.string (orderText (allLetters L k))) := by
  obtain ⟨g, cap, hA, hg, hlt⟩ := h.form (by omega)
  injection hA with hA1 hA2 hA3
  subst hA1
  refine ⟨g, rfl, hg, hlt, fun k hk => ?_⟩
  rw [h.cellAt k (by omega), List.getElem?_map, letters_at L k hk]
  rfl
theorem marks_no (v : Value) (L : Line) (w : World) (hL : L.ok) (hv : LineAt w w.heap.size v L) (h : marksOf L = 81) :
    Calls Try.prog 32 #[v] w fun e w' => e = .returned (.tuple #[.int .i64 0, .int .i64 9]) ∧ Below w.heap.size w w' :=
  (marks_any v L w hL hv).mono fun e w' hp => by
    rcases hp with ⟨hb, ⟨_, rfl⟩ | ⟨h', _⟩⟩
    · exact ⟨rfl, hb⟩
    · exact absurd h h'
theorem marks_ok (v : Value) (L : Line) (w : World) (hL : L.ok) (hv : LineAt w w.heap.size v L) (h : marksOf L ≠ 81) :
    Calls Try.prog 32 #[v] w fun e w' => e = .returned (.tuple #[.int .i64 (marksOf L), .int .i64 0]) ∧ Below w.heap.size w w' :=
  (marks_any v L w hL hv).mono fun e w' hp => by
    rcases hp with ⟨hb, ⟨h', _⟩ | ⟨_, rfl⟩⟩
    · exact absurd h' h
    · exact ⟨rfl, hb⟩
set_option maxRecDepth 100000 in
set_option maxHeartbeats 4000000 in
theorem all_walk (a0 : Option Addr) (len0 cap0 : Nat) (w : World) (hr : NumRow w a0 len0) : Calls Try.prog 7 #[.slice a0 len0 cap0] w (EnoughPost w) := by
  go_enter Try.func7, Try.ntmps7
  go_wp2_with fail
  refine (newUrn_any _ _ _ _ hr).mono ?_
  rintro e w1 ⟨rfl, hu1, hb1⟩
  have HB1 := Lib.hid hb1
  have HU1 := Lib.hid hu1
  clear hu1 hb1 hr
  go_wp2_with fail
  refine (slim_any _ _ HU1.out).mono ?_
  rintro e w2 ⟨L, lv, rfl, hline, hslim, hu2, hk2⟩
  have HB2 := Lib.hid (HB1.out.trans (hk2.below HB1.out.size (Nat.le_refl _)))
  have HL2 := Lib.hid hline
  have HSL := Lib.hid hslim
  obtain ⟨vh, vs, rfl, hhx, hqx⟩ := id hline
  obtain ⟨A, c, rfl, -⟩ := hhx
  obtain ⟨AQ, cQ, rfl, -⟩ := hqx
  obtain ⟨m, hm⟩ : ∃ m, m = L.squares.length := ⟨_, rfl⟩
  obtain ⟨nh, hnh⟩ : ∃ nh, nh = L.hands.length := ⟨_, rfl⟩
  have hm3 : m ≤ 3 := by rw [hm]; exact hslim.squares
  have hm1 : 1 ≤ m := by rw [hm]; exact hslim.ok.2.2.2.2.2.2.1
  have hn2 : nh ≤ 2 := by rw [hnh]; exact hslim.hands
  rw [← hm, ← hnh]
  have HM := Lib.hid hm
  have HNH := Lib.hid hnh
  clear hline hslim hu2 hk2 HB1 HU1 hm hnh
  obtain ⟨i0, hi, hz0, hz1, hz2⟩ := info_parts info_string
  have HIF := Lib.hid hi
  have HZ0 := Lib.hid hz0
  have HZ1 := Lib.hid hz1
  have HZ2 := Lib.hid hz2
  clear hi hz0 hz1 hz2
  go_wp2_with (at_make; refine wpList_make_full _ rfl _ _ 44 rfl (w2.heap.size + 1) 9 i0 (.string ByteArray.empty) 1 Try.underlying44 HIF.out HZ0.out HZ1.out .i64 .i64 m m m rfl rfl rfl rfl (by rw [HZ2.out]; omega) (by unfold maxLen; omega) (by simp) ?_; intro w3 hown hgrow)
  obtain ⟨W, hW⟩ : ∃ W, W = w2.alloc (.cells #[.slice A nh c, .int .i64 L.worn, .int .i64 L.scr, .int .i64 L.total, .slice AQ m cQ] 25) := ⟨_, rfl⟩
  have hWs : W.heap.size = w2.heap.size + 1 := by rw [hW, World.size_alloc]
  rw [← hW] at hgrow
  have HBX := Lib.hid (show Blok W w2.heap.size 25 [.slice A nh c, .int .i64 L.worn, .int .i64 L.scr, .int .i64 L.total, .slice AQ m cQ] by rw [hW]; exact Blok.new _ _ _)
  have HBW := Lib.hid (show Below w.heap.size w W by rw [hW]; exact HB2.out.alloc HB2.out.size _)
  have HLW := Lib.hid (show LineAt W W.heap.size (.agg #[.slice A nh c, .int .i64 L.worn, .int .i64 L.scr, .int .i64 L.total, .slice AQ m cQ]) L by
    rw [hW, HNH.out, HM.out]
    exact HL2.out.keep (Same.of_below ((Below.refl _ _).alloc (Nat.le_refl _) _)) (by rw [World.size_alloc]; omega))
  obtain ⟨hgl, hgll⟩ := blok_of_own hown
  rw [made_strs, ← hW] at hgl
  have hI0 : WalkI W (w3.alloc (.cells #[.slice (some ⟨W.heap.size, 0, none⟩) m m, .slice none 0 0, .int .i64 999] 74)) w3.heap.size W.heap.size m (foundTo L 0) := by
    have hsz := hgrow.size
    refine ⟨((Below.refl _ _).grown hgrow (Nat.le_refl _) (fun _ e => by cases e)).alloc hsz _, ⟨.slice none 0 0, Blok.new w3 74 [.slice (some ⟨W.heap.size, 0, none⟩) m m, .slice none 0 0, .int .i64 999], World.ownsRow_nil _ _ _ _⟩, ?_, ?_, hsz, Nat.le_refl _, ⟨List.nodup_nil, fun x hx => by cases hx⟩, fun l hl => ?_, Nat.le_refl _⟩
    · have h := hgl.alloc (.cells #[.slice (some ⟨W.heap.size, 0, none⟩) m m, .slice none 0 0, .int .i64 999] 74)
      rw [HM.out] at h ⊢
      exact h
    · show (List.replicate L.squares.length ([] : List UInt8)).length = m
      rw [List.length_replicate, HM.out]
    · have hl' : l ∈ List.replicate L.squares.length ([] : List UInt8) := hl
      rw [List.eq_of_mem_replicate hl']
      exact List.nodup_nil
  have HI0 := Lib.hid hI0
  rw [← hWs]
  have z0 : w2.heap.size < W.heap.size := by omega
  clear hI0 hgl hgll hown hgrow HB2 HL2 hW hWs
  go_loopw [5] (fun si wr => ∃ i : Nat, i ≤ nh ∧ si = .int .i64 i ∧ Hid (WalkI W wr w3.heap.size W.heap.size m (foundTo L i))) (fun si _ => nh - (intOf si).toNat)
  case atStart => exact ⟨0, by omega, rfl, HI0⟩
  case round =>
    clear HI0
    obtain ⟨i, hi, rfl, HI⟩ := hrel
    have HB := Lib.hid (HBX.out.below HI.out.bel HBX.out.size)
    have zb := HB.out.size
    have b0 : wr.cell? ⟨w2.heap.size, 0, none⟩ = some (.slice A nh c) := HB.out.cell 0
    have b1 : wr.cell? ⟨w2.heap.size, 1, none⟩ = some (.int .i64 L.worn) := HB.out.cell 1
    have b2 : wr.cell? ⟨w2.heap.size, 2, none⟩ = some (.int .i64 L.scr) := HB.out.cell 2
    have b3 : wr.cell? ⟨w2.heap.size, 3, none⟩ = some (.int .i64 L.total) := HB.out.cell 3
    have b4 : wr.cell? ⟨w2.heap.size, 4, none⟩ = some (.slice AQ m cQ) := HB.out.cell 4
    by_cases hin : i < nh
    · have hiL : i < L.hands.length := by rw [← HNH.out]; exact hin
      have HWK := Lib.hid (show Calls Try.prog 41 #[.agg #[.slice A nh c, .int .i64 L.worn, .int .i64 L.scr, .int .i64 L.total, .slice AQ m cQ], .int .i64 i, .string ⟨#[]⟩, .int .i64 0, .pointer (some ⟨w3.heap.size, 0, none⟩)] wr (fun e w' => e = .returned (.tuple #[]) ∧ WalkI W w' w3.heap.size W.heap.size m (foundTo L (i + 1)) ∧ Kt wr w') by
        have h := walk_any L HSL.out i L.hands[i] (List.getElem?_eq_getElem hiL) _ W HLW.out w3.heap.size W.heap.size L.squares.length 0 (by omega) ([], 0) (WayOk.nil _ _) wr (foundTo L i) (by rw [← HM.out]; exact HI.out)
        have e1 : L.hands.getD i ⟨0, 0, []⟩ = L.hands[i] := by simp [List.getD, hiL]
        have e2 : foundTo L (i + 1) = (foundTo L i).adds L.total (L.hands[i]).shapes i (ext L (L.hands[i]).shapes L.squares.length ([], 0)) := by rw [foundTo, e1]
        rw [← e2, ← HM.out] at h
        exact h)
      clear hiL
      go_wp2_with fail
      refine HWK.out.mono ?_
      rintro e w4 ⟨rfl, hI4, -⟩
      have HI4 := Lib.hid hI4
      clear hI4 HWK b0 b1 b2 b3 b4
      go_wp2_with fail
      exact ⟨⟨i + 1, by omega, by go_num, HI4⟩, by simp [intOf]; omega⟩
    · obtain rfl : i = nh := by omega
      have HF3 := Lib.hid (show WalkI W wr w3.heap.size W.heap.size m (foundAll L) by have h := HI.out; rw [HNH.out] at h; exact h)
      have HLN := Lib.hid (fun (wx : World) (h : Below W.heap.size W wx) => show LineAt wx wx.heap.size (.agg #[.slice A i c, .int .i64 L.worn, .int .i64 L.scr, .int .i64 L.total, .slice AQ m cQ]) L from HLW.out.keep (Same.of_below h) h.size)
      have HOK := Lib.hid HSL.out.ok
      have HFH := Lib.hid (found_hands HSL.out)
      have HB3 := HB
      clear HI HLW HB
      rcases found_marks HSL.out with ⟨hm81, hf9⟩ | ⟨hm81, hfm, hlt9⟩
      · have hne : handsOf L = [] := by
          by_cases h : handsOf L = []
          · exact h
          · have := fitting_marks HSL.out.ok h
            have := HSL.out.ok.2.2.2.2.2.1
            omega
        have HNE := Lib.hid hne
        have HM81 := Lib.hid hm81
        have HF9 := Lib.hid hf9
        clear hne hm81 hf9
        go_wp2_with fail
        refine (hands_none _ L _ HOK.out (HLN.out _ HF3.out.bel) HNE.out).mono ?_
        rintro e w4 ⟨rfl, hb4⟩
        have HF4 := Lib.hid (HF3.out.below hb4)
        clear hb4 b0 b1 b2 b3 b4 zb HB3
        have HB4 := Lib.hid (HBX.out.below HF4.out.bel HBX.out.size)
        have zb := HB4.out.size
        have b0 : w4.cell? ⟨w2.heap.size, 0, none⟩ = some (.slice A i c) := HB4.out.cell 0
        have b1 : w4.cell? ⟨w2.heap.size, 1, none⟩ = some (.int .i64 L.worn) := HB4.out.cell 1
        have b2 : w4.cell? ⟨w2.heap.size, 2, none⟩ = some (.int .i64 L.scr) := HB4.out.cell 2
        have b3 : w4.cell? ⟨w2.heap.size, 3, none⟩ = some (.int .i64 L.total) := HB4.out.cell 3
        have b4 : w4.cell? ⟨w2.heap.size, 4, none⟩ = some (.slice AQ m cQ) := HB4.out.cell 4
        go_wp2_with fail
        refine (letters_none Unit _ L _ HOK.out (HLN.out _ HF4.out.bel) HNE.out).mono ?_
        rintro e w5 ⟨rfl, hb5⟩
        have HF5 := Lib.hid (HF4.out.below hb5)
        clear hb5 b0 b1 b2 b3 b4 zb HB4
        have HB5 := Lib.hid (HBX.out.below HF5.out.bel HBX.out.size)
        have zb := HB5.out.size
        have b0 : w5.cell? ⟨w2.heap.size, 0, none⟩ = some (.slice A i c) := HB5.out.cell 0
        have b1 : w5.cell? ⟨w2.heap.size, 1, none⟩ = some (.int .i64 L.worn) := HB5.out.cell 1
        have b2 : w5.cell? ⟨w2.heap.size, 2, none⟩ = some (.int .i64 L.scr) := HB5.out.cell 2
        have b3 : w5.cell? ⟨w2.heap.size, 3, none⟩ = some (.int .i64 L.total) := HB5.out.cell 3
        have b4 : w5.cell? ⟨w2.heap.size, 4, none⟩ = some (.slice AQ m cQ) := HB5.out.cell 4
        go_wp2_with fail
        refine (marks_no _ L _ HOK.out (HLN.out _ HF5.out.bel) HM81.out).mono ?_
        rintro e w6 ⟨rfl, hb6⟩
        have HF6 := Lib.hid (HF5.out.below hb6)
        clear hb6 b0 b1 b2 b3 b4 zb HB5
        obtain ⟨hv6, hx6, ho6⟩ := HF6.out.box
        obtain ⟨Ah, ch, rfl⟩ := own_slice ho6
        have c1 : w6.cell? ⟨w3.heap.size, 1, none⟩ = some (.slice Ah 0 ch) := by
          have h := hx6.cell 1
          rw [HFH.out, HNE.out] at h
          exact h
        have c2 : w6.cell? ⟨w3.heap.size, 2, none⟩ = some (.int .i64 999) := by
          have h := hx6.cell 2
          rw [HF9.out] at h
          exact h
        clear hx6 ho6
        go_wp2_with (go_at_call 14; refine (ready_any Unit _).mono ?_; rintro e w8 ⟨rfl, hb8⟩; have HB8 := Lib.hid hb8; clear hb8)
        go_ret
        exact ⟨rfl, HBW.out.trans ((HF6.out.bel.trans (HB8.out.mono HF6.out.bel.size)).mono HBW.out.size)⟩
      · obtain ⟨mk, hmk⟩ : ∃ mk, mk = marksOf L := ⟨_, rfl⟩
        have HMC := Lib.hid (fun (wx : World) (h : Below W.heap.size W wx) => show Calls Try.prog 32 #[.agg #[.slice A i c, .int .i64 L.worn, .int .i64 L.scr, .int .i64 L.total, .slice AQ m cQ]] wx (fun e w' => e = .returned (.tuple #[.int .i64 mk, .int .i64 0]) ∧ Below wx.heap.size wx w') by rw [hmk]; exact marks_ok _ L wx HOK.out (HLN.out wx h) hm81)
        have HFM := Lib.hid (show (foundAll L).marks = mk by rw [hmk]; exact hfm)
        rw [← hmk] at hlt9
        have t1 : ((mk : Int) == 999) = false := by rw [beq_eq_false_iff_ne]; omega
        have t2 : (mk : Int) < 999 := by omega
        clear hm81 hfm hmk
        by_cases hne : handsOf L = []
        · have HNE := Lib.hid hne
          clear hne
          go_wp2_with fail
          refine (hands_none _ L _ HOK.out (HLN.out _ HF3.out.bel) HNE.out).mono ?_
          rintro e w4 ⟨rfl, hb4⟩
          have HF4 := Lib.hid (HF3.out.below hb4)
          clear hb4 b0 b1 b2 b3 b4 zb HB3
          have HB4 := Lib.hid (HBX.out.below HF4.out.bel HBX.out.size)
          have zb := HB4.out.size
          have b0 : w4.cell? ⟨w2.heap.size, 0, none⟩ = some (.slice A i c) := HB4.out.cell 0
          have b1 : w4.cell? ⟨w2.heap.size, 1, none⟩ = some (.int .i64 L.worn) := HB4.out.cell 1
          have b2 : w4.cell? ⟨w2.heap.size, 2, none⟩ = some (.int .i64 L.scr) := HB4.out.cell 2
          have b3 : w4.cell? ⟨w2.heap.size, 3, none⟩ = some (.int .i64 L.total) := HB4.out.cell 3
          have b4 : w4.cell? ⟨w2.heap.size, 4, none⟩ = some (.slice AQ m cQ) := HB4.out.cell 4
          go_wp2_with fail
          refine (letters_none Unit _ L _ HOK.out (HLN.out _ HF4.out.bel) HNE.out).mono ?_
          rintro e w5 ⟨rfl, hb5⟩
          have HF5 := Lib.hid (HF4.out.below hb5)
          clear hb5 b0 b1 b2 b3 b4 zb HB4
          have HB5 := Lib.hid (HBX.out.below HF5.out.bel HBX.out.size)
          have zb := HB5.out.size
          have b0 : w5.cell? ⟨w2.heap.size, 0, none⟩ = some (.slice A i c) := HB5.out.cell 0
          have b1 : w5.cell? ⟨w2.heap.size, 1, none⟩ = some (.int .i64 L.worn) := HB5.out.cell 1
          have b2 : w5.cell? ⟨w2.heap.size, 2, none⟩ = some (.int .i64 L.scr) := HB5.out.cell 2
          have b3 : w5.cell? ⟨w2.heap.size, 3, none⟩ = some (.int .i64 L.total) := HB5.out.cell 3
          have b4 : w5.cell? ⟨w2.heap.size, 4, none⟩ = some (.slice AQ m cQ) := HB5.out.cell 4
          go_wp2_with fail
          refine (HMC.out _ HF5.out.bel).mono ?_
          rintro e w6 ⟨rfl, hb6⟩
          have HF6 := Lib.hid (HF5.out.below hb6)
          clear hb6 b0 b1 b2 b3 b4 zb HB5
          obtain ⟨hv6, hx6, ho6⟩ := HF6.out.box
          obtain ⟨Ah, ch, rfl⟩ := own_slice ho6
          have c1 : w6.cell? ⟨w3.heap.size, 1, none⟩ = some (.slice Ah 0 ch) := by
            have h := hx6.cell 1
            rw [HFH.out, HNE.out] at h
            exact h
          have c2 : w6.cell? ⟨w3.heap.size, 2, none⟩ = some (.int .i64 mk) := by
            have h := hx6.cell 2
            rw [HFM.out] at h
            exact h
          clear hx6 ho6
          go_wp2_with (go_at_call 14; refine (ready_any Unit _).mono ?_; rintro e w8 ⟨rfl, hb8⟩; have HB8 := Lib.hid hb8; clear hb8)
          go_ret
          exact ⟨rfl, HBW.out.trans ((HF6.out.bel.trans (HB8.out.mono HF6.out.bel.size)).mono HBW.out.size)⟩
        · have HNE := Lib.hid hne
          clear hne
          go_wp2_with fail
          refine (hands_list _ L _ HOK.out (HLN.out _ HF3.out.bel) HNE.out).mono ?_
          rintro e w4 ⟨va, rfl, hia, hb4⟩
          have HF4 := Lib.hid (HF3.out.below hb4)
          clear hb4 b0 b1 b2 b3 b4 zb HB3
          have HA4 := Lib.hid hia
          clear hia
          have HB4 := Lib.hid (HBX.out.below HF4.out.bel HBX.out.size)
          have zb := HB4.out.size
          have b0 : w4.cell? ⟨w2.heap.size, 0, none⟩ = some (.slice A i c) := HB4.out.cell 0
          have b1 : w4.cell? ⟨w2.heap.size, 1, none⟩ = some (.int .i64 L.worn) := HB4.out.cell 1
          have b2 : w4.cell? ⟨w2.heap.size, 2, none⟩ = some (.int .i64 L.scr) := HB4.out.cell 2
          have b3 : w4.cell? ⟨w2.heap.size, 3, none⟩ = some (.int .i64 L.total) := HB4.out.cell 3
          have b4 : w4.cell? ⟨w2.heap.size, 4, none⟩ = some (.slice AQ m cQ) := HB4.out.cell 4
          go_wp2_with fail
          refine (letters_some Unit _ L _ HOK.out (HLN.out _ HF4.out.bel) HNE.out).mono ?_
          rintro e w5 ⟨ub, rfl, hu, hb5⟩
          have HF5 := Lib.hid (HF4.out.below hb5)
          have HA5 := Lib.hid (HA4.out.keep (B' := w5.heap.size) (Same.of_below hb5) hb5.size)
          have HU5 := Lib.hid hu
          clear hu HA4
          clear hb5 b0 b1 b2 b3 b4 zb HB4
          have HB5 := Lib.hid (HBX.out.below HF5.out.bel HBX.out.size)
          have zb := HB5.out.size
          have b0 : w5.cell? ⟨w2.heap.size, 0, none⟩ = some (.slice A i c) := HB5.out.cell 0
          have b1 : w5.cell? ⟨w2.heap.size, 1, none⟩ = some (.int .i64 L.worn) := HB5.out.cell 1
          have b2 : w5.cell? ⟨w2.heap.size, 2, none⟩ = some (.int .i64 L.scr) := HB5.out.cell 2
          have b3 : w5.cell? ⟨w2.heap.size, 3, none⟩ = some (.int .i64 L.total) := HB5.out.cell 3
          have b4 : w5.cell? ⟨w2.heap.size, 4, none⟩ = some (.slice AQ m cQ) := HB5.out.cell 4
          go_wp2_with fail
          refine (HMC.out _ HF5.out.bel).mono ?_
          rintro e w6 ⟨rfl, hb6⟩
          have HF6 := Lib.hid (HF5.out.below hb6)
          have HA6 := Lib.hid (HA5.out.keep (B' := w6.heap.size) (Same.of_below hb6) hb6.size)
          have HU6 := Lib.hid (own_below HU5.out hb6 (Nat.le_refl _))
          clear HA5 HU5
          clear hb6 b0 b1 b2 b3 b4 zb HB5
          obtain ⟨Aa, ca, rfl, hAa⟩ := id HA6.out
          clear hAa
          obtain ⟨Ab, cb, rfl⟩ := own_slice HU6.out
          obtain ⟨g, rfl, hg0, hg1, hcs⟩ := letters_in HU6.out (by rw [← HM.out]; exact hm1)
          have HCS := Lib.hid hcs
          obtain ⟨hv6, hx6, ho6⟩ := HF6.out.box
          obtain ⟨Ah, ch, rfl⟩ := own_slice ho6
          have hi6 := ints_own ho6
          have c0 : w6.cell? ⟨w3.heap.size, 0, none⟩ = some (.slice (some ⟨W.heap.size, 0, none⟩) m m) := hx6.cell 0
          have c1 : w6.cell? ⟨w3.heap.size, 1, none⟩ = some (.slice Ah (handsOf L).length ch) := by
            have h := hx6.cell 1
            rw [HFH.out] at h
            exact h
          have c2 : w6.cell? ⟨w3.heap.size, 2, none⟩ = some (.int .i64 mk) := by
            have h := hx6.cell 2
            rw [HFM.out] at h
            exact h
          rw [HFH.out] at hi6
          have h4 : (handsOf L).length ≤ 100 := hands_le _ HOK.out
          have hl1 : 1 ≤ (handsOf L).length := List.length_pos_iff.2 HNE.out
          obtain ⟨nf, hnf⟩ : ∃ nf, nf = (handsOf L).length := ⟨_, rfl⟩
          have HSI := Lib.hid (show Calls Try.prog 27 #[.slice Aa nf ca, .slice Ah nf ch] w6 (fun e w' => e = .returned (.bool true) ∧ Below w6.heap.size w6 w') by
            rw [hnf]
            exact sameInts_yes _ _ (handsOf L) _ _ w6 h4 HA6.out hi6)
          rw [← hnf] at c1 hl1
          rw [← hnf, ← HM.out]
          have t3 : ((nf : Int) == 0) = false := by rw [beq_eq_false_iff_ne]; omega
          clear hx6 ho6 hi6 hcs h4 hnf HA6
          go_wp2_with fail
          refine HSI.out.mono ?_
          rintro e w7 ⟨rfl, hb7⟩
          have HF7 := Lib.hid (HF6.out.below hb7)
          have HCS7 := Lib.hid (fun k (hk : k < L.squares.length) => bcell hb7 hg1 (HCS.out k hk))
          have hg7 : g < w7.heap.size := by have := hb7.size; omega
          clear hb7 hg1 HCS HF6 HU6 HSI HMC HLN c0 c1 c2
          go_wp2_with fail
          go_loopw [2, 12] (fun s2 si wr => ∃ j : Nat, j ≤ m ∧ s2 = .bool false ∧ si = .int .i64 j ∧ Below w7.heap.size w7 wr) (fun _ si _ => m - (intOf si).toNat)
          case atStart => exact ⟨0, by omega, rfl, rfl, Below.refl _ _⟩
          case round =>
            obtain ⟨j, hj, rfl, rfl, hb⟩ := hrel
            have HBR := Lib.hid hb
            clear hb
            by_cases hjm : j < m
            · have hjL : j < L.squares.length := by rw [← HM.out]; exact hjm
              obtain ⟨y, hy⟩ : ∃ y, y = orderText (allLetters L j) := ⟨_, rfl⟩
              obtain ⟨z, hz⟩ : ∃ z, z = strOf ((foundAll L).letters.getD j []) := ⟨_, rfl⟩
              have hyz : z.size = y.size := by rw [hz, hy, strOf_size]; exact found_len HSL.out hjL
              have hy256 : y.size ≤ 256 := by rw [hy]; exact orderText_le _
              have l1 : wr.cell? ⟨g, j, none⟩ = some (.string y) := by rw [hy]; exact bcell HBR.out hg7 (HCS7.out j hjL)
              have HFR := Lib.hid (HF7.out.below HBR.out)
              obtain ⟨hv8, hx8, ho8⟩ := HFR.out.box
              have l0 : wr.cell? ⟨w3.heap.size, 0, none⟩ = some (.slice (some ⟨W.heap.size, 0, none⟩) m m) := hx8.cell 0
              have l2 : wr.cell? ⟨W.heap.size, j, none⟩ = some (.string z) := by rw [hz]; exact (strOf_cell HFR.out hjm).1
              have HY := Lib.hid hy
              have HZ := Lib.hid hz
              have HYZ := Lib.hid hyz
              have hyz1 : ((y.size : Int) == (z.size : Int)) = true := by rw [hyz]; simp
              have hyz2 : ((y.size : Int) != (z.size : Int)) = false := by rw [hyz]; simp
              have j0 : (0 : Int) ≤ (j : Int) := by omega
              have j1 : (j : Int) < (m : Int) := by omega
              have hz256 : z.size ≤ 256 := by omega
              clear hx8 ho8 hy hz hyz hjL
              go_wp2_with fail
              go_quiet (fail)
              go_wp2_with fail
              have HB9 := Lib.hid (below_drewN HBR.out nq)
              clear l0 l1 l2 HFR hyz1 hyz2
              go_loopw [2, 13] (fun s2 sk wx => ∃ k : Nat, k ≤ y.size ∧ s2 = .bool false ∧ sk = .int .i64 k ∧ Below w7.heap.size w7 wx) (fun _ sk _ => y.size - (intOf sk).toNat)
              case atStart => exact ⟨0, by omega, rfl, rfl, HB9.out⟩
              case round =>
                clear HB9
                obtain ⟨k, hk, rfl, rfl, hb⟩ := hrel
                have HBX2 := Lib.hid hb
                clear hb
                have hjL : j < L.squares.length := by rw [← HM.out]; exact hjm
                have l1 : wr.cell? ⟨g, j, none⟩ = some (.string y) := by rw [HY.out]; exact bcell HBX2.out hg7 (HCS7.out j hjL)
                by_cases hky : k < y.size
                · have HFR := Lib.hid (HF7.out.below HBX2.out)
                  obtain ⟨hv8, hx8, ho8⟩ := HFR.out.box
                  have l0 : wr.cell? ⟨w3.heap.size, 0, none⟩ = some (.slice (some ⟨W.heap.size, 0, none⟩) m m) := hx8.cell 0
                  have l2 : wr.cell? ⟨W.heap.size, j, none⟩ = some (.string z) := by rw [HZ.out]; exact (strOf_cell HFR.out hjm).1
                  have HIN := Lib.hid (show y[k] ∈ z.data.toList by
                    have h1 : y[k] ∈ y.data.toList := by rw [ByteArray.getElem_eq_getElem_data]; exact Array.getElem_mem_toList _
                    rw [HZ.out, strOf_list]
                    refine (found_letters HSL.out hjL y[k]).2 ?_
                    rw [← HY.out]
                    exact h1)
                  have k0 : (0 : Int) ≤ (k : Int) := by omega
                  have k1 : (k : Int) < (y.size : Int) := by omega
                  have hz1000 : z.size ≤ 1000 := by omega
                  clear hx8 ho8 HFR hjL
                  by_cases hk0 : k = 0
                  · subst hk0
                    go_wp2_with fail
                    go_quiet ((go_at_call 39; exact quietL (has_yes z y[0] _ hz1000 HIN.out)))
                    go_wp2_with fail
                    exact ⟨⟨1, by omega, rfl, rfl, below_drewN HBX2.out nq⟩, by simp [intOf]; omega⟩
                  · have m1 : (1 : Int) ≤ (k : Int) := by omega
                    have m2 : (k : Int) - 1 < (y.size : Int) := by omega
                    have m3 : ((k : Int) - 1).toNat = k - 1 := by omega
                    have m4 : k - 1 < y.size := by omega
                    have m5 : 0 < k := by omega
                    have m6 : y[k - 1].toNat < y[k].toNat := by
                      have h1 : y.data.toList.Pairwise fun a b => a.toNat < b.toNat := by rw [HY.out]; exact orderText_rising _
                      have hl : y.data.toList.length = y.size := by rw [Array.length_toList]; rfl
                      have h2 := List.pairwise_iff_getElem.1 h1 (k - 1) k (by omega) (by omega) (by omega)
                      exact h2
                    clear hk0
                    go_wp2_with fail
                    go_quiet ((go_at_call 39; exact quietL (has_yes z y[k] _ hz1000 HIN.out)))
                    go_wp2_with fail
                    exact ⟨⟨k + 1, by omega, rfl, by go_num, below_drewN HBX2.out nq⟩, by simp [intOf]; omega⟩
                · obtain rfl : k = y.size := by omega
                  go_wp2_with fail
                  exact ⟨⟨j + 1, by omega, rfl, by go_num, HBX2.out⟩, by simp [intOf]; omega⟩
            · obtain rfl : j = m := by omega
              go_wp2_with (go_at_call 14; refine (ready_any Unit _).mono ?_; rintro e w8 ⟨rfl, hb8⟩; have HB8 := Lib.hid hb8; clear hb8)
              go_ret
              exact ⟨rfl, HBW.out.trans (((HF7.out.below HBR.out).bel.trans (HB8.out.mono (HF7.out.below HBR.out).bel.size)).mono HBW.out.size)⟩
end Go.Proofs.Ythhajbgddifenaa
