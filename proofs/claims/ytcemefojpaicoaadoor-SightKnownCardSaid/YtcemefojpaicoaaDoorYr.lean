/- Years: from the first to the last year of the hands that fit. -/
import Derived.Test.YtcemefojpaicoaaDoorH
import Derived.Deep.RegionLaw
namespace Go.Proofs.YtcemefojpaicoaaDoor
open Go.RowKit Go.Shelf

set_option maxHeartbeats 400000 in
/-- sight.least at int, of two numbers. -/
theorem least_two (a x : Int) (b c : Nat) (w : World) (hc : w.cell? ⟨b, 0, none⟩ = some (.int .i64 x)) :
    Calls Tryd.prog 24 #[.int .i64 a, .slice (some ⟨b, 0, none⟩) 1 c] w fun e w' => e = .returned (.int .i64 (min a x)) ∧ w = w' := by
  go_enter Tryd.func24, Tryd.ntmps24
  go_wp2
  go_loop [0, 9] (fun v i => ∃ k : Nat, k ≤ 1 ∧ i = .int .i64 k ∧ v = .int .i64 (if k = 0 then a else min a x)) (fun _ i => 1 - (intOf i).toNat)
  case atStart => exact ⟨0, by omega, rfl, rfl⟩
  case round =>
    obtain ⟨k, hk, rfl, rfl⟩ := hrel
    by_cases hlt : k < 1
    · obtain rfl : k = 0 := by omega
      simp only [if_true]
      go_wp2
      go_round
      case rel => exact ⟨1, by omega, by go_num, val_int (by simp; split <;> omega)⟩
      case measure => simp [intOf]
    · obtain rfl : k = 1 := by omega
      have e : (if (1 : Nat) = 0 then a else min a x) = min a x := by simp
      rw [e]
      clear e
      go_wp2
      go_ret
      exact ⟨rfl, rfl⟩
def lowOf (L : Line) (h : Nat) : Int := (L.hands.getD h ⟨0, 0, []⟩).low
def highOf (L : Line) (h : Nat) : Int := (L.hands.getD h ⟨0, 0, []⟩).high
def lowTo (L : Line) (a : Int) (hs : List Nat) : Int := hs.foldl (fun a h => min a (lowOf L h)) a
def highTo (L : Line) (a : Int) (hs : List Nat) : Int := hs.foldl (fun a h => max a (highOf L h)) a
theorem lowTo_snoc (L : Line) (a : Int) (hs : List Nat) (h : Nat) : lowTo L a (hs ++ [h]) = min (lowTo L a hs) (lowOf L h) := by simp [lowTo]
theorem highTo_snoc (L : Line) (a : Int) (hs : List Nat) (h : Nat) : highTo L a (hs ++ [h]) = max (highTo L a hs) (highOf L h) := by simp [highTo]
/-- The first and the last year of a line. -/
def yearsOf (L : Line) : Int × Int := match handsOf L with
  | [] => (0, 0)
  | h :: hs => (lowTo L (lowOf L h) hs, highTo L (highOf L h) hs)
theorem mem_hands_lt {L : Line} {h : Nat} (hm : h ∈ handsOf L) : h < L.hands.length := by
  unfold handsOf at hm
  obtain ⟨x, _, rfl⟩ := List.mem_map.1 hm
  obtain ⟨c, hc, _⟩ := x.2
  have := (List.getElem?_eq_some_iff.1 hc).1
  simpa [cuttersOf] using this
theorem Blok.drew1 {w : World} {g : Nat} {t : TypeId} {cs : List Value} (h : Blok w g t cs) : Blok w.drew g t cs := h
theorem results_cell_tmp {P : Program} {fn : Func} {p q : Tmp} {tp : TypeId} (h : fn.results = #[.cell p tp, .tmp q]) (tmps : Array Value) (w : World) (g : Nat) (t : TypeId) (cs : List Value) (d : TypeDesc)
    (hp : tmps.getD p undef = .pointer (some ⟨g, 0, none⟩)) (hg : Blok w g t cs) (hu : P.underlying tp = some d) (hd : (match d with | .struct _ | .array _ _ => true | _ => false) = true) (hi : (P.info? tp).map (·.size) = some cs.toArray.size) :
    (results fn tmps).run P w = .ok (.tuple #[.agg cs.toArray, tmps.getD q undef]) w := by
  have hp' : tmps[p]?.getD undef = .pointer (some ⟨g, 0, none⟩) := by simpa using hp
  simp [results, h, hp', asAddr, run_loadVar_row w g t tp cs.toArray (0, 0) d hg hu hd hi]
def YearsPost (L : Line) (w : World) (e : Ending) (w' : World) : Prop := e = .returned (.tuple #[.agg #[.int .i64 (yearsOf L).1, .int .i64 (yearsOf L).2], .int .i64 0]) ∧ Below w.heap.size w w'
set_option maxRecDepth 100000 in
set_option maxHeartbeats 2000000 in
theorem years_any (v : Value) (L : Line) (w : World) (hL : L.ok) (hv : LineAt w w.heap.size v L) (h0 : Nat) (hs : List Nat) (hh : handsOf L = h0 :: hs) :
    Calls Tryd.prog 9 #[v] w (YearsPost L w) := by
  have hl4 : hs.length ≤ 4 := by
    have h1 := fitsTo_len (cuttersOf L) L.squares.length L.total (cuttersOf L).length
    have h2 : (handsOf L).length ≤ (cuttersOf L).length := by unfold handsOf fits; simpa using h1
    have h3 : (cuttersOf L).length ≤ 4 := by simp [cuttersOf]; exact hL.2.1
    rw [hh] at h2
    simp at h2
    omega
  have HL := Lib.hid hL
  have HV := Lib.hid hv
  have HH := Lib.hid hh
  obtain ⟨vh, vs, rfl, hha, hq⟩ := hv
  obtain ⟨A, c, rfl, hA⟩ := hha
  obtain ⟨AQ, cQ, rfl, -⟩ := hq
  have hlt0 : h0 < L.hands.length := mem_hands_lt (by rw [hh]; simp)
  obtain ⟨b, o, rfl, hbB, hcells⟩ := hA (by omega)
  have HC := Lib.hid hcells
  have HLT := Lib.hid (fun h (hm : h ∈ hs) => mem_hands_lt (L := L) (h := h) (by rw [hh]; simp [hm]))
  clear hA hcells hL hh
  go_enter Tryd.func9, Tryd.ntmps9
  go_wp2_with fail
  refine (hands_any _ L _ HL.out (HV.out.keep (Same.of_below (((Below.refl _ _).alloc (Nat.le_refl _) _).alloc (by simp) _)) (by simp; omega))).mono ?_
  rintro e w1 ⟨hb1, ⟨he, -⟩ | ⟨-, u, rfl, hi, hcap⟩⟩
  · rw [HH.out] at he
    cases he
  obtain ⟨Ai, ci, rfl, hIA⟩ := hi
  have hcap1 := hcap _ _ _ rfl
  rw [HH.out] at hIA hcap1 ⊢
  obtain ⟨bi, oi, rfl, hbi, hic⟩ := hIA (by simp)
  have HIC := Lib.hid hic
  have hb0 : Below w.heap.size w w1 := (((Below.refl _ _).alloc (Nat.le_refl _) _).alloc (by simp) _).trans (hb1.mono (by simp; omega))
  have hbx := ((Blok.new w 25 [.slice (some ⟨b, o, none⟩) L.hands.length c, .int .i64 L.worn, .int .i64 L.scr, .int .i64 L.total, .slice AQ L.squares.length cQ]).alloc (.cells #[.int .i64 0, .int .i64 0] 33)).below hb1 (by simp; omega)
  have hby := Blok.new (w.alloc (.cells #[.slice (some ⟨b, o, none⟩) L.hands.length c, .int .i64 L.worn, .int .i64 L.scr, .int .i64 L.total, .slice AQ L.squares.length cQ] 25)) 33 [.int .i64 0, .int .i64 0]
  rw [World.size_alloc] at hby
  have hby1 := hby.below hb1 (by simp)
  have HB0 := Lib.hid hb0
  have HBX := Lib.hid hbx
  have HBY := Lib.hid hby1
  have hz1 := hby1.size
  clear hic hb0 hb1 hbx hby hby1 hcap hIA
  have l0 : w1.cell? ⟨w.heap.size, 0, none⟩ = some (.slice (some ⟨b, o, none⟩) L.hands.length c) := HBX.out.cell 0
  have i0 : w1.cell? ⟨bi, oi, none⟩ = some (.int .i64 h0) := HIC.out 0 h0 rfl
  obtain ⟨H, hH⟩ : ∃ H, L.hands[h0]? = some H := ⟨_, List.getElem?_eq_getElem hlt0⟩
  have d := HC.out h0 H hH
  have d1 := bcell HB0.out hbB d.1
  have d2 := bcell HB0.out hbB d.2.1
  have elow : lowOf L h0 = H.low := by simp [lowOf, List.getD, hH]
  have ehigh : highOf L h0 = H.high := by simp [highOf, List.getD, hH]
  have EL := Lib.hid elow
  have EH := Lib.hid ehigh
  clear d elow ehigh hH
  have hbw : b < w1.heap.size := by omega
  have hww : w.heap.size < w1.heap.size := by omega
  by_cases hci : ci = 1
  · subst hci
    obtain rfl : hs = [] := by
      cases hs with
      | nil => rfl
      | cons a l => simp at hcap1
    have hyb : Blok (w1.alloc (.cells #[.int .i64 H.low, .int .i64 H.high] 33)) w1.heap.size 33 [.int .i64 H.low, .int .i64 H.high] := Blok.new w1 33 [.int .i64 H.low, .int .i64 H.high]
    have hyo : yearsOf L = (H.low, H.high) := by
      unfold yearsOf
      rw [HH.out]
      show (lowOf L h0, highOf L h0) = _
      rw [EL.out, EH.out]
    have HYB := Lib.hid hyb
    have HYO := Lib.hid hyo
    clear hyb hyo hcap1
    go_wp2
    go_region
    all_goals
      go_wp2
      go_loopw [29] (fun i wr => i = .int .i64 0 ∧ Blok wr w1.heap.size 33 [.int .i64 H.low, .int .i64 H.high] ∧ Below w1.heap.size w1 wr) (fun _ _ => 0)
      case atStart => exact ⟨rfl, Blok.drew1 HYB.out, ((Below.refl _ _).alloc (Nat.le_refl _) _).drew⟩
      case round =>
        clear HYB l0 i0 d1 d2
        obtain ⟨rfl, hy, hbr⟩ := hrel
        have y0 : wr.cell? ⟨w1.heap.size, 0, none⟩ = some (.int .i64 H.low) := hy.cell 0
        have y1 : wr.cell? ⟨w1.heap.size, 1, none⟩ = some (.int .i64 H.high) := hy.cell 1
        have hby := HBY.out.below (hbr.mono (Nat.le_refl _)) hz1
        have r0 : wr.cell? ⟨w.heap.size + 1, 0, none⟩ = some (.int .i64 0) := hby.cell 0
        have r1 : wr.cell? ⟨w.heap.size + 1, 1, none⟩ = some (.int .i64 0) := hby.cell 1
        have f0 := hby.free 0
        have f1 := hby.free 1
        have hend := (hby.put 0 (.int .i64 H.low)).put 1 (.int .i64 H.high)
        have hbel := ((HB0.out.trans (hbr.mono (by omega))).setCell (p := ⟨w.heap.size + 1, 0, none⟩) (Nat.le_succ _) (.int .i64 H.low)).setCell (p := ⟨w.heap.size + 1, 1, none⟩) (Nat.le_succ _) (.int .i64 H.high)
        have HEND := Lib.hid hend
        have HBEL := Lib.hid hbel
        clear hend hbel hby hy hbr
        go_wp2
        refine bodyPost_ret (v := .tuple #[.agg #[.int .i64 H.low, .int .i64 H.high], .int .i64 0]) ?_ rfl ⟨by rw [HYO.out], HBEL.out⟩
        exact results_cell_tmp Tryd.results9 _ _ (w.heap.size + 1) 33 _ _ rfl HEND.out Tryd.underlying33 rfl (by kernel_rfl)
  · have hci2 : 2 ≤ ci := by simp at hcap1; omega
    obtain ⟨d', rfl⟩ : ∃ d', ci = d' + 2 := ⟨ci - 2, by omega⟩
    clear hci hci2 hcap1
    go_wp2
    go_region
    all_goals
      have hyb : Blok (w1.alloc (.cells #[.int .i64 H.low, .int .i64 H.high] 33)) w1.heap.size 33 [.int .i64 (lowOf L h0), .int .i64 (highOf L h0)] := by
        rw [EL.out, EH.out]
        exact Blok.new w1 33 [.int .i64 H.low, .int .i64 H.high]
      have HYB := Lib.hid hyb
      clear hyb
      go_wp2
      go_loopw [29] (fun i wr => ∃ k : Nat, k ≤ hs.length ∧ i = .int .i64 k ∧ Blok wr w1.heap.size 33 [.int .i64 (lowTo L (lowOf L h0) (hs.take k)), .int .i64 (highTo L (highOf L h0) (hs.take k))] ∧ Below w1.heap.size w1 wr) (fun i _ => hs.length - (intOf i).toNat)
      case atStart => exact ⟨0, by omega, rfl, HYB.out, ((Below.refl _ _).alloc (Nat.le_refl _) _).drew⟩
      case round =>
        clear HYB l0 i0 d1 d2
        obtain ⟨k, hk, rfl, hy, hbr⟩ := hrel
        by_cases hlt : k < hs.length
        · have HLT2 := Lib.hid hlt
          obtain ⟨h, hhk⟩ : ∃ h, hs[k]? = some h := ⟨_, List.getElem?_eq_getElem hlt⟩
          have hhm := HLT.out h (List.mem_of_getElem? hhk)
          obtain ⟨H2, hH2⟩ : ∃ H2, L.hands[h]? = some H2 := ⟨_, List.getElem?_eq_getElem hhm⟩
          have d := HC.out h H2 hH2
          have d1 := bcell hbr (by omega) (bcell HB0.out hbB d.1)
          have d2 := bcell hbr (by omega) (bcell HB0.out hbB d.2.1)
          have l0 := bcell hbr (by omega) (show w1.cell? ⟨w.heap.size, 0, none⟩ = some (.slice (some ⟨b, o, none⟩) L.hands.length c) from HBX.out.cell 0)
          have i1 := bcell hbr hbi (HIC.out (k + 1) h (by simpa using hhk))
          rw [show oi + (k + 1) = oi + 1 + k by omega] at i1
          have el : lowOf L h = H2.low := by simp [lowOf, List.getD, hH2]
          have eh : highOf L h = H2.high := by simp [highOf, List.getD, hH2]
          have htk : hs.take (k + 1) = hs.take k ++ [h] := by rw [List.take_succ_eq_append_getElem hlt, (List.getElem?_eq_some_iff.1 hhk).2]
          have E1 := Lib.hid (show lowTo L (lowOf L h0) (hs.take (k + 1)) = min (lowTo L (lowOf L h0) (hs.take k)) H2.low by rw [htk, lowTo_snoc, el])
          have E2 := Lib.hid (show highTo L (highOf L h0) (hs.take (k + 1)) = max (highTo L (highOf L h0) (hs.take k)) H2.high by rw [htk, highTo_snoc, eh])
          generalize lowTo L (lowOf L h0) (hs.take k) = lo at hy E1
          generalize highTo L (highOf L h0) (hs.take k) = hi' at hy E2
          have y0 : wr.cell? ⟨w1.heap.size, 0, none⟩ = some (.int .i64 lo) := hy.cell 0
          have y1 : wr.cell? ⟨w1.heap.size, 1, none⟩ = some (.int .i64 hi') := hy.cell 1
          have f0 := hy.free 0
          have f1 := hy.free 1
          have z1' := hy.size
          have HY := Lib.hid hy
          have HBR := Lib.hid hbr
          have HD := Lib.hid d
          clear d hH2 hhk el eh htk hy hbr
          have hbwr : b < wr.heap.size := by omega
          have hwwr : w.heap.size < wr.heap.size := by omega
          have hhi : (h : Int) < L.hands.length := by omega
          go_wp2_with fail
          go_region_law ((go_simp; go_at_call 24; refine (least_two _ H2.low wr.heap.size _ _ (show World.cell? (World.drew (wr.alloc (.cells #[.int .i64 H2.low] 3))) ⟨wr.heap.size, 0, none⟩ = some (.int .i64 H2.low) from (Blok.new wr 3 [.int .i64 H2.low]).cell 0)).mono ?_; rintro e w5 ⟨rfl, rfl⟩))
          all_goals
            have hy8 := Blok.drew1 ((HY.out.put 0 (.int .i64 (min lo H2.low))).alloc (.cells #[.int .i64 H2.low] 3))
            have hbr8 := ((HBR.out.setCell (p := ⟨w1.heap.size, 0, none⟩) (Nat.le_refl _) (.int .i64 (min lo H2.low))).alloc (by simp [World.setCell]; omega) (.cells #[.int .i64 H2.low] 3)).drew
            clear y0 y1 f0 f1 l0 i1 d1 d2 hbwr hwwr
            generalize ((wr.setCell ⟨w1.heap.size, 0, none⟩ (.int .i64 (min lo H2.low))).alloc (.cells #[.int .i64 H2.low] 3)).drew = W8 at hy8 hbr8 ⊢
            have d2 := bcell hbr8 (show b < w1.heap.size by omega) (bcell HB0.out hbB (HD.out.2.1))
            have l0 := bcell hbr8 (show w.heap.size < w1.heap.size by omega) (show w1.cell? ⟨w.heap.size, 0, none⟩ = some (.slice (some ⟨b, o, none⟩) L.hands.length c) from HBX.out.cell 0)
            have y1 : W8.cell? ⟨w1.heap.size, 1, none⟩ = some (.int .i64 hi') := hy8.cell 1
            have f1 := hy8.free 1
            have HY8 := Lib.hid hy8
            have HBR8 := Lib.hid hbr8
            clear hy8 hbr8
            by_cases hmx : hi' < H2.high
            · have EM := Lib.hid (show max hi' H2.high = H2.high by omega)
              go_wp2
              go_region
              all_goals
                go_wp2
                refine ⟨⟨k + 1, Nat.succ_le_of_lt HLT2.out, by go_num, ?_, ?_⟩, by simp [intOf]; have := HLT2.out; omega⟩
                · rw [E1.out, E2.out, EM.out]
                  exact Blok.drew1 (HY8.out.put 1 _)
                · exact (HBR8.out.setCell (p := ⟨w1.heap.size, 1, none⟩) (Nat.le_refl _) _).drew
            · have EM := Lib.hid (show max hi' H2.high = hi' by omega)
              go_wp2
              go_region
              all_goals
                go_wp2
                refine ⟨⟨k + 1, Nat.succ_le_of_lt HLT2.out, by go_num, ?_, ?_⟩, by simp [intOf]; have := HLT2.out; omega⟩
                · rw [E1.out, E2.out, EM.out]
                  exact Blok.drew1 (HY8.out.put 1 _)
                · exact (HBR8.out.setCell (p := ⟨w1.heap.size, 1, none⟩) (Nat.le_refl _) _).drew
        · obtain rfl : k = hs.length := by omega
          rw [List.take_length] at hy
          have y0 : wr.cell? ⟨w1.heap.size, 0, none⟩ = some (.int .i64 (lowTo L (lowOf L h0) hs)) := hy.cell 0
          have y1 : wr.cell? ⟨w1.heap.size, 1, none⟩ = some (.int .i64 (highTo L (highOf L h0) hs)) := hy.cell 1
          have hby := HBY.out.below (hbr.mono (Nat.le_refl _)) hz1
          have r0 : wr.cell? ⟨w.heap.size + 1, 0, none⟩ = some (.int .i64 0) := hby.cell 0
          have r1 : wr.cell? ⟨w.heap.size + 1, 1, none⟩ = some (.int .i64 0) := hby.cell 1
          have f0 := hby.free 0
          have f1 := hby.free 1
          have hend := (hby.put 0 (.int .i64 (lowTo L (lowOf L h0) hs))).put 1 (.int .i64 (highTo L (highOf L h0) hs))
          have hbel := ((HB0.out.trans (hbr.mono (by omega))).setCell (p := ⟨w.heap.size + 1, 0, none⟩) (Nat.le_succ _) (.int .i64 (lowTo L (lowOf L h0) hs))).setCell (p := ⟨w.heap.size + 1, 1, none⟩) (Nat.le_succ _) (.int .i64 (highTo L (highOf L h0) hs))
          have HEND := Lib.hid hend
          have HBEL := Lib.hid hbel
          have hyo : yearsOf L = (lowTo L (lowOf L h0) hs, highTo L (highOf L h0) hs) := by unfold yearsOf; rw [HH.out]
          have HYO := Lib.hid hyo
          clear hend hbel hyo hby hy hbr
          go_wp2
          refine bodyPost_ret (v := .tuple #[.agg #[.int .i64 (lowTo L (lowOf L h0) hs), .int .i64 (highTo L (highOf L h0) hs)], .int .i64 0]) ?_ rfl ⟨by rw [HYO.out], HBEL.out⟩
          exact results_cell_tmp Tryd.results9 _ _ (w.heap.size + 1) 33 _ _ rfl HEND.out Tryd.underlying33 rfl (by kernel_rfl)
end Go.Proofs.YtcemefojpaicoaaDoor
