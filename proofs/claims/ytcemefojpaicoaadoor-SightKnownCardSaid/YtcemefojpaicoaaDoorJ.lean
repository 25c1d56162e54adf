/- How many marks a line has at least. -/
import Derived.Test.YtcemefojpaicoaaDoorH
import Derived.Maps.AppendAt
namespace Go.Proofs.YtcemefojpaicoaaDoor
open Go.RowKit Go.Shelf

attribute [local go_sem ↓] ld_cut st_cut

/-- How many marks each hand needs. -/
def sumsOf (L : Line) : List Nat := (cuttersOf L).map fun c => c.sum L.squares.length
def marksOf (L : Line) : Nat := leastOf 81 (sumsOf L)
/-- Marks answers ErrClash, or the number. -/
def MarksPost (L : Line) (w : World) (e : Ending) (w' : World) : Prop :=
  Below w.heap.size w w' ∧ ((marksOf L = 81 ∧ e = .returned (.tuple #[.int .i64 0, .int .i64 9])) ∨ (marksOf L ≠ 81 ∧ e = .returned (.tuple #[.int .i64 (marksOf L), .int .i64 0])))

theorem SlP.of_own {w : World} {base : Nat} {t : TypeId} {v : Value} {l : List Nat} (h : w.ownsRow base t 1 v l.length (l.map fun (n : Nat) => .int .i64 n)) : Sl w.heap.size v l.length (intsR w l) := ints_of_own h

set_option maxRecDepth 100000 in
set_option maxHeartbeats 2000000 in
theorem marks_any (v : Value) (L : Line) (w : World) (hL : L.ok) (hv : LineAt w w.heap.size v L) :
    Calls Tryd.prog 12 #[v] w (MarksPost L w) := by
  have HL := Lib.hid hL
  have HV := Lib.hid hv
  obtain ⟨vh, vs, rfl, hh, hq⟩ := hv
  obtain ⟨A, c, rfl, -⟩ := hh
  obtain ⟨AQ, cQ, rfl, -⟩ := hq
  obtain ⟨m, hm⟩ : ∃ m, m = L.squares.length := ⟨_, rfl⟩
  have hm8 : m ≤ 8 := by rw [hm]; exact hL.2.2.2.2.2.2.2.1
  have HM := Lib.hid hm
  rw [← hm] at HV
  obtain ⟨i0, hi, hz0, hz1, hz2⟩ := info_parts info_int
  rw [← hm]
  clear hm hL
  go_enter Tryd.func12, Tryd.ntmps12
  go_wp2_with (first
    | (go_at_call 7; refine (check_ok _ L _ HL.out (HV.out.keep (Same.of_below ((Below.refl _ _).alloc (Nat.le_refl _) _)) (by simp))).mono ?_; rintro e w1 ⟨rfl, hb1⟩; have hbx := (Blok.new w 25 [.slice A L.hands.length c, .int .i64 L.worn, .int .i64 L.scr, .int .i64 L.total, .slice AQ m cQ]).below hb1 (by simp); have l0 := hbx.cell 0; have l1 := hbx.cell 1; have l2 := hbx.cell 2; have l3 := hbx.cell 3; have l4 := hbx.cell 4; have HBX := Lib.hid hbx; have HB1 := Lib.hid hb1; clear hbx hb1)
    | (go_at_call 23; refine (cutters_any _ L _ w.heap.size (by have := HB1.out.size; simp at this; omega) HL.out (HV.out.keep (Same.of_below (((Below.refl _ _).alloc (Nat.le_refl _) _).trans (HB1.out.mono (by simp)))) (Nat.le_refl _))).mono ?_; rintro e w2 ⟨cv, rfl, hcut, hb2⟩; have HCUT := Lib.hid hcut; obtain ⟨Ac, cc, rfl, -⟩ := hcut; clear l0 l1 l2 l3 l4))
  obtain ⟨n, hn⟩ : ∃ n, n = (cuttersOf L).length := ⟨_, rfl⟩
  have hn4 : n ≤ 4 := by rw [hn]; simp [cuttersOf]; exact HL.out.2.1
  rw [← hn]
  have HN := Lib.hid hn
  have hb02 : Below w.heap.size w w2 := (((Below.refl _ _).alloc (Nat.le_refl _) _).trans (HB1.out.mono (by simp))).trans (hb2.mono (by have := HB1.out.size; simp at this; omega))
  have hbx2 := HBX.out.below hb2 HBX.out.size
  have HBX2 := Lib.hid hbx2
  have H02 := Lib.hid hb02
  have hlen : (sumsOf L).length = n := by rw [hn]; simp [sumsOf]
  have HLEN := Lib.hid hlen
  clear hn hb2 hb02 hbx2 hlen HB1 HBX
  go_loopw [5, 19] (fun v i wr => ∃ k : Nat, k ≤ n ∧ i = .int .i64 k ∧ Below w2.heap.size w2 wr ∧ wr.ownsRow w2.heap.size 3 1 v k (((sumsOf L).take k).map fun (x : Nat) => .int .i64 x)) (fun _ i _ => n - (intOf i).toNat)
  case atStart => exact ⟨0, by omega, rfl, Below.refl _ _, World.ownsRow_nil _ _ _ _⟩
  case round =>
    obtain ⟨k, hk, rfl, hb, hown⟩ := hrel
    by_cases hlt : k < n
    · obtain ⟨cu, hcu⟩ : ∃ cu, (cuttersOf L)[k]? = some cu := ⟨_, List.getElem?_eq_getElem (by rw [← HN.out]; exact hlt)⟩
      have hcuo := cutterOf_ok L HL.out cu (List.mem_of_getElem? hcu)
      obtain ⟨A', cp', e, hA⟩ := HCUT.out
      obtain ⟨bc, oc, rfl, hPb, hR⟩ := hA (by rw [← HN.out]; omega)
      injection e with e1 e2 e3
      subst e1
      clear e2 e3 hA
      obtain ⟨sv, N, r1, r2, r3, r4⟩ := hR k cu hcu
      rw [← HM.out] at r4
      have hsv : ∃ A cp, sv = .slice A cu.shapes.length cp := by obtain ⟨A, cp, e, _⟩ := r3; exact ⟨A, cp, e⟩
      have h65 : (sv :: N).length = 65 := by simp [r4.1]
      have hbc2 : bc < w2.heap.size := by have := H02.out.size; omega
      have hld := run_ldCut wr bc (oc + k * 65) _ (fun i u hu => (hb.cell (p := ⟨bc, _, none⟩) hbc2).trans (r1 i u hu)) h65
      have hst := run_stCut wr _ h65 (one_cons r2 r4.2.1)
      have hbxr := HBX2.out.below hb HBX2.out.size
      have l4 : wr.cell? ⟨w.heap.size, 4, none⟩ = some (.slice AQ m cQ) := hbxr.cell 4
      have z0 := hbxr.size
      have HOWN := Lib.hid hown
      have HB := Lib.hid hb
      have HR4 := Lib.hid r4
      have HCU := Lib.hid hcu
      have hsz : w2.heap.size ≤ wr.heap.size := hb.size
      clear r1 r2 r3 r4 hR hown hb hcu hbxr
      go_wp2_with fail
      clear hld hst
      obtain ⟨wo, rfl⟩ : ∃ wo : World, wo = wr := ⟨_, rfl⟩
      go_loopw [8, 26] (fun s i wx => ∃ q : Nat, q ≤ m ∧ i = .int .i64 q ∧ s = .int .i64 (cu.sum q) ∧ Below (wo.heap.size + 1) (wo.alloc (.cells (sv :: N).toArray 72)) wx) (fun _ i _ => m - (intOf i).toNat)
      case atStart => exact ⟨0, by omega, rfl, by simp [Cutter.sum], Below.refl _ _⟩
      case round =>
        obtain ⟨q, hq, rfl, rfl, hbx⟩ := hrel
        have hblk := (Blok.new wo 72 (sv :: N)).below hbx (Nat.lt_succ_self _)
        have hlw : wo.heap.size + 1 ≤ wr.heap.size := by have := hbx.size; simp at this; exact this
        by_cases hqm : q < m
        · have hld := run_ldCut wr wo.heap.size 0 (sv :: N) (fun i u hu => by rw [Nat.zero_add, hblk.cell]; exact hu) h65
          have hfl := cu.fewest_le q
          have hsl := cu.sum_le q
          have HS := Lib.hid (cu.sum_succ q)
          have HX := Lib.hid hbx
          clear hbx hblk
          go_wp2_with (go_at_call 25; refine (fewest_cut cu m sv N hsv HR4.out hcuo q hqm hm8 _).mono ?_; rintro e w4 ⟨rfl, hb4⟩)
          go_roundw
          case rel => exact ⟨q + 1, by omega, by go_num, val_int (by rw [HS.out]; omega), HX.out.trans (hb4.mono hlw)⟩
          case measure => simp [intOf]; omega
        · obtain rfl : q = m := by omega
          have hown := own_below (HOWN.out.alloc (.cells (sv :: N).toArray 72)) hbx (by simp)
          have hbw : Below w2.heap.size w2 wr := (HB.out.alloc hsz _).trans (hbx.mono (by omega))
          have HBW := Lib.hid hbw
          have htk : (sumsOf L).take (k + 1) = (sumsOf L).take k ++ [cu.sum q] := by
            have hk' : k < (sumsOf L).length := by rw [HLEN.out]; exact hlt
            rw [List.take_succ_eq_append_getElem hk']
            congr 2
            have := HCU.out
            have h5 : (sumsOf L)[k]? = some (cu.sum L.squares.length) := by unfold sumsOf; rw [List.getElem?_map, this]; rfl
            rw [List.getElem?_eq_getElem hk'] at h5
            rw [HM.out]
            injection h5
          have HTK := Lib.hid htk
          have hsw : w2.heap.size ≤ wr.heap.size := hbw.size
          clear hbx hblk hbw htk
          go_wp2_with (at_builtin; refine wpList_append_own _ rfl _ _ 40 rfl w2.heap.size 3 i0 (.int .i64 0) 1 8 Tryd.underlying40 hi hz0 hz1 hz2 rfl (by decide) _ _ _ rfl (hown.alloc _) ⟨wr.heap.size, 0, none⟩ 1 1 [.int .i64 (cu.sum q)] rfl rfl (cell_one_new _ _ _) (by simp [Value.oneCell']) (by unfold maxLen; omega) (by omega) (by simp; omega) ?_; intro v' w5 hown' hgrow _)
          go_roundw
          case rel =>
            refine ⟨k + 1, by omega, by go_num, (HBW.out.alloc hsw _).grown hgrow (by simp; omega) (fun j e => (hown.lt j e).1), ?_⟩
            rw [HTK.out, List.map_append]
            exact hown'
          case measure => simp [intOf]; omega
    · obtain rfl : k = n := by omega
      rw [List.take_of_length_le (by rw [HLEN.out]; exact Nat.le_refl _)] at hown
      have hown2 := hown
      rw [← HLEN.out] at hown2
      have hints := ints_of_own hown2
      have hform : ∃ Av cv, u5 = .slice Av k cv := by
        rcases hown.2 with ⟨rfl, h0⟩ | ⟨g, cap, cur, rfl, _⟩
        · exact ⟨none, 0, by rw [h0]⟩
        · exact ⟨_, _, rfl⟩
      obtain ⟨Av, cv, rfl⟩ := hform
      have HI := Lib.hid hints
      have HB := Lib.hid (H02.out.trans (hb.mono H02.out.size))
      have hle : marksOf L ≤ 81 := leastOf_le _ _
      clear hown hown2 hints hb
      have hl100 : (sumsOf L).length ≤ 100 := by rw [HLEN.out]; omega
      by_cases h81 : leastOf 81 (sumsOf L) = 81
      · have h81' : (((leastOf 81 (sumsOf L) : Nat) : Int) == 81) = true := by simp [h81]
        have H81 := Lib.hid h81
        clear h81 hle
        go_wp2_with (go_at_call 24; refine (least_any 81 _ (sumsOf L) _ hl100 _ HI.out).mono ?_; rintro e w6 ⟨rfl, rfl⟩)
        go_ret2
        exact ⟨HB.out, .inl ⟨H81.out, rfl⟩⟩
      · have h81' : (((leastOf 81 (sumsOf L) : Nat) : Int) == 81) = false := by simp; omega
        have H81 := Lib.hid h81
        clear h81 hle
        go_wp2_with (go_at_call 24; refine (least_any 81 _ (sumsOf L) _ hl100 _ HI.out).mono ?_; rintro e w6 ⟨rfl, rfl⟩)
        go_ret2
        exact ⟨HB.out, .inr ⟨H81.out, rfl⟩⟩
end Go.Proofs.YtcemefojpaicoaaDoor
