/- All hands' letters with what they need. -/
import Derived.Test.YtcemefojpaicoaaDoorC
import Derived.Test.YtcemefojpaicoaaDoorL
import Derived.Deep.RegionHeld3
import Derived.Deep.AppendLies
namespace Go.Proofs.YtcemefojpaicoaaDoor
open Go.RowKit

theorem Needs.cells {L : Line} {S : List Shape} {N : List Value} (h : Needs L S N) : NeedCells (cutterOf L S) L.squares.length N :=
  ⟨h.1, h.2.1, fun q i hq hi => by
    have h1 : L.squares[q]? = some L.squares[q] := List.getElem?_eq_getElem hq
    have h2 : S[i]? = some (S[i]'hi) := List.getElem?_eq_getElem hi
    rw [h.2.2 q i _ _ (.inl hq) h1 h2]
    simp [cutterOf, List.getD, h1, h2]⟩

/-- What holds of the world within the loop of 'cutters'. -/
def CutsI (w : World) (B0 : Nat) (bx : List Value) (L : Line) (k : Nat) (v : Value) (wr : World) : Prop :=
  Below (w.heap.size + 1) (w.alloc (.cells bx.toArray 25)) wr ∧ ∃ xs, wr.ownsRow (w.heap.size + 1) 72 65 v k xs ∧ CutCells wr B0 L.squares.length ((cuttersOf L).take k) xs
def CuttersPost (L : Line) (B0 : Nat) (w : World) (e : Ending) (w' : World) : Prop := ∃ v, e = .returned v ∧ Cuts w' (fun k => k < B0 ∨ w.heap.size + 1 ≤ k ∧ k < w'.heap.size) L.squares.length v (cuttersOf L) ∧ Below w.heap.size w w'

theorem info_cutter : (Tryd.prog.info? 72).map (fun i => (i.zero, i.size, i.bytes)) = some (some (.agg (.slice none 0 0 :: List.replicate 64 (.int .i64 0)).toArray), 65, 536) := by kernel_rfl

theorem one_cons {v : Value} {N : List Value} (h : v.oneCell' = true) (hN : ∀ u ∈ N, u.oneCell' = true) : ∀ u ∈ v :: N, u.oneCell' = true := fun u hu => by
  rcases List.mem_cons.1 hu with rfl | hu
  · exact h
  · exact hN u hu
theorem built_cutter (A : Option Addr) (n c : Nat) (N : List Value) (hN : N.length = 64) :
    Tryd.prog.built 72 [(0, .slice A n c), (1, .agg N.toArray)] = some (.slice A n c :: N).toArray := by
  obtain ⟨i0, hi, hz0, hz1, hz2⟩ := info_parts info_cutter
  rw [built_struct (places := [(0, 1), (1, 64)]) hi Tryd.underlying72 hz0 (by kernel_rfl)]
  have h1 := fill_part ([(0, 1), (1, 64)].toArray[·]?) 0 (.slice A n c) [.slice A n c] rfl [] [.slice none 0 0] (List.replicate 64 (.int .i64 0)) rfl rfl [(1, .agg N.toArray)]
  have h2 := fill_part ([(0, 1), (1, 64)].toArray[·]?) 1 (.agg N.toArray) N rfl [.slice A n c] (List.replicate 64 (.int .i64 0)) [] (by simp [hN]) (by rw [hN]; rfl) []
  refine h1.trans ?_
  simp only [List.append_nil] at h2
  exact h2
theorem run_build_cutter (A : Option Addr) (n c : Nat) (N : List Value) (hN : N.length = 64) (w : World) :
    (Instr.build 72 #[(0, .slice A n c), (1, .agg N.toArray)]).run Tryd.prog w = .ok (.agg (.slice A n c :: N).toArray) w := run_build w _ _ _ (built_cutter A n c N hN)
theorem run_slice_cutter (A : Option Addr) (n c : Nat) (N : List Value) (hN : N.length = 64) (w : World) :
    (Instr.buildSlice 65 1 #[(0, .agg (.slice A n c :: N).toArray)]).run Tryd.prog w = .ok (.slice (some ⟨w.heap.size, 0, none⟩) 1 1) (w.alloc (.cells (.slice A n c :: N).toArray 72)) := by
  obtain ⟨i0, hi, hz0, hz1, hz2⟩ := info_parts info_cutter
  exact run_buildSlice_one w _ _ i0 _ _ (by kernel_rfl) hi hz0 (by rw [hz1]; simp [hN]) (by simp [Value.cells, hN]) (by simp [hN]) (by simp)
/-- A slice literal, under a name that the walk's simp does not open. -/
def mkSlice (t : TypeId) (n : Nat) (parts : Array (Nat × Value)) : Sem Value := Instr.buildSlice t n parts
theorem mk_cutter (parts : Array (Nat × Value)) : Instr.buildSlice 65 1 parts = mkSlice 65 1 parts := rfl
theorem run_mk_cutter (A : Option Addr) (n c : Nat) (N : List Value) (hN : N.length = 64) (w : World) :
    (mkSlice 65 1 #[(0, .agg (.slice A n c :: N).toArray)]).run Tryd.prog w = .ok (.slice (some ⟨w.heap.size, 0, none⟩) 1 1) (w.alloc (.cells (.slice A n c :: N).toArray 72)) := run_slice_cutter A n c N hN w
def mkAgg (t : TypeId) (parts : Array (Nat × Value)) : Sem Value := Instr.build t parts
theorem mk_agg (parts : Array (Nat × Value)) : Instr.build 72 parts = mkAgg 72 parts := rfl
theorem run_mk_agg (A : Option Addr) (n c : Nat) (N : List Value) (hN : N.length = 64) (w : World) :
    (mkAgg 72 #[(0, .slice A n c), (1, .agg N.toArray)]).run Tryd.prog w = .ok (.agg (.slice A n c :: N).toArray) w := run_build_cutter A n c N hN w
attribute [local go_sem ↓] mk_agg mk_cutter
attribute [local go_sem] run_mk_agg run_mk_cutter

set_option maxHeartbeats 1000000 in
set_option maxRecDepth 100000 in
theorem cutters_any (v : Value) (L : Line) (w : World) (B0 : Nat) (hB0 : B0 ≤ w.heap.size) (hL : L.ok) (hv : LineAt w B0 v L) :
    Calls Tryd.prog 23 #[v] w (CuttersPost L B0 w) := by
  have hv0 := hv.keep (Same.refl _ _) hB0
  obtain ⟨vh, vs, rfl, hh, hq⟩ := hv
  obtain ⟨A, c, rfl, hA⟩ := hh
  obtain ⟨n, hn⟩ : ∃ n, n = L.hands.length := ⟨_, rfl⟩
  have n4 : n ≤ 4 := by rw [hn]; exact hL.2.1
  rw [← hn] at hA hv0 ⊢
  have HN := Lib.hid hn
  have HL := Lib.hid hL
  have HV := Lib.hid hv0
  obtain ⟨i0, hi, hz0, hz1, hz2⟩ := info_parts info_cutter
  clear hn hL hv0
  go_enter Tryd.func23, Tryd.ntmps23
  go_wp2_with fail
  go_loopw [3, 9] (fun v i wr => ∃ k : Nat, k ≤ n ∧ i = .int .i64 k ∧ CutsI w B0 [.slice A n c, .int .i64 L.worn, .int .i64 L.scr, .int .i64 L.total, vs] L k v wr) (fun _ i _ => n - (intOf i).toNat)
  case atStart => exact ⟨0, by omega, rfl, Below.refl _ _, [], ⟨rfl, .inl ⟨rfl, rfl⟩⟩, CutCells.nil _ _ _⟩
  case round =>
    obtain ⟨k, hk, rfl, hI⟩ := hrel
    by_cases hlt : k < n
    · obtain ⟨b, o, rfl, hBB, hc⟩ := hA (by omega)
      have hB : b < w.heap.size := Nat.lt_of_lt_of_le hBB hB0
      have hkq : k < L.hands.length := by rw [← HN.out]; exact hlt
      obtain ⟨h, hh⟩ : ∃ h, L.hands[k]? = some h := ⟨_, List.getElem?_eq_getElem hkq⟩
      obtain ⟨d1, d2, sv, d3, hsv⟩ := hc k h hh
      obtain ⟨hb, xs, hown, hcut⟩ := hI
      have HSV := Lib.hid hsv
      obtain ⟨As, cs, rfl, -⟩ := hsv
      have hb0 : Below w.heap.size w wr := ((Below.refl _ _).alloc (Nat.le_refl _) _).trans (hb.mono (by omega))
      have d1 := bcell hb0 hB d1
      have d2 := bcell hb0 hB d2
      have d3 := bcell hb0 hB d3
      have bx := (Blok.new w 25 [.slice (some ⟨b, o, none⟩) n c, .int .i64 L.worn, .int .i64 L.scr, .int .i64 L.total, vs]).below hb (by omega)
      have s0 : w.heap.size < wr.heap.size := bx.size
      have l0 : wr.cell? ⟨w.heap.size, 0, none⟩ = some (.slice (some ⟨b, o, none⟩) n c) := bx.cell 0
      have l1 : wr.cell? ⟨w.heap.size, 1, none⟩ = some (.int .i64 L.worn) := bx.cell 1
      have l2 : wr.cell? ⟨w.heap.size, 2, none⟩ = some (.int .i64 L.scr) := bx.cell 2
      have l3 : wr.cell? ⟨w.heap.size, 3, none⟩ = some (.int .i64 L.total) := bx.cell 3
      have l4 : wr.cell? ⟨w.heap.size, 4, none⟩ = some vs := bx.cell 4
      have HH := Lib.hid hh
      have HOK := Lib.hid (HL.out.2.2.1 h (List.mem_of_getElem? hh))
      have HO := Lib.hid hown
      have HC := Lib.hid hcut
      have HB := Lib.hid hb
      have HB0 := Lib.hid hb0
      clear hc hA hh hown hcut hb bx hb0
      go_wp2_with fail
      go_region_held3 (fun w' => w'.cell? ⟨w.heap.size, 0, none⟩ = some (.slice (some ⟨b, o, none⟩) n c) ∧ w'.cell? ⟨w.heap.size, 1, none⟩ = some (.int .i64 L.worn) ∧ w'.cell? ⟨w.heap.size, 2, none⟩ = some (.int .i64 L.scr) ∧ w'.cell? ⟨w.heap.size, 3, none⟩ = some (.int .i64 L.total) ∧ w'.cell? ⟨w.heap.size, 4, none⟩ = some vs ∧ w'.cell? ⟨wr.heap.size, 2, none⟩ = some (.slice As h.shapes.length cs))
        (first
          | go_keep
          | (refine ⟨?_, ?_, ?_, ?_, ?_, ?_⟩ <;> (refine (hb1.cell (p := ⟨_, _, none⟩) (by simp; try omega)).trans ?_; simp [*]))
          | (go_split_ands; refine ⟨?_, ?_, ?_, ?_, ?_, ?_⟩ <;> (rw [hgrow.cell_far _ (by have := hb1.size; simp at this ⊢; omega) (by intro e; have := HO.out.lt _ e.symm; simp at this; try omega)]; assumption)))
        (first
          | (go_at_call 33; refine (needed_any _ _ L h.shapes _ HL.out (HV.out.keep (Same.of_below ((HB0.out.alloc HB0.out.size _).drew)) (by simp; omega)) (HOK.out.2.2.2.2.1) (HOK.out.2.2.2.2.2.1) (HSV.out.keep (Same.mono (Same.of_below ((HB0.out.alloc HB0.out.size _).drew)) hB0) (by simp; omega))).mono ?_; rintro e w1 ⟨N, rfl, hN, hb1⟩; have hN64 := hN.1; have hown1 := own_below (HO.out.alloc (.cells #[.int .i64 h.low, .int .i64 h.high, .slice As h.shapes.length cs] 36)).drew hb1 (Nat.le_refl _))
          | (refine step_append_lies _ (by rfl) (.tmp 13) (.tmp 21) 65 (by rfl) (w.heap.size + 1) 72 i0 _ 65 536 Tryd.underlying65 hi hz0 hz1 hz2 (by rfl) (by decide) u3 k xs (by rfl) (hown1.alloc _) _ 1 1 (.slice As h.shapes.length cs :: N) (by rfl) (by simp [hN64]) (World.news_of_block (heap_alloc_new w1 _)) (one_cons rfl hN.2.1) (by decide) (by unfold maxLen; omega) (by omega) (by have := hb1.size; simp at this ⊢; omega) (w1.heap.size + 1) (by simp) ?_; intro g cap w2 hown2 hgrow hat hlt2))
      have b2 : Below (w.heap.size + 1) (w.alloc (.cells #[.slice (some ⟨b, o, none⟩) n c, .int .i64 L.worn, .int .i64 L.scr, .int .i64 L.total, vs] 25)) w2 :=
        ((((HB.out.alloc (by omega) _).drew.trans (hb1.mono (by simp; omega))).alloc (by have := hb1.size; simp at this; omega) _).grown hgrow (by have := hb1.size; simp at this ⊢; omega) (fun j e => (HO.out.lt j e).1))
      have hc2 := (HC.out.keep (Same.mono (Same.of_two HB.out b2) (by omega)) (Nat.le_refl _)).snoc (c := cutterOf L h.shapes) rfl (HSV.out.keep (Same.mono (Same.of_below (((Below.refl _ _).alloc (Nat.le_refl _) _).trans (b2.mono (Nat.le_succ _)))) hB0) (Nat.le_refl _)) hN.cells
      rw [← cuttersOf_snoc L k h HH.out] at hc2
      clear l0 l1 l2 l3 l4 d1 d2 d3
      have HF : Hid (CutsI w B0 [.slice (some ⟨b, o, none⟩) n c, .int .i64 L.worn, .int .i64 L.scr, .int .i64 L.total, vs] L (k + 1) (.slice (some ⟨g, 0, none⟩) (k + 1) cap) w2) := Lib.hid ⟨b2, _, hown2, hc2⟩
      clear b2 hc2 hown2 hgrow hat
      go_wp2_with fail
      go_roundw
      case rel => exact ⟨k + 1, by omega, by go_num, HF.out⟩
      case measure => simp [intOf]; omega
    · obtain rfl : k = n := by omega
      obtain ⟨hb, xs, hown, hcut⟩ := hI
      have hlen : (cuttersOf L).length = k := by unfold cuttersOf; rw [List.length_map, ← HN.out]
      rw [List.take_of_length_le (by omega)] at hcut
      rw [← hlen] at hown
      have hcc := Cuts.of_own hown hcut
      go_wp2_with fail
      go_ret
      exact ⟨_, rfl, hcc, ((Below.refl _ _).alloc (Nat.le_refl _) _).trans (hb.mono (Nat.le_succ _))⟩
end Go.Proofs.YtcemefojpaicoaaDoor
