/- cippustop's check of an example of chapter 1 and of one of chapter 5. -/
import Derived.Test.YtmfjfjahemlhkaaGreatGl
import Derived.Test.YtmfjfjahemlhkaaGreatZd
namespace Go.Proofs.YtmfjfjahemlhkaaGreat
open Go.RowKit Dt

/-- The example's line: one hand, of the years 3 to 9, one letter, one square without a light. -/
def exL : Sg.Line := ⟨[⟨3, 9, [⟨73, 1⟩]⟩], 0, 0, 0, [[]]⟩
theorem exL_ok : exL.ok := by
  refine ⟨by decide, by decide, fun h hh => ?_, by decide, by decide, by decide, by decide, by decide, fun q hq => ?_⟩
  · simp only [exL, List.mem_singleton] at hh
    subst hh
    refine ⟨by decide, by decide, by decide, by decide, by decide, fun s hs => ?_, by simp⟩
    simp only [List.mem_singleton] at hs
    subst hs
    unfold Sg.Shape.ok
    decide
  · simp only [exL, List.mem_singleton] at hq
    subst hq
    exact ⟨by decide, by simp⟩
theorem exL_hands : Sg.handsOf exL = [0] := by decide +kernel
theorem exL_years : Sg.yearsOf exL = (3, 9) := by
  unfold Sg.yearsOf
  rw [exL_hands]
  decide +kernel
/-- The example's dating: one stone, of the years 3 to 9, and of 2 or 7. -/
def exT : Dat := ⟨1, [], [⟨2, 0, 0, [], 3, 9⟩, ⟨1, 0, 0, [2, 7], 0, 0⟩]⟩
theorem exT_ok : exT.Ok := by
  refine ⟨by simp [exT], ⟨by simp [exT], by simp [exT]⟩, by simp [exT], fun n hn => ?_⟩
  simp only [exT, List.mem_cons, List.not_mem_nil, or_false] at hn
  rcases hn with rfl | rfl
  all_goals
    refine ⟨by simp [exT], by simp, fun h => ?_, fun h => ?_, fun h => ?_, fun h => ?_, fun h => ?_⟩
    all_goals first
      | (refine absurd h ?_; simp; done)
      | (simp [SpanOk]; done)
      | (simp [exT, SpanOk]; done)
theorem exT_is {x : Nat → Int} (h : exT.Is x) : x 1 = 7 := by
  have h1 := h.notes ⟨2, 0, 0, [], 3, 9⟩ (by simp [exT])
  have h2 := h.notes ⟨1, 0, 0, [2, 7], 0, 0⟩ (by simp [exT])
  have h0 := h.zero
  simp [Nt.right] at h1 h2
  omega
def exTX : Nat → Int := fun p => if p = 1 then 7 else 0
theorem exT_truth : exT.Is exTX := by
  refine ⟨rfl, fun p hp => ?_, fun n hn => ?_⟩
  · have : p = 0 ∨ p = 1 ∨ p = 2 ∨ p = 3 ∨ p = 4 ∨ p = 5 ∨ p = 6 ∨ p = 7 ∨ p = 8 ∨ p = 9 := by omega
    rcases this with rfl | rfl | rfl | rfl | rfl | rfl | rfl | rfl | rfl | rfl <;> simp [Dat.base, exT, exTX]
  · simp only [exT, List.mem_cons, List.not_mem_nil, or_false] at hn
    rcases hn with rfl | rfl <;> simp [Nt.right, exTX]
theorem exT_span : spanList exT 1 exT.stones = [(7, 7)] := by
  have h : exT.span 1 = (7, 7) := span_is exT_ok 1 (by omega) 7 7 ⟨_, exT_truth, rfl⟩ ⟨_, exT_truth, rfl⟩ fun x hx => by
    have := exT_is hx
    omega
  show spanList exT 1 1 = _
  simp only [spanList, List.range_succ, List.range_zero, List.nil_append, List.map_cons, List.map_nil, Nat.add_zero, h]
set_option maxRecDepth 100000 in
set_option maxHeartbeats 4000000 in
theorem dateAlert_any (w : World) : Calls Tryz.prog 23 #[] w fun e w' => e = .returned (.bool true) ∧ Below w.heap.size w w' := by
  have hl : ∀ w : World, Sg.LineAt (((w.alloc (.cells #[.int .u8 73, .int .i64 1] 98)).alloc (.cells #[.int .i64 3, .int .i64 9, .slice (some ⟨w.heap.size, 0, none⟩) 1 1] 59)).alloc (.cells #[.slice none 0 0] 99))
      (((w.alloc (.cells #[.int .u8 73, .int .i64 1] 98)).alloc (.cells #[.int .i64 3, .int .i64 9, .slice (some ⟨w.heap.size, 0, none⟩) 1 1] 59)).alloc (.cells #[.slice none 0 0] 99)).heap.size
      (.agg #[.slice (some ⟨w.heap.size + 1, 0, none⟩) 1 1, .int .i64 0, .int .i64 0, .int .i64 0, .slice (some ⟨w.heap.size + 1 + 1, 0, none⟩) 1 1]) exL := by
    intro w
    have b0 := ((Sg.Blok.new w 98 [.int .u8 73, .int .i64 1]).alloc (.cells #[.int .i64 3, .int .i64 9, .slice (some ⟨w.heap.size, 0, none⟩) 1 1] 59)).alloc (.cells #[.slice none 0 0] 99)
    have b1 := (Sg.Blok.new (w.alloc (.cells #[.int .u8 73, .int .i64 1] 98)) 59 [.int .i64 3, .int .i64 9, .slice (some ⟨w.heap.size, 0, none⟩) 1 1]).alloc (.cells #[.slice none 0 0] 99)
    have b2 := Sg.Blok.new ((w.alloc (.cells #[.int .u8 73, .int .i64 1] 98)).alloc (.cells #[.int .i64 3, .int .i64 9, .slice (some ⟨w.heap.size, 0, none⟩) 1 1] 59)) 99 [.slice none 0 0]
    simp only [World.size_alloc] at b1 b2
    refine Sg.LineB.line ⟨_, _, rfl, ⟨w.heap.size + 1, 1, _, [.slice (some ⟨w.heap.size, 0, none⟩) 1 1], rfl, b1, rfl, rfl, fun k h sv h1 h2 => ?_⟩, ⟨w.heap.size + 1 + 1, 1, _, [.slice none 0 0], rfl, b2, rfl, rfl, fun k q v h1 h2 => ?_⟩⟩
    · rcases k with _ | k
      · simp [exL] at h1 h2
        subst h1 h2
        exact ⟨w.heap.size, 1, _, rfl, b0, rfl⟩
      · simp at h2
    · rcases k with _ | k
      · simp [exL] at h1 h2
        subst h1 h2
        exact .inl ⟨rfl, rfl⟩
      · simp at h2
  have HYL : Hid (∀ w, Calls Tryz.prog 18 #[.agg #[.slice (some ⟨w.heap.size + 1, 0, none⟩) 1 1, .int .i64 0, .int .i64 0, .int .i64 0, .slice (some ⟨w.heap.size + 1 + 1, 0, none⟩) 1 1]]
      (((w.alloc (.cells #[.int .u8 73, .int .i64 1] 98)).alloc (.cells #[.int .i64 3, .int .i64 9, .slice (some ⟨w.heap.size, 0, none⟩) 1 1] 59)).alloc (.cells #[.slice none 0 0] 99)) fun e w' => e = .returned (.tuple #[.agg #[.int .i64 3, .int .i64 9], .int .i64 0]) ∧ Below w.heap.size w w') := Lib.hid fun w => by
    refine (Sg.years_yes _ exL _ exL_ok (hl w) (by rw [exL_hands]; simp)).mono ?_
    rintro e w' ⟨rfl, hb⟩
    rw [exL_years]
    exact ⟨rfl, ((((Below.refl w.heap.size w).alloc (Nat.le_refl _) _).alloc (by simp) _).alloc (by simp; omega) _).trans (hb.mono (by simp; omega))⟩
  have HYT : Hid (∀ v w, DatAt w w.heap.size v exT → Calls Tryz.prog 9 #[v] w (SpanListPost [(7, 7)] w)) := Lib.hid fun v w hv => by
    have h := years_yes exT exT_ok ((may_iff exT_ok).1 ⟨_, exT_truth⟩) v w.heap.size w (Nat.le_refl _) hv
    rwa [exT_span] at h
  clear hl
  go_enter Tryz.func23, Tryz.ntmps23
  go_upto_region 2 with (go_at_call 18; refine (HYL.out _).mono ?_; rintro e w1 ⟨rfl, hb1⟩; have HB1 := Lib.hid hb1; clear hb1)
  go_wp2_with fail
  obtain ⟨w2, hw2⟩ : ∃ w2, w2 = ((w1.alloc (.cells #[.int .i64 3, .int .i64 9] 33)).alloc (.cells #[.int .i64 2, .int .i64 7] 3)).alloc (.cells #[.int .i64 2, .int .i64 0, .int .i64 0, .slice none 0 0, .int .i64 3, .int .i64 9, .int .i64 1, .int .i64 0, .int .i64 0, .slice (some ⟨w1.heap.size + 1, 0, none⟩) 2 2, .int .i64 0, .int .i64 0] 64) := ⟨_, rfl⟩
  have b0 := ((Blok.new w1 33 [.int .i64 3, .int .i64 9]).alloc (.cells #[.int .i64 2, .int .i64 7] 3)).alloc (.cells #[.int .i64 2, .int .i64 0, .int .i64 0, .slice none 0 0, .int .i64 3, .int .i64 9, .int .i64 1, .int .i64 0, .int .i64 0, .slice (some ⟨w1.heap.size + 1, 0, none⟩) 2 2, .int .i64 0, .int .i64 0] 64)
  have b1 := (Blok.new (w1.alloc (.cells #[.int .i64 3, .int .i64 9] 33)) 3 [.int .i64 2, .int .i64 7]).alloc (.cells #[.int .i64 2, .int .i64 0, .int .i64 0, .slice none 0 0, .int .i64 3, .int .i64 9, .int .i64 1, .int .i64 0, .int .i64 0, .slice (some ⟨w1.heap.size + 1, 0, none⟩) 2 2, .int .i64 0, .int .i64 0] 64)
  have b2 := Blok.new ((w1.alloc (.cells #[.int .i64 3, .int .i64 9] 33)).alloc (.cells #[.int .i64 2, .int .i64 7] 3)) 64 [.int .i64 2, .int .i64 0, .int .i64 0, .slice none 0 0, .int .i64 3, .int .i64 9, .int .i64 1, .int .i64 0, .int .i64 0, .slice (some ⟨w1.heap.size + 1, 0, none⟩) 2 2, .int .i64 0, .int .i64 0]
  simp only [World.size_alloc] at b1 b2
  have hb2 : Below w.heap.size w w2 := by
    rw [hw2]
    exact ((HB1.out.alloc HB1.out.size _).alloc (by simp; have := HB1.out.size; omega) _).alloc (by simp; have := HB1.out.size; omega) _
  rw [← hw2] at b0 b1 b2
  have hd : DatAt w2 w2.heap.size (.agg #[.int .i64 1, .slice none 0 0, .slice (some ⟨w1.heap.size + 1 + 1, 0, none⟩) 2 2]) exT := by
    refine ⟨_, _, rfl, ⟨none, 0, rfl, fun h => absurd h (by simp [exT])⟩, ⟨_, _, rfl, fun _ => ⟨w1.heap.size + 1 + 1, 0, rfl, b2.size, fun k x hx => ?_⟩⟩⟩
    rcases k with _ | _ | k
    · simp [exT] at hx
      subst hx
      exact ⟨b2.cell 0, b2.cell 1, b2.cell 2, ⟨_, b2.cell 3, ⟨none, 0, rfl, fun h => absurd h (by simp)⟩⟩, b2.cell 4, b2.cell 5⟩
    · simp [exT] at hx
      subst hx
      refine ⟨b2.cell 6, b2.cell 7, b2.cell 8, ⟨_, b2.cell 9, ⟨_, _, rfl, fun _ => ⟨w1.heap.size + 1, 0, rfl, b1.size, fun k x hx => ?_⟩⟩⟩, b2.cell 10, b2.cell 11⟩
      rcases k with _ | _ | k
      · simp at hx
        subst hx
        exact b1.cell 0
      · simp at hx
        subst hx
        exact b1.cell 1
      · simp at hx
    · simp [exT] at hx
  have HD := Lib.hid hd
  have HB2 := Lib.hid hb2
  have HB0 := Lib.hid b0
  rw [← hw2]
  clear hw2 hd hb2 b0 b1 b2
  refine (HYT.out _ _ HD.out).mono ?_
  rintro e w3 ⟨a, rfl, ha, hb3⟩
  have hB0 := HB0.out.below hb3 HB0.out.size
  have c0 := hB0.cell 0
  have c1 := hB0.cell 1
  simp at c0 c1
  have hss : Calls Tryz.prog 36 #[a, .slice (some ⟨w3.heap.size, 0, none⟩) 1 1] (w3.alloc (.cells #[.int .i64 7, .int .i64 7] 33)) fun e w' => e = .returned (.bool true) ∧ Below w3.heap.size w3 w' := by
    have ba : Below w3.heap.size w3 (w3.alloc (.cells #[.int .i64 7, .int .i64 7] 33)) := (Below.refl _ w3).alloc (Nat.le_refl _) _
    have kl := Blok.new w3 33 [.int .i64 7, .int .i64 7]
    have hl : Spans (w3.alloc (.cells #[.int .i64 7, .int .i64 7] 33)) (w3.alloc (.cells #[.int .i64 7, .int .i64 7] 33)).heap.size (.slice (some ⟨w3.heap.size, 0, none⟩) 1 1) [(7, 7)] := ⟨_, _, rfl, fun _ => ⟨w3.heap.size, 0, rfl, kl.size, fun k x hx => by
      rcases k with _ | k
      · simp at hx
        subst hx
        exact ⟨kl.cell 0, kl.cell 1⟩
      · simp at hx⟩⟩
    have ha8 := (spans_of_own ha).keep (Same.of_below ba) ba.size
    refine (sameSpans_any [(7, 7)] [(7, 7)] (by decide) (by decide) _ _ _ _ (Nat.le_refl _) ha8 hl).mono ?_
    rintro e w' ⟨rfl, hb⟩
    exact ⟨ret_bool (by simp), ba.trans (hb.mono ba.size)⟩
  have HSS := Lib.hid hss
  have HB3 := Lib.hid (HB2.out.trans (hb3.mono HB2.out.size))
  clear hss ha hb3 hB0 HYL HYT HD HB2 HB0 HB1
  go_wp2_with (go_at_call 36; refine HSS.out.mono ?_; rintro e wc ⟨rfl, hb⟩; have HBc := Lib.hid hb; clear hb)
  go_ret
  exact ⟨rfl, HB3.out.trans (HBc.out.mono HB3.out.size)⟩
end Go.Proofs.YtmfjfjahemlhkaaGreat
