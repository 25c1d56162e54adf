/- The reference's Marks. · The reference's Years. · The reference's Rest. · The reference's Look. · Sight's functions where there is an error. -/
import Derived.Test.YthhajbgddifenaaRy
import Derived.Test.YthhajbgddifenaaJ
import Derived.Test.YthhajbgddifenaaYr
import Derived.Test.YthhajbgddifenaaRc
namespace Go.Proofs.Ythhajbgddifenaa
section
open Go.RowKit Go.Shelf

theorem refMarks_succ (L : Line) (k : Nat) (hk : k < L.hands.length) : refMarks L (k + 1) = min (refMarks L k) (upSum (cutterOf L (L.hands[k]).shapes) L.squares.length) := by
  unfold refMarks
  rw [List.take_succ_eq_append_getElem hk, List.map_append]
  exact leastOf_snoc _ _ _
theorem refMarks_le (L : Line) (k : Nat) : refMarks L k ≤ 1000 := leastOf_le _ _
set_option maxRecDepth 100000 in
set_option maxHeartbeats 1000000 in
theorem rMarks_err (v : Value) (L : RLine) (w : World) (hv : RLineAt w w.heap.size v L) (he : lineErr L ≠ 0) :
    Calls Try.prog 33 #[v] w fun e w' => e = .returned (.tuple #[.int .i64 0, .int .i64 (lineErr L)]) ∧ Below w.heap.size w w' := by
  have HCK := Lib.hid (fun (W : World) (hW : Below w.heap.size w W) => fcheck_any v L W (hv.keep (SameA.of_below hW) hW.size))
  obtain ⟨vh, vs, rfl, hh, hq⟩ := hv
  obtain ⟨AH, ch, rfl, -⟩ := RSl.form hh
  obtain ⟨AQ, cq, rfl, -⟩ := RSl.form hq
  obtain ⟨er, her⟩ : ∃ er, er = lineErr L := ⟨_, rfl⟩
  rw [← her] at he HCK ⊢
  have t0 : (er == 0) = false := by rw [beq_eq_false_iff_ne]; exact he
  have t1 : (er != 0) = true := by rw [bne_iff_ne]; exact he
  clear hh hq her he
  go_enter Try.func33, Try.ntmps33
  go_wp2_with (go_at_call 26; refine (HCK.out _ ((Below.refl _ _).alloc (Nat.le_refl _) _)).mono ?_; rintro e w5 ⟨rfl, hb5⟩)
  have HB := Lib.hid (((Below.refl w.heap.size w).alloc (Nat.le_refl _) (.cells #[.slice AH L.hands.length ch, .int .i64 L.worn, .int .i64 L.scr, .int .i64 L.total, .slice AQ L.squares.length cq] 25)).trans (hb5.mono (by simp)))
  go_ret2
  exact ⟨rfl, HB.out⟩
set_option maxRecDepth 100000 in
set_option maxHeartbeats 2000000 in
theorem rMarks_ok (v : Value) (L : Line) (w : World) (hL : L.ok) (hv : RLineAt w w.heap.size v L.raw) :
    Calls Try.prog 33 #[v] w (MarksPost L w) := by
  have HV := Lib.hid hv
  have HCK0 := Lib.hid (fun (W : World) (hW : Below w.heap.size w W) => show Calls Try.prog 26 #[v] W (fun e w' => e = .returned (.int .i64 0) ∧ Below W.heap.size W w') by
    have h := fcheck_any v L.raw W (hv.keep (SameA.of_below hW) hW.size)
    rw [line_raw hL] at h
    exact h)
  have HMR := Lib.hid (marks_ref hL)
  have HRS := Lib.hid (refMarks_succ L)
  have HL := Lib.hid hL
  obtain ⟨vh, vs, rfl, hh, hq⟩ := hv
  obtain ⟨AH, ch, rfl, -⟩ := RSl.form hh
  obtain ⟨AQ, cq, rfl, -⟩ := RSl.form hq
  have hh4 : L.hands.length ≤ 4 := hL.2.1
  have hT : L.total ≤ 40 := hL.2.2.2.2.2.1
  have hl1 : L.raw.hands.length = L.hands.length := by simp [Line.raw]
  rw [hl1] at HV hh HCK0 ⊢
  have HAT := Lib.hid (fun (k : Nat) (hk : k < L.hands.length) => rhand_at hh hk)
  obtain ⟨n, hn0⟩ : ∃ n, n = L.hands.length := ⟨_, rfl⟩
  have HN := Lib.hid hn0
  obtain ⟨wn, hwn⟩ : ∃ wn, wn = L.raw.worn := ⟨_, rfl⟩
  obtain ⟨sc, hsc⟩ : ∃ sc, sc = L.raw.scr := ⟨_, rfl⟩
  obtain ⟨m, hm⟩ : ∃ m, m = L.raw.squares.length := ⟨_, rfl⟩
  obtain ⟨T, hTe⟩ : ∃ T, T = L.total := ⟨_, rfl⟩
  have ht0 : L.raw.total = (T : Int) := by rw [hTe]; rfl
  have HMK := Lib.hid (fun (W : World) (hW : Below w.heap.size w W) (k : Nat) (hk : k < L.hands.length) (As : Option Addr) (cs : Nat) (hs : RShapes w w.heap.size (.slice As (L.hands[k]).shapes.length cs) ((L.hands[k]).shapes.map Shape.raw)) =>
    show Calls Try.prog 69 #[.agg #[.slice AH n ch, .int .i64 wn, .int .i64 sc, .int .i64 T, .slice AQ m cq], .agg #[.int .i64 (L.hands[k]).low, .int .i64 (L.hands[k]).high, .slice As (L.hands[k]).shapes.length cs], .slice none 0 0] W (MarksRPost (cutterOf L (L.hands[k]).shapes) L.squares.length [] W) by
      have h := marks_refc _ L W HL.out (HV.out.keep (SameA.of_below hW) hW.size) (L.hands[k]) (List.getElem_mem hk) _ (hs.keep (SameA.of_below hW) hW.size) [] _ (RNeeds.nil W _) List.Pairwise.nil (by simp) (by simp)
      rw [ht0, ← hwn, ← hsc, ← hm] at h
      rw [hn0]
      exact h)
  rw [ht0, ← hwn, ← hsc, ← hm, ← hn0] at HCK0
  rw [ht0, ← hwn, ← hsc, ← hm, ← hn0]
  rw [← hn0] at hh4
  rw [← hTe] at hT
  have HTE := Lib.hid hTe
  clear hL HV hh hq hwn hsc hm hn0 hTe ht0 hl1
  go_enter Try.func33, Try.ntmps33
  go_wp2_with fail
  refine (HCK0.out _ ((Below.refl _ _).alloc (Nat.le_refl _) _)).mono ?_
  rintro e W0 ⟨rfl, hb5⟩
  have HB0 := Lib.hid ((BoxL.start w [.slice AH n ch, .int .i64 wn, .int .i64 sc, .int .i64 T, .slice AQ m cq]).below hb5)
  clear hb5
  go_wp2_with fail
  go_loopw [5, 6] (fun so si wr => ∃ i : Nat, i ≤ n ∧ si = .int .i64 i ∧ so = .int .i64 (refMarks L i) ∧ Hid (BoxL w wr [.slice AH n ch, .int .i64 wn, .int .i64 sc, .int .i64 T, .slice AQ m cq])) (fun _ si _ => n - (intOf si).toNat)
  case atStart => exact ⟨0, by omega, rfl, rfl, HB0⟩
  case round =>
    clear HB0
    obtain ⟨i, hi, rfl, rfl, HI⟩ := hrel
    have z1 := HI.out.one.size
    have a0 : wr.cell? ⟨w.heap.size, 0, none⟩ = some (.slice AH n ch) := HI.out.one.cell 0
    have hrl := refMarks_le L i
    by_cases hin : i < n
    · have a1 : wr.cell? ⟨w.heap.size, 1, none⟩ = some (.int .i64 wn) := HI.out.one.cell 1
      have a2 : wr.cell? ⟨w.heap.size, 2, none⟩ = some (.int .i64 sc) := HI.out.one.cell 2
      have a3 : wr.cell? ⟨w.heap.size, 3, none⟩ = some (.int .i64 T) := HI.out.one.cell 3
      have a4 : wr.cell? ⟨w.heap.size, 4, none⟩ = some (.slice AQ m cq) := HI.out.one.cell 4
      have hiH : i < L.hands.length := by rw [← HN.out]; exact hin
      obtain ⟨x, As, cs, hA, hxb, d1, d2, d3, hs⟩ := HAT.out i hiH
      subst hA
      have d1 := (HI.out.bel.cell (p := x.add (i * 3)) (by rw [Addr.add_block]; exact hxb)).trans d1
      have d2 := (HI.out.bel.cell (p := x.add (i * 3 + 1)) (by rw [Addr.add_block]; exact hxb)).trans d2
      have d3 := (HI.out.bel.cell (p := x.add (i * 3 + 2)) (by rw [Addr.add_block]; exact hxb)).trans d3
      rw [← Addr.nth x (i * 3) 0] at d2
      rw [← Addr.nth x (i * 3) 1] at d3
      have hxb2 : (x.add (i * 3)).block < wr.heap.size := by rw [Addr.add_block]; omega
      have HC := Lib.hid (HMK.out wr.drew HI.out.bel.drew i hiH As cs hs)
      have HSU := Lib.hid (HRS.out i hiH)
      obtain ⟨u, hu⟩ : ∃ u, u = upSum (cutterOf L (L.hands[i]).shapes) L.squares.length := ⟨_, rfl⟩
      rw [← hu] at HSU
      obtain ⟨f, hf⟩ : ∃ f, f = refMarks L i := ⟨_, rfl⟩
      rw [← hf] at HSU hrl ⊢
      have HU := Lib.hid hu
      clear hu hf
      obtain ⟨lo, hlo⟩ : ∃ lo, lo = (L.hands[i]).low := ⟨_, rfl⟩
      obtain ⟨hg, hhi⟩ : ∃ hg, hg = (L.hands[i]).high := ⟨_, rfl⟩
      obtain ⟨nsh, hns⟩ : ∃ nsh, nsh = (L.hands[i]).shapes.length := ⟨_, rfl⟩
      rw [← hlo] at d1 HC
      rw [← hhi] at d2 HC
      rw [← hns] at d3 HC
      have k0 : (0 : Int) ≤ (i : Int) := by omega
      have k1 : (i : Int) < (n : Int) := by omega
      clear hlo hhi hns hs
      go_wp2_with fail
      go_region_held3 (fun w' => w'.cell? ⟨w.heap.size, 0, none⟩ = some (.slice (some x) n ch) ∧ w'.cell? ⟨w.heap.size, 1, none⟩ = some (.int .i64 wn) ∧ w'.cell? ⟨w.heap.size, 2, none⟩ = some (.int .i64 sc) ∧ w'.cell? ⟨w.heap.size, 3, none⟩ = some (.int .i64 T) ∧ w'.cell? ⟨w.heap.size, 4, none⟩ = some (.slice AQ m cq) ∧ w'.cell? (x.add (i * 3)) = some (.int .i64 lo) ∧ w'.cell? ⟨(x.add (i * 3)).block, (x.add (i * 3)).off + (0 + 1), none⟩ = some (.int .i64 hg) ∧ w'.cell? ⟨(x.add (i * 3)).block, (x.add (i * 3)).off + (1 + 1), none⟩ = some (.slice As nsh cs))
        (first
          | exact ⟨a0, a1, a2, a3, a4, d1, d2, d3⟩
          | exact ⟨bcell hb5 z1 a0, bcell hb5 z1 a1, bcell hb5 z1 a2, bcell hb5 z1 a3, bcell hb5 z1 a4, (hb5.cell (p := x.add (i * 3)) hxb2).trans d1, (hb5.cell (p := ⟨(x.add (i * 3)).block, (x.add (i * 3)).off + (0 + 1), none⟩) hxb2).trans d2, (hb5.cell (p := ⟨(x.add (i * 3)).block, (x.add (i * 3)).off + (1 + 1), none⟩) hxb2).trans d3⟩)
        (first
          | (go_at_call 69; refine HC.out.mono ?_; rintro e w5 ⟨r, hr, rfl, hb5⟩; have HR := Lib.hid hr; have hr8 : r ≤ 8000 := hr.1; clear hr))
      have HI5 := Lib.hid ((HI.out.drewN 1).below hb5)
      have hru : r = u := by rw [HU.out]; exact HR.out.2.2 rfl
      subst hru
      clear a0 a1 a2 a3 a4 d1 d2 d3 hb5 HC
      by_cases hlt : r < f
      · have HV2 := Lib.hid (show refMarks L (i + 1) = r by rw [HSU.out]; omega)
        go_wp2_with fail
        exact ⟨⟨i + 1, by omega, by go_num, by rw [HV2.out]; simp; omega, HI5⟩, by simp [intOf]; omega⟩
      · have HV2 := Lib.hid (show refMarks L (i + 1) = f by rw [HSU.out]; omega)
        go_wp2_with fail
        exact ⟨⟨i + 1, by omega, by go_num, by rw [HV2.out]; simp; omega, HI5⟩, by simp [intOf]; omega⟩
    · obtain rfl : i = n := by omega
      have hmr := HMR.out
      rw [← HN.out] at hmr
      rcases hmr with ⟨h1, h2⟩ | ⟨h1, h2⟩
      · have H1 := Lib.hid h1
        rw [h2]
        clear h1 h2 hrl
        go_wp2_with fail
        go_ret2
        exact ⟨HI.out.bel, .inl ⟨H1.out, rfl⟩⟩
      · rw [h2]
        have H1 := Lib.hid (show marksOf L ≠ 81 by omega)
        obtain ⟨k, hk⟩ : ∃ k, k = marksOf L := ⟨_, rfl⟩
        rw [← hk] at h1 ⊢
        have HK := Lib.hid hk
        clear hk h2 hrl
        go_wp2_with fail
        go_ret2
        exact ⟨HI.out.bel, .inr ⟨H1.out, by rw [← HK.out]; rfl⟩⟩
end
section
open Go.RowKit Go.Shelf

/-- The box of a line, and the cell of a span. -/
structure BoxS (w wr : World) (lc sc : List Value) : Prop where
  one : Blok wr w.heap.size 25 lc
  two : Blok wr (w.heap.size + 1) 48 sc
  bel : Below w.heap.size w wr
theorem BoxS.below {w wr w' : World} {a b : List Value} (h : BoxS w wr a b) (hb : Below wr.heap.size wr w') : BoxS w w' a b :=
  ⟨h.one.below hb h.one.size, h.two.below hb h.two.size, h.bel.trans (hb.mono h.bel.size)⟩
theorem BoxS.start (w : World) (a b : List Value) : BoxS w ((w.alloc (.cells a.toArray 25)).alloc (.cells b.toArray 48)) a b := by
  have b2 := Blok.new (w.alloc (.cells a.toArray 25)) 48 b
  rw [World.size_alloc] at b2
  exact ⟨(Blok.new w 25 a).alloc _, b2, ((Below.refl _ _).alloc (Nat.le_refl _) _).alloc (by simp) _⟩
theorem rHands_none (v : Value) (L : Line) (w : World) (hL : L.ok) (hv : RLineAt w w.heap.size v L.raw) (h : handsOf L = []) :
    Calls Try.prog 20 #[v] w fun e w' => e = .returned (.tuple #[.slice none 0 0, .int .i64 9]) ∧ Below w.heap.size w w' :=
  (rHands_ok v L w hL hv).mono fun e w' hp => by
    rcases hp with ⟨hb, ⟨_, rfl⟩ | ⟨h', _⟩⟩
    · exact ⟨rfl, hb⟩
    · exact absurd h h'
set_option maxRecDepth 100000 in
set_option maxHeartbeats 1000000 in
theorem rYears_no (v : Value) (vh vs : Value) (a b c er : Int) (w : World) (hv : v = .agg #[vh, .int .i64 a, .int .i64 b, .int .i64 c, vs]) (hf : (∃ A n k, vh = .slice A n k) ∧ ∃ A n k, vs = .slice A n k) (he : er ≠ 0)
    (hc : ∀ W, Below w.heap.size w W → Calls Try.prog 20 #[v] W fun e w' => e = .returned (.tuple #[.slice none 0 0, .int .i64 er]) ∧ Below W.heap.size W w') :
    Calls Try.prog 24 #[v] w fun e w' => e = .returned (.tuple #[.agg #[.int .i64 0, .int .i64 0], .int .i64 er]) ∧ Below w.heap.size w w' := by
  subst hv
  obtain ⟨⟨AH, nh, ch, rfl⟩, AQ, m, cq, rfl⟩ := hf
  have HC := Lib.hid hc
  have t0 : (er == 0) = false := by rw [beq_eq_false_iff_ne]; exact he
  have t1 : (er != 0) = true := by rw [bne_iff_ne]; exact he
  clear hc he
  go_enter Try.func24, Try.ntmps24
  go_wp2_with fail
  refine (HC.out _ (((Below.refl _ _).alloc (Nat.le_refl _) _).alloc (by simp) _)).mono ?_
  rintro e w5 ⟨rfl, hb5⟩
  have HI := Lib.hid ((BoxS.start w [.slice AH nh ch, .int .i64 a, .int .i64 b, .int .i64 c, .slice AQ m cq] [.int .i64 0, .int .i64 0]).below hb5)
  clear hb5
  have r0 : w5.cell? ⟨w.heap.size + 1, 0, none⟩ = some (.int .i64 0) := HI.out.two.cell 0
  have r1 : w5.cell? ⟨w.heap.size + 1, 1, none⟩ = some (.int .i64 0) := HI.out.two.cell 1
  have f0 := HI.out.two.free 0
  have f1 := HI.out.two.free 1
  have HEND := Lib.hid ((HI.out.two.put 0 (.int .i64 0)).put 1 (.int .i64 0))
  have HBEL := Lib.hid ((HI.out.bel.setCell (p := ⟨w.heap.size + 1, 0, none⟩) (Nat.le_succ _) (.int .i64 0)).setCell (p := ⟨w.heap.size + 1, 1, none⟩) (Nat.le_succ _) (.int .i64 0))
  go_wp2_with fail
  refine bodyPost_ret (v := .tuple #[.agg #[.int .i64 0, .int .i64 0], .int .i64 er]) ?_ rfl ⟨rfl, HBEL.out⟩
  exact results_cell_tmp Try.results24 _ _ (w.heap.size + 1) 48 _ _ rfl HEND.out Try.underlying48 rfl (by kernel_rfl)
theorem yearsOf_at {L : Line} {h0 : Nat} {hs : List Nat} (hh : handsOf L = h0 :: hs) : yearsOf L = (lowTo L (lowOf L h0) (handsOf L), highTo L (highOf L h0) (handsOf L)) := by
  unfold yearsOf
  rw [hh]
  simp only [lowTo, highTo, List.foldl_cons, Int.min_self, Int.max_self]
/-- The span as far as it goes. -/
def ySpan (L : Line) (h0 k : Nat) : List Value := [.int .i64 (lowTo L (lowOf L h0) ((handsOf L).take k)), .int .i64 (highTo L (highOf L h0) ((handsOf L).take k))]
structure YearI (w w1 wr : World) (lc : List Value) (sp : List Value) : Prop where
  box : BoxS w w1 lc [.int .i64 0, .int .i64 0]
  one : Blok wr w1.heap.size 48 sp
  bel : Below w1.heap.size w1 wr
set_option maxRecDepth 100000 in
set_option maxHeartbeats 2000000 in
theorem rYears_ok (v : Value) (L : Line) (w : World) (hL : L.ok) (hv : RLineAt w w.heap.size v L.raw) (hz : handsOf L ≠ []) :
    Calls Try.prog 24 #[v] w (YearsPost L w) := by
  have HCK := Lib.hid (fun (W : World) (hW : Below w.heap.size w W) => rHands_ok v L W hL (hv.keep (SameA.of_below hW) hW.size))
  have hn4 : (handsOf L).length ≤ 4 := by
    have h1 := fitsTo_len (cuttersOf L) L.squares.length L.total (cuttersOf L).length
    have h2 : (handsOf L).length ≤ (cuttersOf L).length := by unfold handsOf fits; simpa using h1
    have h3 : (cuttersOf L).length ≤ 4 := by simp [cuttersOf]; exact hL.2.1
    omega
  obtain ⟨vh, vs, rfl, hh, hq⟩ := hv
  obtain ⟨AH, ch, rfl, -⟩ := RSl.form hh
  obtain ⟨AQ, cq, rfl, -⟩ := RSl.form hq
  have hl1 : L.raw.hands.length = L.hands.length := by simp [Line.raw]
  rw [hl1] at HCK hh ⊢
  obtain ⟨h0, hs, hcons⟩ : ∃ h0 hs, handsOf L = h0 :: hs := by
    cases h : handsOf L with
    | nil => exact absurd h hz
    | cons a b => exact ⟨a, b, rfl⟩
  have HHL := Lib.hid (fun (h : Nat) (hm : h ∈ handsOf L) => mem_hands_lt hm)
  have HAT := Lib.hid (fun (k : Nat) (hk : k < L.hands.length) => rhand_at hh hk)
  have HYO := Lib.hid (yearsOf_at hcons)
  have HZ := Lib.hid hz
  have HH0 := Lib.hid (show (handsOf L)[0]? = some h0 by rw [hcons]; rfl)
  obtain ⟨n, hn0⟩ : ∃ n, n = L.hands.length := ⟨_, rfl⟩
  have HN := Lib.hid hn0
  obtain ⟨wn, hwn⟩ : ∃ wn, wn = L.raw.worn := ⟨_, rfl⟩
  obtain ⟨sc, hsc⟩ : ∃ sc, sc = L.raw.scr := ⟨_, rfl⟩
  obtain ⟨m, hm⟩ : ∃ m, m = L.raw.squares.length := ⟨_, rfl⟩
  obtain ⟨T, hTe⟩ : ∃ T, T = L.raw.total := ⟨_, rfl⟩
  rw [← hwn, ← hsc, ← hm, ← hTe, ← hn0] at HCK
  rw [← hwn, ← hsc, ← hm, ← hTe, ← hn0]
  have hnz : 0 < (handsOf L).length := List.length_pos_iff.2 hz
  obtain ⟨nf, hnf⟩ : ∃ nf, nf = (handsOf L).length := ⟨_, rfl⟩
  rw [← hnf] at hnz hn4
  have HNF := Lib.hid hnf
  clear hL hh hq hwn hsc hm hn0 hTe hl1 hz hcons hnf
  go_enter Try.func24, Try.ntmps24
  go_wp2_with fail
  refine (HCK.out _ (((Below.refl _ _).alloc (Nat.le_refl _) _).alloc (by simp) _)).mono ?_
  rintro e w1 ⟨hb1, ⟨he, -⟩ | ⟨-, u, rfl, hi, -⟩⟩
  · exact absurd he HZ.out
  obtain ⟨Ai, ci, rfl, hIA⟩ := hi
  rw [← HNF.out] at hIA ⊢
  obtain ⟨bi, oi, rfl, hbi, hic⟩ := hIA hnz
  have HIC := Lib.hid hic
  have HI := Lib.hid ((BoxS.start w [.slice AH n ch, .int .i64 wn, .int .i64 sc, .int .i64 T, .slice AQ m cq] [.int .i64 0, .int .i64 0]).below hb1)
  clear hic hIA hb1
  have z1 := HI.out.one.size
  have l0 : w1.cell? ⟨w.heap.size, 0, none⟩ = some (.slice AH n ch) := HI.out.one.cell 0
  have i0 : w1.cell? ⟨bi, oi, none⟩ = some (.int .i64 h0) := HIC.out 0 h0 HH0.out
  have hlt0 : h0 < L.hands.length := HHL.out h0 (List.mem_of_getElem? HH0.out)
  obtain ⟨x, As, cs, hA, hxb, d10, d20, -, -⟩ := HAT.out h0 hlt0
  subst hA
  have d1 := (HI.out.bel.cell (p := x.add (h0 * 3)) (by rw [Addr.add_block]; exact hxb)).trans d10
  have d2 := (HI.out.bel.cell (p := x.add (h0 * 3 + 1)) (by rw [Addr.add_block]; exact hxb)).trans d20
  rw [← Addr.nth x (h0 * 3) 0] at d2
  have hg0 : (L.hands[h0]).low = lowOf L h0 := by simp [lowOf, List.getD, hlt0]
  have hg1 : (L.hands[h0]).high = highOf L h0 := by simp [highOf, List.getD, hlt0]
  rw [hg0] at d1
  rw [hg1] at d2
  have HY0 := Lib.hid (show ySpan L h0 0 = [.int .i64 (lowOf L h0), .int .i64 (highOf L h0)] from rfl)
  have hh1 : h0 < n := by rw [HN.out]; exact hlt0
  have k0 : (0 : Int) ≤ (h0 : Int) := by omega
  have k1 : (h0 : Int) < (n : Int) := by omega
  have hxb1 : (x.add (h0 * 3)).block < w1.heap.size := by rw [Addr.add_block]; omega
  obtain ⟨lo, hlo⟩ : ∃ lo, lo = lowOf L h0 := ⟨_, rfl⟩
  obtain ⟨hg, hhg⟩ : ∃ hg, hg = highOf L h0 := ⟨_, rfl⟩
  rw [← hlo] at d1 HY0
  rw [← hhg] at d2 HY0
  clear d10 d20 hg0 hg1 hlt0 hlo hhg
  go_wp2
  go_region
  all_goals
    have HY := Lib.hid (show YearI w w1 (w1.alloc (.cells #[.int .i64 lo, .int .i64 hg] 48)).drew [.slice (some x) n ch, .int .i64 wn, .int .i64 sc, .int .i64 T, .slice AQ m cq] (ySpan L h0 0) from ⟨HI.out, by rw [HY0.out]; exact Blok.drew1 (Blok.new w1 48 [.int .i64 lo, .int .i64 hg]), ((Below.refl _ _).alloc (Nat.le_refl _) _).drew⟩)
    clear l0 i0 d1 d2 HY0 hxb1
    go_wp2
    go_loopw [7] (fun si wr => ∃ k : Nat, k ≤ nf ∧ si = .int .i64 k ∧ Hid (YearI w w1 wr [.slice (some x) n ch, .int .i64 wn, .int .i64 sc, .int .i64 T, .slice AQ m cq] (ySpan L h0 k))) (fun si _ => nf - (intOf si).toNat)
    case atStart => exact ⟨0, by omega, rfl, HY⟩
    case round =>
      clear HY
      obtain ⟨k, hk, rfl, HK⟩ := hrel
      by_cases hkn : k < nf
      · have hkH : k < (handsOf L).length := by rw [← HNF.out]; exact hkn
        obtain ⟨h, hhe⟩ : ∃ h, h = (handsOf L)[k] := ⟨_, rfl⟩
        have hhk : (handsOf L)[k]? = some h := by rw [hhe]; exact List.getElem?_eq_getElem hkH
        have hhm : h < L.hands.length := HHL.out h (List.mem_of_getElem? hhk)
        obtain ⟨x2, As2, cs2, hA2, -, d10, d20, -, -⟩ := HAT.out h hhm
        injection hA2 with hA2
        subst hA2
        have bel0 : Below w.heap.size w wr := HI.out.bel.trans (HK.out.bel.mono HI.out.bel.size)
        have d1 := (bel0.cell (p := x.add (h * 3)) (by rw [Addr.add_block]; exact hxb)).trans d10
        have d2 := (bel0.cell (p := x.add (h * 3 + 1)) (by rw [Addr.add_block]; exact hxb)).trans d20
        rw [← Addr.nth x (h * 3) 0] at d2
        have l0 := bcell HK.out.bel (show w.heap.size < w1.heap.size from z1) (show w1.cell? ⟨w.heap.size, 0, none⟩ = some (.slice (some x) n ch) from HI.out.one.cell 0)
        have i1 := bcell HK.out.bel hbi (HIC.out k h hhk)
        have HYS := Lib.hid (show ySpan L h0 (k + 1) = [.int .i64 (min (lowTo L (lowOf L h0) ((handsOf L).take k)) (L.hands[h]).low), .int .i64 (max (highTo L (highOf L h0) ((handsOf L).take k)) (L.hands[h]).high)] by
          have e : (handsOf L).take (k + 1) = (handsOf L).take k ++ [h] := by rw [List.take_succ_eq_append_getElem hkH, ← hhe]
          have e1 : lowOf L h = (L.hands[h]).low := by simp [lowOf, List.getD, hhm]
          have e2 : highOf L h = (L.hands[h]).high := by simp [highOf, List.getD, hhm]
          unfold ySpan
          rw [e, lowTo_snoc, highTo_snoc, e1, e2])
        have hy1 := HK.out.one
        unfold ySpan at hy1
        obtain ⟨lo, hlo⟩ : ∃ lo, lo = lowTo L (lowOf L h0) ((handsOf L).take k) := ⟨_, rfl⟩
        obtain ⟨hg, hhg⟩ : ∃ hg, hg = highTo L (highOf L h0) ((handsOf L).take k) := ⟨_, rfl⟩
        obtain ⟨yl, hyl⟩ : ∃ yl, yl = (L.hands[h]).low := ⟨_, rfl⟩
        obtain ⟨yh, hyh⟩ : ∃ yh, yh = (L.hands[h]).high := ⟨_, rfl⟩
        rw [← hlo] at hy1 HYS
        rw [← hhg] at hy1 HYS
        rw [← hyl] at d1 HYS
        rw [← hyh] at d2 HYS
        have hh2 : h < n := by rw [HN.out]; exact hhm
        have h3 : (0 : Int) ≤ (h : Int) := by omega
        have h4 : (h : Int) < (n : Int) := by omega
        have h5 : (0 : Int) ≤ (k : Int) := by omega
        have h6 : (k : Int) < (nf : Int) := by omega
        have z2 := hy1.size
        have HY1 := Lib.hid hy1
        have zz : w1.heap.size ≤ wr.heap.size := HK.out.bel.size
        have hbi2 : bi < wr.heap.size := by omega
        have hww2 : w.heap.size < wr.heap.size := by omega
        have hxb2 : (x.add (h * 3)).block < wr.heap.size := by rw [Addr.add_block]; omega
        clear d10 d20 hlo hhg hyl hyh hhk hhe bel0 hy1
        go_wp2_with fail
        go_region
        all_goals
          have hy8 := Blok.drew1 (HY1.out.alloc (.cells #[.int .i64 yl, .int .i64 yh] 48))
          have hn8 := Blok.drew1 (Blok.new wr 48 [.int .i64 yl, .int .i64 yh])
          have hb8 := (HK.out.bel.alloc (by omega) (.cells #[.int .i64 yl, .int .i64 yh] 48)).drew
          clear l0 i1 d1 d2
          generalize (wr.alloc (.cells #[.int .i64 yl, .int .i64 yh] 48)).drew = W8 at hy8 hn8 hb8 ⊢
          have y0 : W8.cell? ⟨w1.heap.size, 0, none⟩ = some (.int .i64 lo) := hy8.cell 0
          have y1 : W8.cell? ⟨w1.heap.size, 1, none⟩ = some (.int .i64 hg) := hy8.cell 1
          have f0 := hy8.free 0
          have f1 := hy8.free 1
          have n0 : W8.cell? ⟨wr.heap.size, 0, none⟩ = some (.int .i64 yl) := hn8.cell 0
          have n1 : W8.cell? ⟨wr.heap.size, 1, none⟩ = some (.int .i64 yh) := hn8.cell 1
          have z8 := hy8.size
          have HY8 := Lib.hid hy8
          have HB8 := Lib.hid hb8
          clear hy8 hn8 hb8
          by_cases c1 : yl < lo
          all_goals
            by_cases c2 : hg < yh
            all_goals
              go_wp2_with fail
              refine ⟨⟨k + 1, by omega, by go_num, Lib.hid ⟨HI.out, ?_, (HB8.out.setCell (p := ⟨w1.heap.size, 0, none⟩) (Nat.le_refl _) _).setCell (p := ⟨w1.heap.size, 1, none⟩) (Nat.le_refl _) _⟩⟩, by simp [intOf]; omega⟩
              rw [HYS.out]
              rw [show min lo yl = (if yl < lo then yl else lo) by split <;> omega, show max hg yh = (if hg < yh then yh else hg) by split <;> omega]
              simp only [c1, c2, if_true, if_false]
              exact (HY8.out.put 0 _).put 1 _
      · obtain rfl : k = nf := by omega
        have hy1 := HK.out.one
        unfold ySpan at hy1
        rw [show (handsOf L).take k = handsOf L from List.take_of_length_le (by rw [HNF.out]; exact Nat.le_refl _)] at hy1
        obtain ⟨lo, hlo⟩ : ∃ lo, lo = lowTo L (lowOf L h0) (handsOf L) := ⟨_, rfl⟩
        obtain ⟨hg, hhg⟩ : ∃ hg, hg = highTo L (highOf L h0) (handsOf L) := ⟨_, rfl⟩
        have hyo := HYO.out
        rw [← hlo, ← hhg] at hy1 hyo
        have y0 : wr.cell? ⟨w1.heap.size, 0, none⟩ = some (.int .i64 lo) := hy1.cell 0
        have y1 : wr.cell? ⟨w1.heap.size, 1, none⟩ = some (.int .i64 hg) := hy1.cell 1
        have hby := HI.out.two.below HK.out.bel HI.out.two.size
        have r0 : wr.cell? ⟨w.heap.size + 1, 0, none⟩ = some (.int .i64 0) := hby.cell 0
        have r1 : wr.cell? ⟨w.heap.size + 1, 1, none⟩ = some (.int .i64 0) := hby.cell 1
        have f0 := hby.free 0
        have f1 := hby.free 1
        have HEND := Lib.hid ((hby.put 0 (.int .i64 lo)).put 1 (.int .i64 hg))
        have HBEL := Lib.hid (((HI.out.bel.trans (HK.out.bel.mono HI.out.bel.size)).setCell (p := ⟨w.heap.size + 1, 0, none⟩) (Nat.le_succ _) (.int .i64 lo)).setCell (p := ⟨w.heap.size + 1, 1, none⟩) (Nat.le_succ _) (.int .i64 hg))
        have HYO2 := Lib.hid hyo
        clear hy1 hby hlo hhg hyo
        go_wp2_with fail
        refine bodyPost_ret (v := .tuple #[.agg #[.int .i64 lo, .int .i64 hg], .int .i64 0]) ?_ rfl ⟨by rw [HYO2.out], HBEL.out⟩
        exact results_cell_tmp Try.results24 _ _ (w.heap.size + 1) 48 _ _ rfl HEND.out Try.underlying48 rfl (by kernel_rfl)
end
section
open Go.RowKit Go.Shelf

theorem rtext_len {L : Line} (hL : L.ok) {p q c : Nat} (hq : q < L.squares.length) : (rtext L [(p, c)] q 26).size = setSize ((cuttersOf L).map (knownC p c)) L.squares.length L.total q := by
  rw [rtext_one hL hq, orderText_size]
  rfl
theorem needs_one {w : World} (sq c : Nat) : RNeeds (w.alloc (.cells #[.int .i64 sq, .int .u8 c] 131)) (w.heap.size + 1) (.slice (some ⟨w.heap.size, 0, none⟩) 1 1) [(sq, c)] := by
  refine .inr ⟨_, 1, rfl, fun _ => ⟨Nat.lt_succ_self _, fun k y hy => ?_⟩⟩
  have hb := Blok.new w 131 [.int .i64 sq, .int .u8 c]
  cases k with
  | zero =>
    simp at hy
    subst hy
    rw [addr0, addr0]
    exact ⟨hb.cell 0, hb.cell 1⟩
  | succ k => simp at hy
set_option maxRecDepth 100000 in
set_option maxHeartbeats 4000000 in
theorem rest_refc (v : Value) (L : Line) (w : World) (hL : L.ok) (hv : RLineAt w w.heap.size v L.raw) (sq : Nat) (hsq : sq < L.squares.length) :
    Calls Try.prog 71 #[v, .int .i64 sq] w fun e w' => e = .returned (.int .i64 (restL L sq)) ∧ Below w.heap.size w w' := by
  have HLT := Lib.hid (fun (W : World) (hW : Below w.heap.size w W) => show Calls Try.prog 59 #[v, .int .i64 sq, .slice none 0 0] W (fun e w' => e = .returned (.string (orderText (allLetters L sq))) ∧ Below W.heap.size W w') by
    have h := letters_refc v L W hL (hv.keep (SameA.of_below hW) hW.size) [] _ (RNeeds.nil W _) List.Pairwise.nil (by simp) (by simp) sq hsq (by simp)
    rw [rtext_none hL hsq] at h
    exact h)
  have HL1 := Lib.hid (fun (W : World) (hW : Below w.heap.size w W) (q c : Nat) (hq : q < L.squares.length) (hne : q ≠ sq) => show Calls Try.prog 59 #[v, .int .i64 q, .slice (some ⟨W.heap.size, 0, none⟩) 1 1] (W.alloc (.cells #[.int .i64 sq, .int .u8 c] 131)) (fun e w' => e = .returned (.string (rtext L [(sq, c)] q 26)) ∧ Below (W.heap.size + 1) (W.alloc (.cells #[.int .i64 sq, .int .u8 c] 131)) w') by
    have hW2 := hW.alloc hW.size (.cells #[.int .i64 sq, .int .u8 c] 131)
    have h := letters_refc v L _ hL (hv.keep (SameA.of_below hW2) hW2.size) [(sq, c)] _ (by rw [World.size_alloc]; exact needs_one sq c) (List.pairwise_singleton _ _) (by simp) (by intro x hx; rw [List.mem_singleton] at hx; subst hx; exact hsq) q hq (by intro x hx; rw [List.mem_singleton] at hx; subst hx; exact fun e => hne e.symm)
    rw [World.size_alloc] at h
    exact h)
  have HSZ := Lib.hid (fun (q c : Nat) (hq : q < L.squares.length) => rtext_len hL (p := sq) (c := c) hq)
  have hm8 : L.squares.length ≤ 8 := hL.2.2.2.2.2.2.2.1
  have HRL := Lib.hid (show restL L sq = restOf (cuttersOf L) L.squares.length L.total sq (orderText (allLetters L sq)).data.toList from rfl)
  have hs256 := orderText_le (allLetters L sq)
  obtain ⟨vh, vs, rfl, hh, hq⟩ := hv
  obtain ⟨AH, ch, rfl, -⟩ := RSl.form hh
  obtain ⟨AQ, cq, rfl, -⟩ := RSl.form hq
  have hl2 : L.raw.squares.length = L.squares.length := by simp [Line.raw]
  rw [hl2] at HLT HL1 ⊢
  obtain ⟨nh, hnh⟩ : ∃ nh, nh = L.raw.hands.length := ⟨_, rfl⟩
  obtain ⟨m, hm⟩ : ∃ m, m = L.squares.length := ⟨_, rfl⟩
  obtain ⟨wn, hwn⟩ : ∃ wn, wn = L.raw.worn := ⟨_, rfl⟩
  obtain ⟨sc, hsc⟩ : ∃ sc, sc = L.raw.scr := ⟨_, rfl⟩
  obtain ⟨tt, htt⟩ : ∃ tt, tt = L.raw.total := ⟨_, rfl⟩
  obtain ⟨s, hs⟩ : ∃ s, s = orderText (allLetters L sq) := ⟨_, rfl⟩
  obtain ⟨T, hT⟩ : ∃ T, T = L.total := ⟨_, rfl⟩
  rw [← hnh, ← hm, ← hwn, ← hsc, ← htt] at HL1
  rw [← hnh, ← hm, ← hwn, ← hsc, ← htt, ← hs] at HLT
  rw [← hm, ← hT] at HSZ
  rw [← hm, ← hT, ← hs] at HRL
  rw [← hm] at hm8 hsq
  rw [← hs] at hs256
  rw [← hnh, ← hm, ← hwn, ← hsc, ← htt]
  clear hh hq hnh hwn hsc htt hL hl2 hs hT hm
  go_enter Try.func71, Try.ntmps71
  go_wp2_with fail
  refine (HLT.out _ ((Below.refl _ _).alloc (Nat.le_refl _) _)).mono ?_
  rintro e w5 ⟨rfl, hb5⟩
  have HI5 := Lib.hid ((BoxL.start w [.slice AH nh ch, .int .i64 wn, .int .i64 sc, .int .i64 tt, .slice AQ m cq]).below hb5)
  clear hb5
  go_wp2_with fail
  go_loopw [5, 7] (fun sm si wr => ∃ i : Nat, i ≤ s.size ∧ si = .int .i64 i ∧ sm = .int .i64 (restOf (cuttersOf L) m T sq (s.data.toList.take i)) ∧ Hid (BoxL w wr [.slice AH nh ch, .int .i64 wn, .int .i64 sc, .int .i64 tt, .slice AQ m cq])) (fun _ si _ => s.size - (intOf si).toNat)
  case atStart => exact ⟨0, by omega, rfl, rfl, HI5⟩
  case round =>
    clear HI5
    obtain ⟨i, hi, rfl, rfl, HI⟩ := hrel
    have hrl := restOf_le (cuttersOf L) m T sq (s.data.toList.take i) hm8
    by_cases hin : i < s.size
    · have htk : s.data.toList.take (i + 1) = s.data.toList.take i ++ [s[i]] := by
        rw [List.take_succ_eq_append_getElem (by simpa using hin)]; rfl
      have hmx := restOf_snoc (cuttersOf L) m T sq (s.data.toList.take i) s[i]
      rw [← htk] at hmx
      have HMX := Lib.hid hmx
      obtain ⟨f, hf⟩ : ∃ f, f = restOf (cuttersOf L) m T sq (s.data.toList.take i) := ⟨_, rfl⟩
      rw [← hf] at HMX hrl ⊢
      obtain ⟨cs2, hcs2⟩ : ∃ cs2, cs2 = (cuttersOf L).map (knownC sq s[i].toNat) := ⟨_, rfl⟩
      have HSZ2 := Lib.hid (fun (q : Nat) (hq : q < m) => show (rtext L [(sq, s[i].toNat)] q 26).size = setSize cs2 m T q by rw [hcs2]; exact HSZ.out q _ hq)
      rw [← hcs2] at HMX
      clear hmx htk hf hcs2
      have i0 : (0 : Int) ≤ (i : Int) := by omega
      have i1 : (i : Int) < (s.size : Int) := by omega
      go_wp2_with fail
      go_loopw [8, 9] (fun sn sk wr => ∃ k : Nat, k ≤ m ∧ sk = .int .i64 k ∧ sn = .int .i64 (restSum cs2 m T sq k) ∧ Hid (BoxL w wr [.slice AH nh ch, .int .i64 wn, .int .i64 sc, .int .i64 tt, .slice AQ m cq])) (fun _ sk _ => m - (intOf sk).toNat)
      case atStart => exact ⟨0, by omega, rfl, rfl, HI⟩
      case round =>
        clear HI
        obtain ⟨k, hk, rfl, rfl, HK⟩ := hrel
        have z1 := HK.out.one.size
        have z0 := HK.out.bel.size
        have hsl := restSum_le cs2 m T sq k
        have HSS := Lib.hid (restSum_succ cs2 m T sq k)
        have a0 : wr.cell? ⟨w.heap.size, 0, none⟩ = some (.slice AH nh ch) := HK.out.one.cell 0
        have a1 : wr.cell? ⟨w.heap.size, 1, none⟩ = some (.int .i64 wn) := HK.out.one.cell 1
        have a2 : wr.cell? ⟨w.heap.size, 2, none⟩ = some (.int .i64 sc) := HK.out.one.cell 2
        have a3 : wr.cell? ⟨w.heap.size, 3, none⟩ = some (.int .i64 tt) := HK.out.one.cell 3
        have a4 : wr.cell? ⟨w.heap.size, 4, none⟩ = some (.slice AQ m cq) := HK.out.one.cell 4
        by_cases hkm : k < m
        · have k0 : (0 : Int) ≤ (k : Int) := by omega
          have k1 : (k : Int) < (m : Int) := by omega
          by_cases hks : k = sq
          · have t1 : ((k : Int) != sq) = false := by simp [hks]
            have HV := Lib.hid (show restSum cs2 m T sq (k + 1) = restSum cs2 m T sq k by rw [HSS.out, if_pos hks, Nat.add_zero])
            clear hks
            go_wp2_with fail
            exact ⟨⟨k + 1, by omega, by go_num, by rw [HV.out], HK⟩, by simp [intOf]; omega⟩
          · have t1 : ((k : Int) != sq) = true := by simp; omega
            have HC := Lib.hid (HL1.out wr.drew HK.out.bel.drew k s[i].toNat hkm hks)
            have hsz := HSZ2.out k hkm
            have hole := orderOf_len (lettersG cs2 m T k)
            have HV := Lib.hid (show restSum cs2 m T sq (k + 1) = restSum cs2 m T sq k + setSize cs2 m T k by rw [HSS.out, if_neg hks])
            obtain ⟨tx, htx⟩ : ∃ tx, tx = rtext L [(sq, s[i].toNat)] k 26 := ⟨_, rfl⟩
            rw [← htx] at HC hsz
            have htl : tx.size ≤ 256 := by rw [hsz]; exact hole
            have HTS := Lib.hid hsz
            obtain ⟨rs, hrs⟩ : ∃ rs, rs = restSum cs2 m T sq k := ⟨_, rfl⟩
            rw [← hrs] at hsl HV ⊢
            have HWS := Lib.hid (show IntKind.i64.wrap ((rs : Int) + (tx.size : Int)) = (rs : Int) + (tx.size : Int) from IntWalk.i64_in _ (by omega))
            clear hks htx hsz hole hrs
            go_wp2_with fail
            go_region_held3 (fun w' => w'.cell? ⟨w.heap.size, 0, none⟩ = some (.slice AH nh ch) ∧ w'.cell? ⟨w.heap.size, 1, none⟩ = some (.int .i64 wn) ∧ w'.cell? ⟨w.heap.size, 2, none⟩ = some (.int .i64 sc) ∧ w'.cell? ⟨w.heap.size, 3, none⟩ = some (.int .i64 tt) ∧ w'.cell? ⟨w.heap.size, 4, none⟩ = some (.slice AQ m cq))
              (first
                | exact ⟨a0, a1, a2, a3, a4⟩
                | exact ⟨bcell HB5.out z1 a0, bcell HB5.out z1 a1, bcell HB5.out z1 a2, bcell HB5.out z1 a3, bcell HB5.out z1 a4⟩
                | go_keep)
              (first
                | (go_at_call 59; refine HC.out.mono ?_; rintro e w5 ⟨rfl, hb5⟩; have HB5 := Lib.hid (((Below.refl wr.heap.size wr).drew.alloc (Nat.le_refl _) (.cells #[.int .i64 sq, .int .u8 s[i].toNat] 131)).trans (hb5.mono (by show wr.heap.size ≤ wr.heap.size + 1; omega)))))
            have HK5 := Lib.hid (HK.out.below HB5.out)
            clear a0 a1 a2 a3 a4 hb5 HC HB5
            go_wp2_with fail
            exact ⟨⟨k + 1, by omega, by go_num, val_int (by rw [HWS.out, HV.out, ← HTS.out]; omega), HK5⟩, by simp [intOf]; omega⟩
        · obtain rfl : k = m := by omega
          obtain ⟨u, hu⟩ : ∃ u, u = restSum cs2 k T sq k := ⟨_, rfl⟩
          rw [← hu] at hsl HMX ⊢
          clear hu
          by_cases hlt : f < u
          · have HV := Lib.hid (show restOf (cuttersOf L) k T sq (s.data.toList.take (i + 1)) = u by rw [HMX.out]; omega)
            go_wp2_with fail
            exact ⟨⟨i + 1, by omega, by go_num, by rw [HV.out]; try (simp; omega), HK⟩, by simp [intOf]; omega⟩
          · have HV := Lib.hid (show restOf (cuttersOf L) k T sq (s.data.toList.take (i + 1)) = f by rw [HMX.out]; omega)
            go_wp2_with fail
            exact ⟨⟨i + 1, by omega, by go_num, by rw [HV.out]; try (simp; omega), HK⟩, by simp [intOf]; omega⟩
    · obtain rfl : i = s.size := by omega
      have htk : s.data.toList.take s.size = s.data.toList := List.take_of_length_le (by rw [Array.length_toList]; exact Nat.le_refl _)
      rw [htk, ← HRL.out]
      clear htk hrl
      go_wp2_with fail
      go_ret
      exact ⟨rfl, HI.out.bel⟩
end
section
open Go.RowKit Go.Shelf

set_option maxRecDepth 100000 in
set_option maxHeartbeats 1000000 in
theorem rLook_no (v : Value) (vh vs : Value) (a b c er : Int) (w : World) (hv : v = .agg #[vh, .int .i64 a, .int .i64 b, .int .i64 c, vs]) (hf : (∃ A n k, vh = .slice A n k) ∧ ∃ A n k, vs = .slice A n k) (he : er ≠ 0)
    (hc : ∀ W, Below w.heap.size w W → Calls Try.prog 20 #[v] W fun e w' => e = .returned (.tuple #[.slice none 0 0, .int .i64 er]) ∧ Below W.heap.size W w') :
    Calls Try.prog 35 #[v] w fun e w' => e = .returned (.tuple #[.int .i64 0, .int .i64 0, .int .i64 er]) ∧ Below w.heap.size w w' := by
  subst hv
  obtain ⟨⟨AH, nh, ch, rfl⟩, AQ, m, cq, rfl⟩ := hf
  have HC := Lib.hid hc
  have t0 : (er == 0) = false := by rw [beq_eq_false_iff_ne]; exact he
  have t1 : (er != 0) = true := by rw [bne_iff_ne]; exact he
  clear hc he
  go_enter Try.func35, Try.ntmps35
  go_wp2_with fail
  refine (HC.out _ ((Below.refl _ _).alloc (Nat.le_refl _) _)).mono ?_
  rintro e w5 ⟨rfl, hb5⟩
  have HB := Lib.hid (((Below.refl w.heap.size w).alloc (Nat.le_refl _) (.cells #[.slice AH nh ch, .int .i64 a, .int .i64 b, .int .i64 c, .slice AQ m cq] 25)).trans (hb5.mono (by simp)))
  clear hb5
  go_wp2_with fail
  go_ret3
  exact ⟨rfl, HB.out⟩
set_option maxRecDepth 100000 in
set_option maxHeartbeats 2000000 in
theorem rLook_ok (v : Value) (L : Line) (w : World) (hL : L.ok) (hv : RLineAt w w.heap.size v L.raw) (hz : handsOf L ≠ []) :
    Calls Try.prog 35 #[v] w fun e w' => ∃ a b : Nat, LookRes L (L.squares.length - 1) a b ∧ e = .returned (.tuple #[.int .i64 a, .int .i64 b, .int .i64 0]) ∧ Below w.heap.size w w' := by
  have HCK := Lib.hid (fun (W : World) (hW : Below w.heap.size w W) => rHands_ok v L W hL (hv.keep (SameA.of_below hW) hW.size))
  have HRS := Lib.hid (fun (W : World) (hW : Below w.heap.size w W) (q : Nat) (hq : q < L.squares.length) => rest_refc v L W hL (hv.keep (SameA.of_below hW) hW.size) q hq)
  have hm8 : L.squares.length ≤ 8 := hL.2.2.2.2.2.2.2.1
  have hm1 : 1 ≤ L.squares.length := hL.2.2.2.2.2.2.1
  have HRB := Lib.hid (fun q => show restL L q ≤ 2048 from restOf_le _ _ _ _ _ hm8)
  obtain ⟨vh, vs, rfl, hh, hq⟩ := hv
  obtain ⟨AH, ch, rfl, -⟩ := RSl.form hh
  obtain ⟨AQ, cq, rfl, -⟩ := RSl.form hq
  have hl2 : L.raw.squares.length = L.squares.length := by simp [Line.raw]
  rw [hl2] at HCK HRS ⊢
  obtain ⟨nh, hnh⟩ : ∃ nh, nh = L.raw.hands.length := ⟨_, rfl⟩
  obtain ⟨m, hm⟩ : ∃ m, m = L.squares.length := ⟨_, rfl⟩
  obtain ⟨wn, hwn⟩ : ∃ wn, wn = L.raw.worn := ⟨_, rfl⟩
  obtain ⟨sc, hsc⟩ : ∃ sc, sc = L.raw.scr := ⟨_, rfl⟩
  obtain ⟨tt, htt⟩ : ∃ tt, tt = L.raw.total := ⟨_, rfl⟩
  rw [← hnh, ← hm, ← hwn, ← hsc, ← htt] at HCK HRS
  rw [← hnh, ← hm, ← hwn, ← hsc, ← htt]
  rw [← hm] at hm8 hm1
  have HZ := Lib.hid hz
  clear hh hq hnh hwn hsc htt hL hl2 hm hz
  go_enter Try.func35, Try.ntmps35
  go_wp2_with fail
  refine (HCK.out _ ((Below.refl _ _).alloc (Nat.le_refl _) _)).mono ?_
  rintro e w5 ⟨hb5, ⟨h, _⟩ | ⟨_, u, rfl, _⟩⟩
  · exact absurd h HZ.out
  have HI5 := Lib.hid ((BoxL.start w [.slice AH nh ch, .int .i64 wn, .int .i64 sc, .int .i64 tt, .slice AQ m cq]).below hb5)
  clear hb5
  go_wp2_with fail
  go_loopw [7, 8] (fun sb si wr => ∃ j b : Nat, j + 1 ≤ m ∧ b ≤ j ∧ si = .int .i64 ((j : Int) + 1) ∧ sb = .int .i64 b ∧ Hid (LookRes L j b (restL L b)) ∧ Hid (BoxL w wr [.slice AH nh ch, .int .i64 wn, .int .i64 sc, .int .i64 tt, .slice AQ m cq])) (fun _ si _ => m - (intOf si).toNat)
  case atStart => exact ⟨0, 0, by omega, by omega, rfl, rfl, Lib.hid ⟨rfl, rfl⟩, HI5⟩
  case round =>
    clear HI5
    obtain ⟨j, b, hj, hbj, rfl, rfl, HLR, HI⟩ := hrel
    have z1 := HI.out.one.size
    have a0 : wr.cell? ⟨w.heap.size, 0, none⟩ = some (.slice AH nh ch) := HI.out.one.cell 0
    have a1 : wr.cell? ⟨w.heap.size, 1, none⟩ = some (.int .i64 wn) := HI.out.one.cell 1
    have a2 : wr.cell? ⟨w.heap.size, 2, none⟩ = some (.int .i64 sc) := HI.out.one.cell 2
    have a3 : wr.cell? ⟨w.heap.size, 3, none⟩ = some (.int .i64 tt) := HI.out.one.cell 3
    have a4 : wr.cell? ⟨w.heap.size, 4, none⟩ = some (.slice AQ m cq) := HI.out.one.cell 4
    by_cases hjm : j + 1 < m
    · have HRi := Lib.hid (fun (W : World) (hW : Below w.heap.size w W) => show Calls Try.prog 71 #[.agg #[.slice AH nh ch, .int .i64 wn, .int .i64 sc, .int .i64 tt, .slice AQ m cq], .int .i64 ((j : Int) + 1)] W (fun e w' => e = .returned (.int .i64 (restL L (j + 1))) ∧ Below W.heap.size W w') from HRS.out W hW (j + 1) hjm)
      have HRb := Lib.hid (fun (W : World) (hW : Below w.heap.size w W) => HRS.out W hW b (by omega))
      have h1 := HRB.out (j + 1)
      have h2 := HRB.out b
      have HYES := Lib.hid (fun h => LookRes.yes HLR.out h)
      have HNO := Lib.hid (fun h => LookRes.no HLR.out h)
      have HB0 := Lib.hid HI.out.bel.drew
      obtain ⟨r1, hr1⟩ : ∃ r1, r1 = restL L (j + 1) := ⟨_, rfl⟩
      obtain ⟨r2, hr2⟩ : ∃ r2, r2 = restL L b := ⟨_, rfl⟩
      rw [← hr1] at HRi h1 HYES HNO
      rw [← hr2] at HRb h2 HYES HNO
      have HR2 := Lib.hid hr2
      have HR1 := Lib.hid hr1
      have k0 : (0 : Int) ≤ (j : Int) := by omega
      have k1 : (j : Int) + 1 < (m : Int) := by omega
      clear hr1 hr2
      go_wp2_with fail
      go_region_held3 (fun w' => w'.cell? ⟨w.heap.size, 0, none⟩ = some (.slice AH nh ch) ∧ w'.cell? ⟨w.heap.size, 1, none⟩ = some (.int .i64 wn) ∧ w'.cell? ⟨w.heap.size, 2, none⟩ = some (.int .i64 sc) ∧ w'.cell? ⟨w.heap.size, 3, none⟩ = some (.int .i64 tt) ∧ w'.cell? ⟨w.heap.size, 4, none⟩ = some (.slice AQ m cq))
        (first
          | exact ⟨bcell HX6.out z1 a0, bcell HX6.out z1 a1, bcell HX6.out z1 a2, bcell HX6.out z1 a3, bcell HX6.out z1 a4⟩
          | exact ⟨bcell HX5.out z1 a0, bcell HX5.out z1 a1, bcell HX5.out z1 a2, bcell HX5.out z1 a3, bcell HX5.out z1 a4⟩
          | exact ⟨a0, a1, a2, a3, a4⟩
          | go_keep)
        (first
          | (go_at_call 71; (with_reducible refine (HRi.out _ HB0.out).mono ?_); rintro e w5 ⟨rfl, hb5⟩; have HX5 := Lib.hid ((Below.refl wr.heap.size wr).drew.trans hb5); have HB5 := Lib.hid (HI.out.bel.trans (HX5.out.mono HI.out.bel.size)))
          | (go_at_call 71; (with_reducible refine (HRb.out _ HB0.out).mono ?_); rintro e w5 ⟨rfl, hb5⟩; have HX5 := Lib.hid ((Below.refl wr.heap.size wr).drew.trans hb5); have HB5 := Lib.hid (HI.out.bel.trans (HX5.out.mono HI.out.bel.size)))
          | (go_at_call 71; (with_reducible refine (HRi.out _ HB5.out).mono ?_); rintro e w6 ⟨rfl, hb6⟩; have HX6 := Lib.hid (HX5.out.trans (hb6.mono HX5.out.size)))
          | (go_at_call 71; (with_reducible refine (HRb.out _ HB5.out).mono ?_); rintro e w6 ⟨rfl, hb6⟩; have HX6 := Lib.hid (HX5.out.trans (hb6.mono HX5.out.size))))
      all_goals
        have HI6 := Lib.hid (HI.out.below HX6.out)
        clear a0 a1 a2 a3 a4 hb5 hb6 HX5 HX6 HB5 HB0
        by_cases hlt : r1 < r2
        · have HY := Lib.hid (HYES.out hlt)
          go_wp2_with fail
          exact ⟨⟨j + 1, j + 1, by omega, by omega, val_int (by omega), val_int (by omega), Lib.hid (by rw [← HR1.out]; exact HY.out), HI6⟩, by simp [intOf]; omega⟩
        · have HY := Lib.hid (HNO.out hlt)
          go_wp2_with fail
          exact ⟨⟨j + 1, b, by omega, by omega, val_int (by omega), rfl, Lib.hid (by rw [← HR2.out]; exact HY.out), HI6⟩, by simp [intOf]; omega⟩
    · obtain rfl : m = j + 1 := by omega
      have HRb := Lib.hid (HRS.out wr HI.out.bel b (by omega))
      go_wp2_with fail
      refine HRb.out.mono ?_
      rintro e w6 ⟨rfl, hb6⟩
      have HB6 := Lib.hid (HI.out.bel.trans (hb6.mono HI.out.bel.size))
      clear hb6 a0 a1 a2 a3 a4
      go_wp2_with fail
      go_ret3
      exact ⟨b, _, HLR.out, rfl, HB6.out⟩
end
section
open Go.RowKit Go.Shelf

set_option maxRecDepth 100000 in
set_option maxHeartbeats 1000000 in
theorem sHands_no (v : Value) (vh vs : Value) (a b c er : Int) (w : World) (hv : v = .agg #[vh, .int .i64 a, .int .i64 b, .int .i64 c, vs]) (hf : (∃ A n k, vh = .slice A n k) ∧ ∃ A n k, vs = .slice A n k) (he : er ≠ 0)
    (hc : ∀ W, Below w.heap.size w W → Calls Try.prog 25 #[v] W fun e w' => e = .returned (.int .i64 er) ∧ Below W.heap.size W w') :
    Calls Try.prog 19 #[v] w fun e w' => e = .returned (.tuple #[.slice none 0 0, .int .i64 er]) ∧ Below w.heap.size w w' := by
  subst hv
  obtain ⟨⟨AH, nh, ch, rfl⟩, AQ, m, cq, rfl⟩ := hf
  have HC := Lib.hid hc
  have t0 : (er == 0) = false := by rw [beq_eq_false_iff_ne]; exact he
  have t1 : (er != 0) = true := by rw [bne_iff_ne]; exact he
  clear hc he
  go_enter Try.func19, Try.ntmps19
  go_wp2_with fail
  refine (HC.out _ ((Below.refl _ _).alloc (Nat.le_refl _) _)).mono ?_
  rintro e w5 ⟨rfl, hb5⟩
  have HB := Lib.hid (((Below.refl w.heap.size w).alloc (Nat.le_refl _) (.cells #[.slice AH nh ch, .int .i64 a, .int .i64 b, .int .i64 c, .slice AQ m cq] 25)).trans (hb5.mono (by simp)))
  clear hb5
  go_wp2_with fail
  go_ret2
  exact ⟨rfl, HB.out⟩
set_option maxRecDepth 100000 in
set_option maxHeartbeats 1000000 in
theorem sLetters_no (v : Value) (vh vs : Value) (a b c er : Int) (w : World) (hv : v = .agg #[vh, .int .i64 a, .int .i64 b, .int .i64 c, vs]) (hf : (∃ A n k, vh = .slice A n k) ∧ ∃ A n k, vs = .slice A n k) (he : er ≠ 0)
    (hc : ∀ W, Below w.heap.size w W → Calls Try.prog 19 #[v] W fun e w' => e = .returned (.tuple #[.slice none 0 0, .int .i64 er]) ∧ Below W.heap.size W w') :
    Calls Try.prog 21 #[v] w fun e w' => e = .returned (.tuple #[.slice none 0 0, .int .i64 er]) ∧ Below w.heap.size w w' := by
  subst hv
  obtain ⟨⟨AH, nh, ch, rfl⟩, AQ, m, cq, rfl⟩ := hf
  have HC := Lib.hid hc
  have t0 : (er == 0) = false := by rw [beq_eq_false_iff_ne]; exact he
  have t1 : (er != 0) = true := by rw [bne_iff_ne]; exact he
  clear hc he
  go_enter Try.func21, Try.ntmps21
  go_wp2_with fail
  refine (HC.out _ ((Below.refl _ _).alloc (Nat.le_refl _) _)).mono ?_
  rintro e w5 ⟨rfl, hb5⟩
  have HB := Lib.hid (((Below.refl w.heap.size w).alloc (Nat.le_refl _) (.cells #[.slice AH nh ch, .int .i64 a, .int .i64 b, .int .i64 c, .slice AQ m cq] 25)).trans (hb5.mono (by simp)))
  clear hb5
  go_wp2_with fail
  go_ret2
  exact ⟨rfl, HB.out⟩
set_option maxRecDepth 100000 in
set_option maxHeartbeats 1000000 in
theorem sPrint_no (v : Value) (vh vs : Value) (a b c er : Int) (w : World) (hv : v = .agg #[vh, .int .i64 a, .int .i64 b, .int .i64 c, vs]) (hf : (∃ A n k, vh = .slice A n k) ∧ ∃ A n k, vs = .slice A n k) (he : er ≠ 0)
    (hc : ∀ W, Below w.heap.size w W → Calls Try.prog 21 #[v] W fun e w' => e = .returned (.tuple #[.slice none 0 0, .int .i64 er]) ∧ Below W.heap.size W w') :
    Calls Try.prog 30 #[v] w fun e w' => e = .returned (.tuple #[.string ByteArray.empty, .int .i64 er]) ∧ Below w.heap.size w w' := by
  subst hv
  obtain ⟨⟨AH, nh, ch, rfl⟩, AQ, m, cq, rfl⟩ := hf
  have HC := Lib.hid hc
  have t0 : (er == 0) = false := by rw [beq_eq_false_iff_ne]; exact he
  have t1 : (er != 0) = true := by rw [bne_iff_ne]; exact he
  clear hc he
  go_enter Try.func30, Try.ntmps30
  go_wp2_with fail
  refine (HC.out _ ((Below.refl _ _).alloc (Nat.le_refl _) _)).mono ?_
  rintro e w5 ⟨rfl, hb5⟩
  have HB := Lib.hid (((Below.refl w.heap.size w).alloc (Nat.le_refl _) (.cells #[.slice AH nh ch, .int .i64 a, .int .i64 b, .int .i64 c, .slice AQ m cq] 25)).trans (hb5.mono (by simp)))
  clear hb5
  go_wp2_with fail
  go_ret2
  exact ⟨rfl, HB.out⟩
set_option maxRecDepth 100000 in
set_option maxHeartbeats 1000000 in
theorem sMarks_no (v : Value) (vh vs : Value) (a b c er : Int) (w : World) (hv : v = .agg #[vh, .int .i64 a, .int .i64 b, .int .i64 c, vs]) (hf : (∃ A n k, vh = .slice A n k) ∧ ∃ A n k, vs = .slice A n k) (he : er ≠ 0)
    (hc : ∀ W, Below w.heap.size w W → Calls Try.prog 25 #[v] W fun e w' => e = .returned (.int .i64 er) ∧ Below W.heap.size W w') :
    Calls Try.prog 32 #[v] w fun e w' => e = .returned (.tuple #[.int .i64 0, .int .i64 er]) ∧ Below w.heap.size w w' := by
  subst hv
  obtain ⟨⟨AH, nh, ch, rfl⟩, AQ, m, cq, rfl⟩ := hf
  have HC := Lib.hid hc
  have t0 : (er == 0) = false := by rw [beq_eq_false_iff_ne]; exact he
  have t1 : (er != 0) = true := by rw [bne_iff_ne]; exact he
  clear hc he
  go_enter Try.func32, Try.ntmps32
  go_wp2_with fail
  refine (HC.out _ ((Below.refl _ _).alloc (Nat.le_refl _) _)).mono ?_
  rintro e w5 ⟨rfl, hb5⟩
  have HB := Lib.hid (((Below.refl w.heap.size w).alloc (Nat.le_refl _) (.cells #[.slice AH nh ch, .int .i64 a, .int .i64 b, .int .i64 c, .slice AQ m cq] 25)).trans (hb5.mono (by simp)))
  clear hb5
  go_wp2_with fail
  go_ret2
  exact ⟨rfl, HB.out⟩
set_option maxRecDepth 100000 in
set_option maxHeartbeats 1000000 in
theorem sLook_no (v : Value) (vh vs : Value) (a b c er : Int) (w : World) (hv : v = .agg #[vh, .int .i64 a, .int .i64 b, .int .i64 c, vs]) (hf : (∃ A n k, vh = .slice A n k) ∧ ∃ A n k, vs = .slice A n k) (he : er ≠ 0)
    (hc : ∀ W, Below w.heap.size w W → Calls Try.prog 21 #[v] W fun e w' => e = .returned (.tuple #[.slice none 0 0, .int .i64 er]) ∧ Below W.heap.size W w') :
    Calls Try.prog 34 #[v] w fun e w' => e = .returned (.tuple #[.int .i64 0, .int .i64 0, .int .i64 er]) ∧ Below w.heap.size w w' := by
  subst hv
  obtain ⟨⟨AH, nh, ch, rfl⟩, AQ, m, cq, rfl⟩ := hf
  have HC := Lib.hid hc
  have t0 : (er == 0) = false := by rw [beq_eq_false_iff_ne]; exact he
  have t1 : (er != 0) = true := by rw [bne_iff_ne]; exact he
  clear hc he
  go_enter Try.func34, Try.ntmps34
  go_wp2_with fail
  refine (HC.out _ ((Below.refl _ _).alloc (Nat.le_refl _) _)).mono ?_
  rintro e w5 ⟨rfl, hb5⟩
  have HB := Lib.hid (((Below.refl w.heap.size w).alloc (Nat.le_refl _) (.cells #[.slice AH nh ch, .int .i64 a, .int .i64 b, .int .i64 c, .slice AQ m cq] 25)).trans (hb5.mono (by simp)))
  clear hb5
  go_wp2_with fail
  go_ret3
  exact ⟨rfl, HB.out⟩
set_option maxRecDepth 100000 in
set_option maxHeartbeats 1000000 in
theorem sYears_no (v : Value) (vh vs : Value) (a b c er : Int) (w : World) (hv : v = .agg #[vh, .int .i64 a, .int .i64 b, .int .i64 c, vs]) (hf : (∃ A n k, vh = .slice A n k) ∧ ∃ A n k, vs = .slice A n k) (he : er ≠ 0)
    (hc : ∀ W, Below w.heap.size w W → Calls Try.prog 19 #[v] W fun e w' => e = .returned (.tuple #[.slice none 0 0, .int .i64 er]) ∧ Below W.heap.size W w') :
    Calls Try.prog 23 #[v] w fun e w' => e = .returned (.tuple #[.agg #[.int .i64 0, .int .i64 0], .int .i64 er]) ∧ Below w.heap.size w w' := by
  subst hv
  obtain ⟨⟨AH, nh, ch, rfl⟩, AQ, m, cq, rfl⟩ := hf
  have HC := Lib.hid hc
  have t0 : (er == 0) = false := by rw [beq_eq_false_iff_ne]; exact he
  have t1 : (er != 0) = true := by rw [bne_iff_ne]; exact he
  clear hc he
  go_enter Try.func23, Try.ntmps23
  go_wp2_with fail
  refine (HC.out _ (((Below.refl _ _).alloc (Nat.le_refl _) _).alloc (by simp) _)).mono ?_
  rintro e w5 ⟨rfl, hb5⟩
  have HI := Lib.hid ((BoxS.start w [.slice AH nh ch, .int .i64 a, .int .i64 b, .int .i64 c, .slice AQ m cq] [.int .i64 0, .int .i64 0]).below hb5)
  clear hb5
  have r0 : w5.cell? ⟨w.heap.size + 1, 0, none⟩ = some (.int .i64 0) := HI.out.two.cell 0
  have r1 : w5.cell? ⟨w.heap.size + 1, 1, none⟩ = some (.int .i64 0) := HI.out.two.cell 1
  have f0 := HI.out.two.free 0
  have f1 := HI.out.two.free 1
  have HEND := Lib.hid ((HI.out.two.put 0 (.int .i64 0)).put 1 (.int .i64 0))
  have HBEL := Lib.hid ((HI.out.bel.setCell (p := ⟨w.heap.size + 1, 0, none⟩) (Nat.le_succ _) (.int .i64 0)).setCell (p := ⟨w.heap.size + 1, 1, none⟩) (Nat.le_succ _) (.int .i64 0))
  go_wp2_with fail
  refine bodyPost_ret (v := .tuple #[.agg #[.int .i64 0, .int .i64 0], .int .i64 er]) ?_ rfl ⟨rfl, HBEL.out⟩
  exact results_cell_tmp Try.results23 _ _ (w.heap.size + 1) 48 _ _ rfl HEND.out Try.underlying48 rfl (by kernel_rfl)
end
end Go.Proofs.Ythhajbgddifenaa
