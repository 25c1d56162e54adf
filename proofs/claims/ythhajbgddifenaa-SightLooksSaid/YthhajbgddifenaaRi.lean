/- large, SameLines, Wrap: of raw lines. · SameLines of raw lines. -/
import Derived.Test.YthhajbgddifenaaRg
import Derived.Deep.DeepCutAuto
import Derived.Deep.CutBlock
import Derived.BigRegion
import Derived.Deep.RegionHeld3
namespace Go.Proofs.Ythhajbgddifenaa
section
open Go.RowKit Go.Shelf

structure RSmall20 (L : RLine) : Prop where
  hands : L.hands.length ≤ 20
  shapes : ∀ h ∈ L.hands, h.shapes.length ≤ 20
  squares : L.squares.length ≤ 20
  lights : ∀ q ∈ L.squares, q.length ≤ 20
theorem RSmall20.small {L : RLine} (h : RSmall20 L) : RSmall L :=
  ⟨Nat.le_trans h.hands (by decide), fun x hx => Nat.le_trans (h.shapes x hx) (by decide), Nat.le_trans h.squares (by decide), fun x hx => Nat.le_trans (h.lights x hx) (by decide)⟩
def LargePost (L : RLine) (w : World) (e : Ending) (w' : World) : Prop := ∃ b : Bool, e = .returned (.bool b) ∧ (b = false → RSmall20 L) ∧ Below w.heap.size w w'
set_option maxRecDepth 100000 in
set_option maxHeartbeats 2000000 in
theorem large_any (v : Value) (L : RLine) (w : World) (hv : RLineAt w w.heap.size v L) : Calls Try.prog 13 #[v] w (LargePost L w) := by
  obtain ⟨vh, vs, rfl, hh, hs⟩ := hv
  obtain ⟨AH, ch, rfl, hhf⟩ := RSl.form hh
  obtain ⟨AQ, cq, rfl, hsf⟩ := RSl.form hs
  obtain ⟨n, hn⟩ : ∃ n, n = L.hands.length := ⟨_, rfl⟩
  obtain ⟨m, hm⟩ : ∃ m, m = L.squares.length := ⟨_, rfl⟩
  rw [← hn] at hhf
  rw [← hm] at hsf
  rw [← hn, ← hm]
  have HH := Lib.hid hhf
  have HQ := Lib.hid hsf
  have HN := Lib.hid hn
  have HM := Lib.hid hm
  clear hn hm hh hs hhf hsf
  go_enter Try.func13, Try.ntmps13
  go_wp2_with fail
  obtain ⟨W0, hW0⟩ : ∃ W0, W0 = w.alloc (.cells #[.slice AH n ch, .int .i64 L.worn, .int .i64 L.scr, .int .i64 L.total, .slice AQ m cq] 25) := ⟨_, rfl⟩
  have bx : Blok W0 w.heap.size 25 [.slice AH n ch, .int .i64 L.worn, .int .i64 L.scr, .int .i64 L.total, .slice AQ m cq] := by rw [hW0]; exact Blok.new _ _ _
  have hb0 : Below w.heap.size w W0 := by rw [hW0]; exact (Below.refl _ _).alloc (Nat.le_refl _) _
  have b0 : W0.cell? ⟨w.heap.size, 0, none⟩ = some (.slice AH n ch) := bx.cell 0
  have b4 : W0.cell? ⟨w.heap.size, 4, none⟩ = some (.slice AQ m cq) := bx.cell 4
  have z0 := bx.size
  have HB := Lib.hid hb0
  rw [← hW0]
  clear hW0 bx hb0
  go_loop [3] (fun i => ∃ k : Nat, k ≤ n ∧ k ≤ 20 ∧ i = .int .i64 k ∧ Hid (∀ j h, j < k → L.hands[j]? = some h → h.shapes.length ≤ 20)) (fun i => 20 - (intOf i).toNat)
  case atStart => exact ⟨0, by omega, by omega, rfl, Lib.hid (fun j h hj => by omega)⟩
  case round =>
    obtain ⟨k, hk, hk2, rfl, HP⟩ := hrel
    by_cases hin : k < n ∧ k < 20
    · obtain ⟨hkn, hk20⟩ := hin
      obtain ⟨x, rfl, hxb, hR⟩ := HH.out (by omega)
      obtain ⟨y, hy⟩ : ∃ y, L.hands[k]? = some y := ⟨_, List.getElem?_eq_getElem (by rw [← HN.out]; exact hkn)⟩
      obtain ⟨-, -, sv, d3, hsv⟩ := hR k y hy
      have d3 := (HB.out.cell (p := x.add (k * 3 + 2)) (by rw [Addr.add_block]; exact hxb)).trans d3
      rw [← Addr.nth x (k * 3) 1] at d3
      obtain ⟨As, cs, rfl, -⟩ := RSl.form hsv
      obtain ⟨ns, hns⟩ : ∃ ns, ns = y.shapes.length := ⟨_, rfl⟩
      rw [← hns] at d3
      have k0 : (0 : Int) ≤ (k : Int) := by omega
      have k1 : (k : Int) < (n : Int) := by omega
      have HY := Lib.hid hy
      have HNS := Lib.hid hns
      clear hR hsv hy hns
      by_cases hb : 20 < ns
      · go_wp2_with fail
        go_ret
        exact ⟨true, rfl, (fun h => by cases h), HB.out⟩
      · have HP2 := Lib.hid (show ∀ j h, j < k + 1 → L.hands[j]? = some h → h.shapes.length ≤ 20 from fun j h hj hjh => by
          by_cases e : j = k
          · subst e
            rw [HY.out] at hjh
            injection hjh with hjh
            rw [← hjh, ← HNS.out]
            omega
          · exact HP.out j h (by omega) hjh)
        go_wp2_with fail
        exact ⟨⟨k + 1, by omega, by omega, by go_num, HP2⟩, by simp [intOf]; omega⟩
    · have HP3 := Lib.hid (show n ≤ 20 → ∀ h ∈ L.hands, h.shapes.length ≤ 20 from fun h20 h hh => by
        obtain ⟨j, hj, rfl⟩ := List.mem_iff_getElem.1 hh
        exact HP.out j _ (by rw [← HN.out] at hj; omega) (List.getElem?_eq_getElem hj))
      have hex : ¬ k < n ∨ (k < n ∧ ¬ k < 20) := by omega
      clear hin HP
      rcases hex with hkn | ⟨hkn, hk20⟩
      all_goals
        go_wp2_with fail
        go_loop [4] (fun i => ∃ j : Nat, j ≤ m ∧ j ≤ 20 ∧ i = .int .i64 j ∧ Hid (∀ l q, l < j → L.squares[l]? = some q → q.length ≤ 20)) (fun i => 20 - (intOf i).toNat)
        case atStart => exact ⟨0, by omega, by omega, rfl, Lib.hid (fun j h hj => by omega)⟩
        case round =>
          obtain ⟨j, hj, hj2, rfl, HP⟩ := hrel
          by_cases hin : j < m ∧ j < 20
          · obtain ⟨hjm, hj20⟩ := hin
            obtain ⟨x, rfl, hxb, hR⟩ := HQ.out (by omega)
            obtain ⟨y, hy⟩ : ∃ y, L.squares[j]? = some y := ⟨_, List.getElem?_eq_getElem (by rw [← HM.out]; exact hjm)⟩
            obtain ⟨lv, d3, hlv⟩ := hR j y hy
            have d3 := (HB.out.cell (p := x.add j) (by rw [Addr.add_block]; exact hxb)).trans d3
            obtain ⟨As, cs, rfl, -⟩ := RSl.form hlv
            obtain ⟨ns, hns⟩ : ∃ ns, ns = y.length := ⟨_, rfl⟩
            rw [← hns] at d3
            have k0 : (0 : Int) ≤ (j : Int) := by omega
            have k1 : (j : Int) < (m : Int) := by omega
            have HY := Lib.hid hy
            have HNS := Lib.hid hns
            clear hR hlv hy hns
            by_cases hb : 20 < ns
            · go_wp2_with fail
              go_ret
              exact ⟨true, rfl, (fun h => by cases h), HB.out⟩
            · have HP2 := Lib.hid (show ∀ l q, l < j + 1 → L.squares[l]? = some q → q.length ≤ 20 from fun l q hl hlq => by
                by_cases e : l = j
                · subst e
                  rw [HY.out] at hlq
                  injection hlq with hlq
                  rw [← hlq, ← HNS.out]
                  omega
                · exact HP.out l q (by omega) hlq)
              go_wp2_with fail
              exact ⟨⟨j + 1, by omega, by omega, by go_num, HP2⟩, by simp [intOf]; omega⟩
          · have HP4 := Lib.hid (show m ≤ 20 → ∀ q ∈ L.squares, q.length ≤ 20 from fun h20 h hh => by
              obtain ⟨l, hl, rfl⟩ := List.mem_iff_getElem.1 hh
              exact HP.out l _ (by rw [← HM.out] at hl; omega) (List.getElem?_eq_getElem hl))
            have hex : ¬ j < m ∨ (j < m ∧ ¬ j < 20) := by omega
            clear hin HP
            by_cases hn20 : 20 < n
            · rcases hex with hjm | ⟨hjm, hj20⟩
              all_goals first | (exfalso; omega) | (go_wp2_with fail; go_ret; exact ⟨true, rfl, (fun h => by cases h), HB.out⟩)
            · by_cases hm20 : 20 < m
              · have hm20' : decide ((20 : Int) < (m : Int)) = true := by simp; omega
                rcases hex with hjm | ⟨hjm, hj20⟩
                all_goals first | (exfalso; omega) | (go_wp2_with fail; go_ret; exact ⟨true, rfl, (fun h => by cases h), HB.out⟩)
              · have hm20' : decide ((20 : Int) < (m : Int)) = false := by simp; omega
                have HFIN := Lib.hid (show RSmall20 L from ⟨by rw [← HN.out]; omega, HP3.out (by omega), by rw [← HM.out]; omega, HP4.out (by omega)⟩)
                rcases hex with hjm | ⟨hjm, hj20⟩
                all_goals first | (exfalso; omega) | (go_wp2_with fail; go_ret; exact ⟨_, rfl, fun _ => HFIN.out, HB.out⟩)
end
section
open Go.RowKit Go.Shelf

theorem Blok.next (w : World) (o : Obj) (t : TypeId) (cs : List Value) : Blok ((w.alloc o).alloc (.cells cs.toArray t)) (w.heap.size + 1) t cs := by
  have h := Blok.new (w.alloc o) t cs
  rw [World.size_alloc] at h
  exact h
/-- Within SameLines: the boxes of both lines. -/
structure SmI (w wr : World) (a b : List Value) : Prop where
  one : Blok wr w.heap.size 25 a
  two : Blok wr (w.heap.size + 1) 25 b
  bel : Below w.heap.size w wr
theorem SmI.below {w wr w' : World} {a b : List Value} (h : SmI w wr a b) (hb : Below wr.heap.size wr w') : SmI w w' a b :=
  ⟨h.one.below hb h.one.size, h.two.below hb h.two.size, h.bel.trans (hb.mono h.bel.size)⟩
theorem SmI.drewN {w wr : World} {a b : List Value} (h : SmI w wr a b) (n : Nat) : SmI w (wr.drewN n) a b := h.below (below_drewN (Below.refl _ _) n)
set_option maxRecDepth 100000 in
set_option maxHeartbeats 4000000 in
theorem rsame_any (va vb : Value) (L : RLine) (w : World) (ha : RLineAt w w.heap.size va L) (hb : RLineAt w w.heap.size vb L) (hL : RSmall L) : Calls Try.prog 29 #[va, vb] w fun e w' => e = .returned (.bool true) ∧ Below w.heap.size w w' := by
  obtain ⟨vh, vs, rfl, hh, hs⟩ := ha
  obtain ⟨AH, ch, rfl, hhf⟩ := RSl.form hh
  obtain ⟨AQ, cq, rfl, hsf⟩ := RSl.form hs
  obtain ⟨vh', vs', rfl, hh', hs'⟩ := hb
  obtain ⟨AH', ch', rfl, hhf'⟩ := RSl.form hh'
  obtain ⟨AQ', cq', rfl, hsf'⟩ := RSl.form hs'
  obtain ⟨n, hn⟩ : ∃ n, n = L.hands.length := ⟨_, rfl⟩
  obtain ⟨m, hm⟩ : ∃ m, m = L.squares.length := ⟨_, rfl⟩
  have hn100 : n ≤ 100 := by rw [hn]; exact hL.hands
  have hm100 : m ≤ 100 := by rw [hm]; exact hL.squares
  rw [← hn] at hhf hhf'
  rw [← hm] at hsf hsf'
  rw [← hn, ← hm]
  have HH := Lib.hid hhf
  have HQ := Lib.hid hsf
  have HH' := Lib.hid hhf'
  have HQ' := Lib.hid hsf'
  have HN := Lib.hid hn
  have HM := Lib.hid hm
  have HLL := Lib.hid hL
  clear hn hm hh hs hhf hsf hh' hs' hhf' hsf' hL
  go_enter Try.func29, Try.ntmps29
  go_wp2_with fail
  obtain ⟨W0, hW0⟩ : ∃ W0, W0 = (w.alloc (.cells #[.slice AH n ch, .int .i64 L.worn, .int .i64 L.scr, .int .i64 L.total, .slice AQ m cq] 25)).alloc (.cells #[.slice AH' n ch', .int .i64 L.worn, .int .i64 L.scr, .int .i64 L.total, .slice AQ' m cq'] 25) := ⟨_, rfl⟩
  have hI0 : SmI w W0 [.slice AH n ch, .int .i64 L.worn, .int .i64 L.scr, .int .i64 L.total, .slice AQ m cq] [.slice AH' n ch', .int .i64 L.worn, .int .i64 L.scr, .int .i64 L.total, .slice AQ' m cq'] := by
    rw [hW0]
    have b2 := Blok.new (w.alloc (.cells #[.slice AH n ch, .int .i64 L.worn, .int .i64 L.scr, .int .i64 L.total, .slice AQ m cq] 25)) 25 [.slice AH' n ch', .int .i64 L.worn, .int .i64 L.scr, .int .i64 L.total, .slice AQ' m cq']
    rw [World.size_alloc] at b2
    exact ⟨(Blok.new w 25 [.slice AH n ch, .int .i64 L.worn, .int .i64 L.scr, .int .i64 L.total, .slice AQ m cq]).alloc _, b2, ((Below.refl _ _).alloc (Nat.le_refl _) _).alloc (by simp) _⟩
  have HI0 := Lib.hid hI0
  rw [← hW0]
  clear hW0 hI0
  go_loopw [5, 6] (fun s5 s6 wr => ∃ k : Nat, k ≤ n ∧ s5 = .bool true ∧ s6 = .int .i64 k ∧ Hid (SmI w wr [.slice AH n ch, .int .i64 L.worn, .int .i64 L.scr, .int .i64 L.total, .slice AQ m cq] [.slice AH' n ch', .int .i64 L.worn, .int .i64 L.scr, .int .i64 L.total, .slice AQ' m cq'])) (fun _ s6 _ => n - (intOf s6).toNat)
  case atStart => exact ⟨0, by omega, rfl, rfl, HI0⟩
  case round =>
    clear HI0
    obtain ⟨k, hk, rfl, rfl, HI⟩ := hrel
    have z2 := HI.out.two.size
    have z1 := HI.out.one.size
    have a0 : wr.cell? ⟨w.heap.size, 0, none⟩ = some (.slice AH n ch) := HI.out.one.cell 0
    have c0 : wr.cell? ⟨w.heap.size + 1, 0, none⟩ = some (.slice AH' n ch') := HI.out.two.cell 0
    by_cases hkn : k < n
    · obtain ⟨x, rfl, hxb, hR⟩ := HH.out (by omega)
      obtain ⟨x', rfl, hxb', hR'⟩ := HH'.out (by omega)
      obtain ⟨y, hy⟩ : ∃ y, L.hands[k]? = some y := ⟨_, List.getElem?_eq_getElem (by rw [← HN.out]; exact hkn)⟩
      have hns100 := HLL.out.shapes y (List.mem_of_getElem? hy)
      obtain ⟨d1, d2, sv, d3, hsv⟩ := hR k y hy
      obtain ⟨e1, e2, sv', e3, hsv'⟩ := hR' k y hy
      have d1 := (HI.out.bel.cell (p := x.add (k * 3)) (by rw [Addr.add_block]; exact hxb)).trans d1
      have d2 := (HI.out.bel.cell (p := x.add (k * 3 + 1)) (by rw [Addr.add_block]; exact hxb)).trans d2
      have d3 := (HI.out.bel.cell (p := x.add (k * 3 + 2)) (by rw [Addr.add_block]; exact hxb)).trans d3
      have e1 := (HI.out.bel.cell (p := x'.add (k * 3)) (by rw [Addr.add_block]; exact hxb')).trans e1
      have e2 := (HI.out.bel.cell (p := x'.add (k * 3 + 1)) (by rw [Addr.add_block]; exact hxb')).trans e2
      have e3 := (HI.out.bel.cell (p := x'.add (k * 3 + 2)) (by rw [Addr.add_block]; exact hxb')).trans e3
      rw [← Addr.nth x (k * 3) 0] at d2
      rw [← Addr.nth x (k * 3) 1] at d3
      rw [← Addr.nth x' (k * 3) 0] at e2
      rw [← Addr.nth x' (k * 3) 1] at e3
      obtain ⟨As, cs, rfl, hsf⟩ := RSl.form hsv
      obtain ⟨As', cs', rfl, hsf'⟩ := RSl.form hsv'
      obtain ⟨ns, hns⟩ : ∃ ns, ns = y.shapes.length := ⟨_, rfl⟩
      obtain ⟨lo, hlo⟩ : ∃ lo, lo = y.low := ⟨_, rfl⟩
      obtain ⟨hi, hhi⟩ : ∃ hi, hi = y.high := ⟨_, rfl⟩
      rw [← hns] at d3 e3 hsf hsf' hns100
      rw [← hlo] at d1 e1
      rw [← hhi] at d2 e2
      have k0 : (0 : Int) ≤ (k : Int) := by omega
      have k1 : (k : Int) < (n : Int) := by omega
      have x1 : (x.add (k * 3)).block < wr.heap.size := by rw [Addr.add_block]; omega
      have x2 : (x'.add (k * 3)).block < wr.heap.size := by rw [Addr.add_block]; omega
      have HS := Lib.hid hsf
      have HS' := Lib.hid hsf'
      have HNS := Lib.hid hns
      clear hR hR' hsv hsv' hy hns hlo hhi hsf hsf'
      go_upto_region 5 with fail
      go_cut [7, 8] (fun s7 s8 wx => ∃ p q : Nat, s7 = .pointer (some ⟨p, 0, none⟩) ∧ s8 = .pointer (some ⟨q, 0, none⟩) ∧ Hid (Blok wx p 68 [.int .i64 lo, .int .i64 hi, .slice As ns cs]) ∧ Hid (Blok wx q 68 [.int .i64 lo, .int .i64 hi, .slice As' ns cs']) ∧ Hid (Below wr.heap.size wr wx))
      case first =>
        go_region
        all_goals
          go_wp2_with fail
          go_meet
          first
            | exact ⟨wr.heap.size, wr.heap.size + 1, rfl, rfl, Lib.hid (((Blok.new wr 68 [.int .i64 lo, .int .i64 hi, .slice As ns cs]).alloc _).drewN 1), Lib.hid ((Blok.next wr _ 68 [.int .i64 lo, .int .i64 hi, .slice As' ns cs']).drewN 1), Lib.hid (((Below.refl _ _).alloc (Nat.le_refl _) _).alloc (by simp) _).drew⟩
            | exact ⟨wr.heap.size + 1, wr.heap.size, rfl, rfl, Lib.hid ((Blok.next wr _ 68 [.int .i64 lo, .int .i64 hi, .slice As ns cs]).drewN 1), Lib.hid (((Blok.new wr 68 [.int .i64 lo, .int .i64 hi, .slice As' ns cs']).alloc _).drewN 1), Lib.hid (((Below.refl _ _).alloc (Nat.le_refl _) _).alloc (by simp) _).drew⟩
      case rest =>
        obtain ⟨p, q, rfl, rfl, HP, HQ2, HBC⟩ := hcut
        have HI2 := Lib.hid (HI.out.below HBC.out)
        have p0 : wc.cell? ⟨p, 0, none⟩ = some (.int .i64 lo) := HP.out.cell 0
        have p1 : wc.cell? ⟨p, 1, none⟩ = some (.int .i64 hi) := HP.out.cell 1
        have p2 : wc.cell? ⟨p, 2, none⟩ = some (.slice As ns cs) := HP.out.cell 2
        have q0 : wc.cell? ⟨q, 0, none⟩ = some (.int .i64 lo) := HQ2.out.cell 0
        have q1 : wc.cell? ⟨q, 1, none⟩ = some (.int .i64 hi) := HQ2.out.cell 1
        have q2 : wc.cell? ⟨q, 2, none⟩ = some (.slice As' ns cs') := HQ2.out.cell 2
        clear a0 c0 d1 d2 d3 e1 e2 e3 x1 x2
        go_wp2_with fail
        go_loopw [5, 9] (fun s5 s9 wx => ∃ l d : Nat, l ≤ ns ∧ s5 = .bool true ∧ s9 = .int .i64 l ∧ wx = wc.drewN d) (fun _ s9 _ => ns - (intOf s9).toNat)
        case atStart => exact ⟨0, 0, by omega, rfl, rfl, rfl⟩
        case round =>
          obtain ⟨l, d, hl, rfl, rfl, hwx⟩ := hrel
          have HW := Lib.hid hwx
          have p2 : wr.cell? ⟨p, 2, none⟩ = some (.slice As ns cs) := by rw [hwx]; exact p2
          have q2 : wr.cell? ⟨q, 2, none⟩ = some (.slice As' ns cs') := by rw [hwx]; exact q2
          clear hwx
          by_cases hln : l < ns
          · obtain ⟨xs, rfl, hsb, hsR⟩ := HS.out (by omega)
            obtain ⟨xs', rfl, hsb', hsR'⟩ := HS'.out (by omega)
            obtain ⟨z, hz⟩ : ∃ z, y.shapes[l]? = some z := ⟨_, List.getElem?_eq_getElem (by rw [← HNS.out]; exact hln)⟩
            obtain ⟨g1, g2⟩ := hsR l z hz
            obtain ⟨h1, h2⟩ := hsR' l z hz
            have hbw := HI2.out.bel
            have g1 : wr.cell? (xs.add (l * 2)) = some (.int .u8 z.letter) := by rw [HW.out]; exact (hbw.cell (p := xs.add (l * 2)) (by rw [Addr.add_block]; exact hsb)).trans g1
            have g2 : wr.cell? (xs.add (l * 2 + 1)) = some (.int .i64 z.strokes) := by rw [HW.out]; exact (hbw.cell (p := xs.add (l * 2 + 1)) (by rw [Addr.add_block]; exact hsb)).trans g2
            have h1 : wr.cell? (xs'.add (l * 2)) = some (.int .u8 z.letter) := by rw [HW.out]; exact (hbw.cell (p := xs'.add (l * 2)) (by rw [Addr.add_block]; exact hsb')).trans h1
            have h2 : wr.cell? (xs'.add (l * 2 + 1)) = some (.int .i64 z.strokes) := by rw [HW.out]; exact (hbw.cell (p := xs'.add (l * 2 + 1)) (by rw [Addr.add_block]; exact hsb')).trans h2
            rw [← Addr.nth xs (l * 2) 0] at g2
            rw [← Addr.nth xs' (l * 2) 0] at h2
            have l0 : (0 : Int) ≤ (l : Int) := by omega
            have l1 : (l : Int) < (ns : Int) := by omega
            clear hsR hsR' hz hbw
            go_wp2_with fail
            go_quiet (fail)
            go_wp2_with fail
            exact ⟨⟨l + 1, d + nq, by omega, rfl, by go_num, by rw [HW.out, World.drewN_drewN]⟩, by simp [intOf]; omega⟩
          · obtain rfl : l = ns := by omega
            go_wp2_with fail
            exact ⟨⟨k + 1, by omega, rfl, by go_num, Lib.hid (by rw [HW.out]; exact HI2.out.drewN d)⟩, by simp [intOf]; omega⟩
    · obtain rfl : k = n := by omega
      go_wp2_with fail
      clear a0 c0
      go_loopw [5, 10] (fun s5 s10 wr => ∃ j : Nat, j ≤ m ∧ s5 = .bool true ∧ s10 = .int .i64 j ∧ Hid (SmI w wr [.slice AH k ch, .int .i64 L.worn, .int .i64 L.scr, .int .i64 L.total, .slice AQ m cq] [.slice AH' k ch', .int .i64 L.worn, .int .i64 L.scr, .int .i64 L.total, .slice AQ' m cq'])) (fun _ s10 _ => m - (intOf s10).toNat)
      case atStart => exact ⟨0, by omega, rfl, rfl, HI⟩
      case round =>
        clear HI z1 z2
        obtain ⟨j, hj, rfl, rfl, HJ⟩ := hrel
        have a4 : wr.cell? ⟨w.heap.size, 4, none⟩ = some (.slice AQ m cq) := HJ.out.one.cell 4
        have c4 : wr.cell? ⟨w.heap.size + 1, 4, none⟩ = some (.slice AQ' m cq') := HJ.out.two.cell 4
        by_cases hjm : j < m
        · obtain ⟨x, rfl, hxb, hR⟩ := HQ.out (by omega)
          obtain ⟨x', rfl, hxb', hR'⟩ := HQ'.out (by omega)
          obtain ⟨y, hy⟩ : ∃ y, L.squares[j]? = some y := ⟨_, List.getElem?_eq_getElem (by rw [← HM.out]; exact hjm)⟩
          have hns100 := HLL.out.lights y (List.mem_of_getElem? hy)
          obtain ⟨lv, d1, hlv⟩ := hR j y hy
          obtain ⟨lv', e1, hlv'⟩ := hR' j y hy
          have d1 := (HJ.out.bel.cell (p := x.add j) (by rw [Addr.add_block]; exact hxb)).trans d1
          have e1 := (HJ.out.bel.cell (p := x'.add j) (by rw [Addr.add_block]; exact hxb')).trans e1
          obtain ⟨As, cs, rfl, hsf⟩ := RSl.form hlv
          obtain ⟨As', cs', rfl, hsf'⟩ := RSl.form hlv'
          obtain ⟨ns, hns⟩ : ∃ ns, ns = y.length := ⟨_, rfl⟩
          rw [← hns] at d1 e1 hsf hsf' hns100
          have k0 : (0 : Int) ≤ (j : Int) := by omega
          have k1 : (j : Int) < (m : Int) := by omega
          have HS := Lib.hid hsf
          have HS' := Lib.hid hsf'
          have HNS := Lib.hid hns
          clear hR hR' hlv hlv' hy hns hsf hsf'
          go_wp2_with fail
          go_quiet (fail)
          go_wp2_with fail
          have HJ2 := Lib.hid (HJ.out.drewN nq)
          clear a4 c4 d1 e1
          go_loopw [5, 13] (fun s5 s13 wx => ∃ l : Nat, l ≤ ns ∧ s5 = .bool true ∧ s13 = .int .i64 l ∧ Hid (SmI w wx [.slice AH k ch, .int .i64 L.worn, .int .i64 L.scr, .int .i64 L.total, .slice (some x) m cq] [.slice AH' k ch', .int .i64 L.worn, .int .i64 L.scr, .int .i64 L.total, .slice (some x') m cq'])) (fun _ s13 _ => ns - (intOf s13).toNat)
          case atStart => exact ⟨0, by omega, rfl, rfl, HJ2⟩
          case round =>
            clear HJ2
            obtain ⟨l, hl, rfl, rfl, HL2⟩ := hrel
            by_cases hln : l < ns
            · obtain ⟨xs, rfl, hsb, hsR⟩ := HS.out (by omega)
              obtain ⟨xs', rfl, hsb', hsR'⟩ := HS'.out (by omega)
              obtain ⟨z, hz⟩ : ∃ z, y[l]? = some z := ⟨_, List.getElem?_eq_getElem (by rw [← HNS.out]; exact hln)⟩
              obtain ⟨g1, g2⟩ := hsR l z hz
              obtain ⟨h1, h2⟩ := hsR' l z hz
              have g1 := (HL2.out.bel.cell (p := xs.add (l * 2)) (by rw [Addr.add_block]; exact hsb)).trans g1
              have g2 := (HL2.out.bel.cell (p := xs.add (l * 2 + 1)) (by rw [Addr.add_block]; exact hsb)).trans g2
              have h1 := (HL2.out.bel.cell (p := xs'.add (l * 2)) (by rw [Addr.add_block]; exact hsb')).trans h1
              have h2 := (HL2.out.bel.cell (p := xs'.add (l * 2 + 1)) (by rw [Addr.add_block]; exact hsb')).trans h2
              rw [← Addr.nth xs (l * 2) 0] at g2
              rw [← Addr.nth xs' (l * 2) 0] at h2
              have l0 : (0 : Int) ≤ (l : Int) := by omega
              have l1 : (l : Int) < (ns : Int) := by omega
              clear hsR hsR' hz
              go_wp2_with fail
              go_quiet (fail)
              go_wp2_with fail
              exact ⟨⟨l + 1, by omega, rfl, by go_num, Lib.hid (HL2.out.drewN nq)⟩, by simp [intOf]; omega⟩
            · obtain rfl : l = ns := by omega
              go_wp2_with fail
              exact ⟨⟨j + 1, by omega, rfl, by go_num, HL2⟩, by simp [intOf]; omega⟩
        · obtain rfl : j = m := by omega
          go_wp2_with fail
          go_ret
          exact ⟨rfl, HJ.out.bel⟩
end
end Go.Proofs.Ythhajbgddifenaa
