/- Years and Firsts. · Earlier. -/
import Derived.Test.YtcbdcdpoackplaaLy
namespace Go.Proofs.Ytcbdcdpoackplaa
section
open Go.RowKit Dt

set_option maxRecDepth 100000 in
set_option maxHeartbeats 1000000 in
theorem years_yes (d : Dat) (hd : d.Ok) (hyes : d.all ≠ []) (v : Value) (B0 : Nat) (w : World) (hB0 : B0 ≤ w.heap.size) (hv : DatAt w B0 v d) :
    Calls Try.prog 12 #[v] w (SpanListPost (spanList d 1 d.stones) w) := by
  have HS := Lib.hid (fun w' (hb : Below w.heap.size w w') => spans_yes d hd hyes 1 d.stones (by have := hd.stones; omega) v B0 w' (Nat.le_trans hB0 hb.size) (hv.keep (Same.of_below (hb.mono hB0)) (Nat.le_refl _)))
  obtain ⟨ve, vn, rfl, ⟨Ae, ce, rfl, -⟩, -⟩ := hv
  go_enter Try.func12, Try.ntmps12
  go_wp2_with fail
  have b0 : Below w.heap.size w (w.alloc (.cells #[.int .i64 d.stones, .slice Ae d.eras.length ce, vn] 28)) := (Below.refl _ w).alloc (Nat.le_refl _) _
  refine (HS.out _ b0).mono ?_
  intro e w2 hp
  obtain ⟨v2, rfl, hs, hb2⟩ := hp
  have HS := Lib.hid hs
  have HB := Lib.hid hb2
  clear hs hb2
  go_wp2_with fail
  go_ret2
  exact ⟨v2, rfl, HS.out.mono b0.size, b0.trans (HB.out.mono b0.size)⟩
set_option maxRecDepth 100000 in
set_option maxHeartbeats 1000000 in
theorem years_no (d : Dat) (hd : d.Ok) (hno : d.all = []) (v : Value) (B0 : Nat) (w : World) (hB0 : B0 ≤ w.heap.size) (hv : DatAt w B0 v d) :
    Calls Try.prog 12 #[v] w (NoSpans w) := by
  have HS := Lib.hid (fun w' (hb : Below w.heap.size w w') => spans_no d hd hno 1 (d.stones : Int) v B0 w' (Nat.le_trans hB0 hb.size) (hv.keep (Same.of_below (hb.mono hB0)) (Nat.le_refl _)))
  obtain ⟨ve, vn, rfl, ⟨Ae, ce, rfl, -⟩, -⟩ := hv
  go_enter Try.func12, Try.ntmps12
  go_wp2_with fail
  have b0 : Below w.heap.size w (w.alloc (.cells #[.int .i64 d.stones, .slice Ae d.eras.length ce, vn] 28)) := (Below.refl _ w).alloc (Nat.le_refl _) _
  refine (HS.out _ b0).mono ?_
  intro e w2 hp
  obtain ⟨rfl, hb2⟩ := hp
  have HB := Lib.hid hb2
  clear hb2
  go_wp2_with fail
  go_ret2
  exact ⟨rfl, b0.trans (HB.out.mono b0.size)⟩
set_option maxRecDepth 100000 in
set_option maxHeartbeats 1000000 in
theorem firsts_yes (d : Dat) (hd : d.Ok) (hyes : d.all ≠ []) (v : Value) (B0 : Nat) (w : World) (hB0 : B0 ≤ w.heap.size) (hv : DatAt w B0 v d) :
    Calls Try.prog 13 #[v] w (SpanListPost (spanList d 7 d.eras.length) w) := by
  have HS := Lib.hid (fun w' (hb : Below w.heap.size w w') => spans_yes d hd hyes 7 d.eras.length (by have := hd.eras.1; omega) v B0 w' (Nat.le_trans hB0 hb.size) (hv.keep (Same.of_below (hb.mono hB0)) (Nat.le_refl _)))
  obtain ⟨ve, vn, rfl, ⟨Ae, ce, rfl, -⟩, -⟩ := hv
  obtain ⟨n, hn⟩ : ∃ n, n = d.eras.length := ⟨_, rfl⟩
  have n3 : n ≤ 3 := by rw [hn]; exact hd.eras.1
  rw [← hn] at HS ⊢
  clear hn
  go_enter Try.func13, Try.ntmps13
  go_wp2_with fail
  have b0 : Below w.heap.size w (w.alloc (.cells #[.int .i64 d.stones, .slice Ae n ce, vn] 28)) := (Below.refl _ w).alloc (Nat.le_refl _) _
  refine (HS.out _ b0).mono ?_
  intro e w2 hp
  obtain ⟨v2, rfl, hs, hb2⟩ := hp
  have HS := Lib.hid hs
  have HB := Lib.hid hb2
  clear hs hb2
  go_wp2_with fail
  go_ret2
  exact ⟨v2, rfl, HS.out.mono b0.size, b0.trans (HB.out.mono b0.size)⟩
set_option maxRecDepth 100000 in
set_option maxHeartbeats 1000000 in
theorem firsts_no (d : Dat) (hd : d.Ok) (hno : d.all = []) (v : Value) (B0 : Nat) (w : World) (hB0 : B0 ≤ w.heap.size) (hv : DatAt w B0 v d) :
    Calls Try.prog 13 #[v] w (NoSpans w) := by
  have HS := Lib.hid (fun w' (hb : Below w.heap.size w w') => spans_no d hd hno 7 (d.eras.length : Int) v B0 w' (Nat.le_trans hB0 hb.size) (hv.keep (Same.of_below (hb.mono hB0)) (Nat.le_refl _)))
  obtain ⟨ve, vn, rfl, ⟨Ae, ce, rfl, -⟩, -⟩ := hv
  obtain ⟨n, hn⟩ : ∃ n, n = d.eras.length := ⟨_, rfl⟩
  have n3 : n ≤ 3 := by rw [hn]; exact hd.eras.1
  rw [← hn] at HS ⊢
  clear hn
  go_enter Try.func13, Try.ntmps13
  go_wp2_with fail
  have b0 : Below w.heap.size w (w.alloc (.cells #[.int .i64 d.stones, .slice Ae n ce, vn] 28)) := (Below.refl _ w).alloc (Nat.le_refl _) _
  refine (HS.out _ b0).mono ?_
  intro e w2 hp
  obtain ⟨rfl, hb2⟩ := hp
  have HB := Lib.hid hb2
  clear hb2
  go_wp2_with fail
  go_ret2
  exact ⟨rfl, b0.trans (HB.out.mono b0.size)⟩
end
section
open Go.RowKit Dt

theorem ret_pair {x y : Int} (h : x = y) : Ending.returned (.tuple #[.int .i64 x, .int .i64 0]) = Ending.returned (.tuple #[.int .i64 y, .int .i64 0]) := by rw [h]
set_option maxRecDepth 100000 in
set_option maxHeartbeats 1000000 in
theorem earlier_yes (d : Dat) (hd : d.Ok) (hyes : d.all ≠ []) (a b : Nat) (ha : a < d.stones) (hb : b < d.stones) (v : Value) (B0 : Nat) (w : World) (hB0 : B0 ≤ w.heap.size) (hv : DatAt w B0 v d) :
    Calls Try.prog 18 #[v, .int .i64 a, .int .i64 b] w fun e w' => e = .returned (.tuple #[.int .i64 (d.laterV (1 + a) (1 + b)), .int .i64 0]) ∧ Below w.heap.size w w' := by
  have hs6 := hd.stones.2
  have HCK := Lib.hid (fun w' (hb : Below w.heap.size w w') => check_ok d hd v B0 w' (Nat.le_trans hB0 hb.size) (hv.keep (Same.of_below (hb.mono hB0)) (Nat.le_refl _)))
  have HAL := Lib.hid (fun w' (hb : Below w.heap.size w w') => allOf_any d hd v B0 w' (Nat.le_trans hB0 hb.size) (hv.keep (Same.of_below (hb.mono hB0)) (Nat.le_refl _)))
  have HO1 := Lib.hid (fun w => outside_is (outB_no (n := (a : Int)) (lo := 0) (hi := (d.stones : Int) - 1) (by omega) (by omega)) w)
  have HO2 := Lib.hid (fun w => outside_is (outB_no (n := (b : Int)) (lo := 0) (hi := (d.stones : Int) - 1) (by omega) (by omega)) w)
  have HYES := Lib.hid hyes
  have HD := Lib.hid hd
  obtain ⟨ve, vn, rfl, -, -⟩ := hv
  clear hyes
  go_enter Try.func18, Try.ntmps18
  go_wp2_with fail
  obtain ⟨W, hW⟩ : ∃ W, W = ((w.alloc (.cells #[.int .i64 d.stones, ve, vn] 28)).alloc (.cells #[.int .i64 a] 3)).alloc (.cells #[.int .i64 b] 3) := ⟨_, rfl⟩
  have b0 : Below w.heap.size w W := by rw [hW]; exact (((Below.refl _ w).alloc (Nat.le_refl _) _).alloc (by simp) _).alloc (by simp; omega) _
  have k0 : Blok W w.heap.size 28 [.int .i64 d.stones, ve, vn] := by rw [hW]; exact ((Blok.new w _ _).alloc _).alloc _
  have k1 : Blok W (w.heap.size + 1) 3 [.int .i64 a] := by
    rw [hW]
    have := (Blok.new (w.alloc (.cells #[.int .i64 d.stones, ve, vn] 28)) 3 [.int .i64 a]).alloc (.cells #[.int .i64 b] 3)
    simpa only [World.size_alloc] using this
  have k2 : Blok W (w.heap.size + 1 + 1) 3 [.int .i64 b] := by
    rw [hW]
    have := Blok.new ((w.alloc (.cells #[.int .i64 d.stones, ve, vn] 28)).alloc (.cells #[.int .i64 a] 3)) 3 [.int .i64 b]
    simpa only [World.size_alloc] using this
  rw [← hW]
  clear hW
  refine (HCK.out _ b0).mono ?_
  rintro e w1 ⟨rfl, hb1⟩
  have b1 := b0.trans (hb1.mono b0.size)
  have k0 := k0.below hb1 k0.size
  have k1 := k1.below hb1 k1.size
  have k2 := k2.below hb1 k2.size
  have c0 := k0.cell 0
  have c1 := k0.cell 1
  have c2 := k0.cell 2
  have c3 := k1.cell 0
  have c4 := k2.cell 0
  simp at c0 c1 c2 c3 c4
  have HB1 := Lib.hid b1
  have HK1 := Lib.hid k1
  have HK2 := Lib.hid k2
  clear b0 b1 hb1 k0 k1 k2
  go_wp2_with (first
    | (go_at_call 39; (with_reducible refine (HO1.out _).mono ?_); rintro e w1 ⟨rfl, rfl⟩)
    | (go_at_call 39; (with_reducible refine (HO2.out _).mono ?_); rintro e w1 ⟨rfl, rfl⟩)
    | (go_at_call 41; (with_reducible refine (HAL.out _ HB1.out).mono ?_); rintro e w2 hp; obtain ⟨v9, rfl, hm, hb2⟩ := hp; obtain ⟨A9, c9, rfl, hle, hA⟩ := hm; obtain ⟨n, hn⟩ : ∃ n, n = d.all.length := ⟨_, rfl⟩; have n0 : 0 < n := (by rw [hn]; exact List.length_pos_iff.2 HYES.out); have HM : Hid (MatsAt w2 w1.heap.size (.slice A9 n c9) d.all) := Lib.hid ⟨A9, c9, by rw [hn], hle, hA⟩; rw [← hn]; have d21 : ((n : Int) == 0) = false := (by simp; omega); have HB2 := Lib.hid hb2; clear hle hA hn hb2 c0 c1 c2 c3 c4))
  obtain ⟨q, hq⟩ : ∃ q, q = joined (spanIn (1 + a) (1 + b)) d.all := ⟨_, rfl⟩
  have hj := joined_any 48 #[.pointer (some ⟨w.heap.size + 1, 0, none⟩), .pointer (some ⟨w.heap.size + 1 + 1, 0, none⟩)] (spanIn (1 + a) (1 + b)) d.all HYES.out (all_len HD.out) (enters_of Try.func48 (by kernel_rfl) rfl) w1.heap.size (.slice A9 n c9) w2 HM.out
    (fun M hM w' hb' => tells_earlier M (all_fine HD.out M hM).1 (all_fine HD.out M hM).2 a b (by omega) (by omega) _ _ w'
      ((HK1.out.below HB2.out HK1.out.size).below hb' (Nat.lt_of_lt_of_le HK1.out.size HB2.out.size)) ((HK2.out.below HB2.out HK2.out.size).below hb' (Nat.lt_of_lt_of_le HK2.out.size HB2.out.size)))
  rw [← hq] at hj
  refine hj.mono ?_
  clear hj
  rintro e w3 ⟨rfl, hb3⟩
  have hbA : Below w.heap.size w w3 := HB1.out.trans ((HB2.out.mono HB1.out.size).trans (hb3.mono (Nat.le_trans HB1.out.size HB2.out.size)))
  have HBA := Lib.hid hbA
  have HQ := Lib.hid hq
  clear hb3 hbA hq
  unfold pairV
  go_wp2_with (go_at_call 45; refine (verdict_any _ _ _).mono ?_; rintro e w4 ⟨rfl, rfl⟩)
  all_goals
    go_ret2
    refine ⟨ret_pair ?_, HBA.out.alloc HBA.out.size _⟩
    have hq := HQ.out
    unfold Dat.laterV
    rw [← hq]
    first
      | (rw [if_pos (by omega)]; rfl)
      | (rw [if_neg (by omega), if_pos (by omega)]; rfl)
      | (rw [if_neg (by omega), if_neg (by omega)]; rfl)
end
end Go.Proofs.Ytcbdcdpoackplaa
