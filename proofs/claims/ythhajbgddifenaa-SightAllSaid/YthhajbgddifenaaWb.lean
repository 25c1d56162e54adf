/- SightAll's helpers: walk. -/
import Derived.Test.YthhajbgddifenaaWa
namespace Go.Proofs.Ythhajbgddifenaa
open Go.RowKit Go.Shelf

theorem way_bound {L : Line} {S : List Shape} {n : Nat} {x : Way} (h : WayOk L S n x) : x.2 ≤ 99 * n := by
  have key : ∀ k, k ≤ n → sumTo L S x.1 k ≤ 99 * k := by
    intro k
    induction k with
    | zero => intro _; simp [sumTo]
    | succ k ih =>
      intro hk
      have h1 := ih (by omega)
      have h2 := (h.lt k (by omega)).2
      rw [sumTo_succ]
      omega
  rw [h.sum]
  exact key n (Nat.le_refl _)
set_option maxRecDepth 100000 in
set_option maxHeartbeats 4000000 in
theorem walk_any (L : Line) (hL : Slim L) (hand : Nat) (H : Hand) (hH : L.hands[hand]? = some H) (v : Value) (W : World) (hv : LineAt W W.heap.size v L) (fb gl : Nat) : ∀ d n : Nat, n + d = L.squares.length → ∀ (x : Way), WayOk L H.shapes n x → ∀ (wr : World) (f : Found), WalkI W wr fb gl L.squares.length f →
    Calls Try.prog 41 #[v, .int .i64 hand, .string (bytesOf H.shapes x.1), .int .i64 x.2, .pointer (some ⟨fb, 0, none⟩)] wr fun e w' => e = .returned (.tuple #[]) ∧ WalkI W w' fb gl L.squares.length (f.adds L.total H.shapes hand (ext L H.shapes d x)) ∧ Kt wr w' := by
  intro d
  induction d with
  | zero =>
    intro n hn x hx wr f hI
    obtain rfl : n = L.squares.length := by omega
    exact walk_end L hL hand H hH v W.heap.size x hx W wr fb gl f (hv.keep (Same.of_below hI.bel) (Nat.le_refl _)) hI
  | succ d ih =>
    intro n hn x hx wr f hI
    have hh2 : hand < L.hands.length := (List.getElem?_eq_some_iff.1 hH).1
    have hl2 : L.hands.length ≤ 2 := hL.hands
    have hm3 : L.squares.length ≤ 3 := hL.squares
    have hS := hL.shapes H (List.mem_of_getElem? hH)
    have hnq : n < L.squares.length := by omega
    have h300 := way_bound hx
    have h300 : x.2 ≤ 300 := by omega
    have HV := Lib.hid hv
    obtain ⟨vh, vs, rfl, hhx, hqx⟩ := id hv
    obtain ⟨A, c, rfl, hhx⟩ := hhx
    obtain ⟨AQ, cQ, rfl, -⟩ := hqx
    obtain ⟨hb, ho, rfl, hbW, hR⟩ := hhx (by omega)
    obtain ⟨-, -, sv, d2, hSh⟩ := hR hand H hH
    obtain ⟨As, cs, rfl, hSh⟩ := hSh
    obtain ⟨s, hs⟩ : ∃ s, s = bytesOf H.shapes x.1 := ⟨_, rfl⟩
    have hsz : s.size = n := by rw [hs]; unfold bytesOf; rw [strOf_size, List.length_map, hx.len]
    obtain ⟨m, hm⟩ : ∃ m, m = L.squares.length := ⟨_, rfl⟩
    obtain ⟨nh, hnh⟩ : ∃ nh, nh = L.hands.length := ⟨_, rfl⟩
    obtain ⟨nS, hnS⟩ : ∃ nS, nS = H.shapes.length := ⟨_, rfl⟩
    rw [← hm] at hm3 hI hnq
    rw [← hnh] at hl2 hh2
    rw [← hnS] at hSh d2
    rw [← hs, ← hm]
    have h3S : nS ≤ 3 := by rw [hnS]; exact hS.1
    have HS := Lib.hid hs
    have HM := Lib.hid hm
    have HX := Lib.hid hx
    have HI := Lib.hid hI
    have HSZ := Lib.hid hsz
    have HNS := Lib.hid hnS
    have HNH := Lib.hid hnh
    have HSH := Lib.hid hSh
    have HIH := Lib.hid ih
    have HH := Lib.hid hH
    have h16 := hS.2
    have HS16 := Lib.hid h16
    have e0 : ((s.size : Int) == (m : Int)) = false := by rw [hsz, beq_eq_false_iff_ne]; omega
    have D2 := Lib.hid d2
    have hs3 : s.size ≤ 3 := by omega
    clear hs hm hx hI hsz hnS hnh hSh ih hH h16 hv d2 hR hhx hS
    rw [← HNH.out]
    go_enter Try.func41, Try.ntmps41
    go_wp2_with fail
    obtain ⟨W0, hW0⟩ : ∃ W0, W0 = wr.alloc (.cells #[.slice (some ⟨hb, ho, none⟩) nh c, .int .i64 L.worn, .int .i64 L.scr, .int .i64 L.total, .slice AQ m cQ] 25) := ⟨_, rfl⟩
    have HBOX := Lib.hid (show Blok W0 wr.heap.size 25 [.slice (some ⟨hb, ho, none⟩) nh c, .int .i64 L.worn, .int .i64 L.scr, .int .i64 L.total, .slice AQ m cQ] by rw [hW0]; exact Blok.new _ _ _)
    have HI0 := Lib.hid (show WalkI W W0 fb gl m f by rw [hW0]; exact HI.out.below ((Below.refl _ _).alloc (Nat.le_refl _) _))
    have HK0 := Lib.hid (show Kt wr W0 by rw [hW0]; exact (Kt.refl wr).alloc _)
    obtain ⟨bx, hbx⟩ : ∃ bx, bx = wr.heap.size := ⟨_, rfl⟩
    rw [← hW0, ← hbx]
    rw [← hbx] at HBOX
    clear hW0 HI hbx
    go_loopw [12] (fun sk wx => ∃ k : Nat, k ≤ nS ∧ sk = .int .i64 k ∧ Hid (WalkI W wx fb gl m (f.adds L.total H.shapes hand (extTo L H.shapes d x k))) ∧ Hid (Kt W0 wx)) (fun sk _ => nS - (intOf sk).toNat)
    case atStart => exact ⟨0, by omega, rfl, HI0, Lib.hid (Kt.refl _)⟩
    case round =>
      clear HI0
      obtain ⟨k, hk, rfl, HJ, HKJ⟩ := hrel
      have HB := Lib.hid (HKJ.out.keep _ _ _ HBOX.out (by decide) (by decide) (by decide))
      have zb := HB.out.size
      have b0 : wr.cell? ⟨bx, 0, none⟩ = some (.slice (some ⟨hb, ho, none⟩) nh c) := HB.out.cell 0
      have b1 : wr.cell? ⟨bx, 1, none⟩ = some (.int .i64 L.worn) := HB.out.cell 1
      have b2 : wr.cell? ⟨bx, 2, none⟩ = some (.int .i64 L.scr) := HB.out.cell 2
      have b3 : wr.cell? ⟨bx, 3, none⟩ = some (.int .i64 L.total) := HB.out.cell 3
      have b4 : wr.cell? ⟨bx, 4, none⟩ = some (.slice AQ m cQ) := HB.out.cell 4
      have d2 := bcell HJ.out.bel hbW D2.out
      by_cases hks : k < nS
      · obtain ⟨sb, so, rfl, hsW, hsR⟩ := HSH.out (by omega)
        obtain ⟨y, hy⟩ : ∃ y, H.shapes[k]? = some y := ⟨_, List.getElem?_eq_getElem (by rw [← HNS.out]; exact hks)⟩
        obtain ⟨g1, g2⟩ := hsR k y hy
        have g1 := bcell HJ.out.bel hsW g1
        have g2 := bcell HJ.out.bel hsW g2
        have hy16 := HS16.out y (List.mem_of_getElem? hy)
        have HY := Lib.hid hy
        have i0 : (0 : Int) ≤ (hand : Int) := by omega
        have i1 : (hand : Int) < (nh : Int) := by omega
        have k0 : (0 : Int) ≤ (k : Int) := by omega
        have k1 : (k : Int) < (nS : Int) := by omega
        clear hy hsR
        obtain ⟨mk, hmk⟩ : ∃ mk, mk = mkAt L H.shapes n k := ⟨_, rfl⟩
        have hmk99 : mk ≤ 99 := by rw [hmk]; exact sqmTo_le _ _ _ _ _
        have HSQ := Lib.hid (show Calls Try.prog 72 #[.agg #[.slice (some ⟨hb, ho, none⟩) nh c, .int .i64 L.worn, .int .i64 L.scr, .int .i64 L.total, .slice AQ m cQ], .int .i64 s.size, .int .i64 y.strokes] (wr.alloc (.cells #[.int .u8 y.letter, .int .i64 y.strokes] 86)) (fun e w' => e = .returned (.int .i64 mk) ∧ Below (wr.alloc (.cells #[.int .u8 y.letter, .int .i64 y.strokes] 86)).heap.size (wr.alloc (.cells #[.int .u8 y.letter, .int .i64 y.strokes] 86)) w') by
          have hnq' : n < L.squares.length := by rw [← HM.out]; exact hnq
          have hl := HV.out.keep (B' := (wr.alloc (.cells #[.int .u8 y.letter, .int .i64 y.strokes] 86)).heap.size) (Same.of_below (HJ.out.bel.alloc HJ.out.bel.size (.cells #[.int .u8 y.letter, .int .i64 y.strokes] 86))) (by have := HJ.out.bel.size; rw [World.size_alloc]; omega)
          have h := squareMarks_any _ L _ hl n hnq' (by have := hL.squares; omega) y.strokes hy16 ((hL.ok.2.2.2.2.2.2.2.2 _ (List.getElem_mem hnq')).1) hL.ok.2.2.2.1 hL.ok.2.2.2.2.1
          have e : sqm L.worn L.scr (L.squares[n]'hnq') y.strokes = mk := by
            rw [hmk]
            unfold mkAt
            have e1 : L.squares.getD n [] = L.squares[n] := by simp [List.getD, hnq']
            have e2 : H.shapes.getD k ⟨0, 0⟩ = y := by simp [List.getD, HY.out]
            rw [e1, e2]
          rw [e, ← HSZ.out, ← HNH.out, ← HM.out] at h
          exact h)
        have HMK := Lib.hid hmk
        clear hmk
        go_wp2_with fail
        refine HSQ.out.mono ?_
        rintro e w2 ⟨rfl, hb2⟩
        have HJ2 := Lib.hid ((HJ.out.below ((Below.refl _ _).alloc (Nat.le_refl _) (.cells #[.int .u8 y.letter, .int .i64 y.strokes] 86))).below hb2)
        have HKJ2 := Lib.hid ((HKJ.out.alloc (.cells #[.int .u8 y.letter, .int .i64 y.strokes] 86)).trans (Kt.of_below hb2))
        have HSHP := Lib.hid (show Blok w2 wr.heap.size 86 [.int .u8 y.letter, .int .i64 y.strokes] from (Blok.new wr 86 [.int .u8 y.letter, .int .i64 y.strokes]).below hb2 (by rw [World.size_alloc]; omega))
        have HB2 := Lib.hid (HKJ2.out.keep _ _ _ HBOX.out (by decide) (by decide) (by decide))
        clear hb2 b0 b1 b2 b3 b4 g1 g2 d2 zb
        by_cases hm99 : mk < 99
        · have zb := HB2.out.size
          have b0 : w2.cell? ⟨bx, 0, none⟩ = some (.slice (some ⟨hb, ho, none⟩) nh c) := HB2.out.cell 0
          have b1 : w2.cell? ⟨bx, 1, none⟩ = some (.int .i64 L.worn) := HB2.out.cell 1
          have b2 : w2.cell? ⟨bx, 2, none⟩ = some (.int .i64 L.scr) := HB2.out.cell 2
          have b3 : w2.cell? ⟨bx, 3, none⟩ = some (.int .i64 L.total) := HB2.out.cell 3
          have b4 : w2.cell? ⟨bx, 4, none⟩ = some (.slice AQ m cQ) := HB2.out.cell 4
          have s0 : w2.cell? ⟨wr.heap.size, 0, none⟩ = some (.int .u8 y.letter) := HSHP.out.cell 0
          obtain ⟨t, ht⟩ : ∃ t, t = strOfNums [(y.letter : Int)] := ⟨_, rfl⟩
          have ht1 : t.size ≤ 1 := by rw [ht, strOfNums_size]; simp
          have hconv := run_convert_bytes_arg (P := Try.prog) (w2.alloc (.cells #[.int .u8 y.letter] 5)) 88 5 Try.underlying88 Try.underlying5 w2.heap.size 0 1 1 [(y.letter : Int)] rfl (fun i hi => by
            obtain rfl : i = 0 := by omega
            exact (Blok.new w2 5 [.int .u8 y.letter]).cell 0) 9 Try.underlying9
          rw [← ht] at hconv
          have HT := Lib.hid ht
          have HIH2 := Lib.hid (show Calls Try.prog 41 #[.agg #[.slice (some ⟨hb, ho, none⟩) nh c, .int .i64 L.worn, .int .i64 L.scr, .int .i64 L.total, .slice AQ m cQ], .int .i64 hand, .string (s ++ t), .int .i64 ((x.2 : Int) + (mk : Int)), .pointer (some ⟨fb, 0, none⟩)] (w2.alloc (.cells #[.int .u8 y.letter] 5)) (fun e w' => e = .returned (.tuple #[]) ∧ WalkI W w' fb gl m (f.adds L.total H.shapes hand (extTo L H.shapes d x (k + 1))) ∧ Kt (w2.alloc (.cells #[.int .u8 y.letter] 5)) w') by
            have hk' : k < H.shapes.length := by rw [← HNS.out]; exact hks
            have h := HIH.out (n + 1) (by omega) (x.1 ++ [k], x.2 + mk) (by rw [HMK.out]; exact HX.out.snoc hk' (by rw [← HMK.out]; exact hm99)) (w2.alloc (.cells #[.int .u8 y.letter] 5)) (f.adds L.total H.shapes hand (extTo L H.shapes d x k)) (by rw [← HM.out]; exact HJ2.out.below ((Below.refl _ _).alloc (Nat.le_refl _) (.cells #[.int .u8 y.letter] 5)))
            have e1 : extTo L H.shapes d x (k + 1) = extTo L H.shapes d x k ++ ext L H.shapes d (x.1 ++ [k], x.2 + mk) := by rw [extTo_succ, HX.out.len, ← HMK.out, if_pos hm99]
            have e2 : bytesOf H.shapes (x.1 ++ [k]) = s ++ t := by
              have e3 : byteAt H.shapes k = UInt8.ofNat y.letter := by unfold byteAt; rw [show H.shapes.getD k ⟨0, 0⟩ = y by simp [List.getD, HY.out]]
              rw [HT.out, HS.out]
              apply ByteArray.ext
              apply Array.toList_inj.1
              rw [ByteArray.data_append, Array.toList_append, strOfNums_data]
              show (x.1 ++ [k]).map (byteAt H.shapes) = x.1.map (byteAt H.shapes) ++ _
              rw [List.map_append, List.map_singleton, e3]
              rfl
            rw [e2, ← HNH.out, ← HM.out, ← Found.adds_append, ← e1] at h
            exact h)
          clear ht HIH
          go_wp2_with fail
          refine HIH2.out.mono ?_
          rintro e w4 ⟨rfl, hI4, hK4⟩
          have HI4 := Lib.hid hI4
          have HK4 := Lib.hid ((HKJ2.out.alloc (.cells #[.int .u8 y.letter] 5)).trans hK4)
          clear hI4 hK4 HIH2 hconv b0 b1 b2 b3 b4 s0
          go_wp2_with fail
          exact ⟨⟨k + 1, by omega, by go_num, HI4, HK4⟩, by simp [intOf]; omega⟩
        · have HEX := Lib.hid (show extTo L H.shapes d x (k + 1) = extTo L H.shapes d x k by rw [extTo_succ, HX.out.len, ← HMK.out, if_neg hm99, List.append_nil])
          go_wp2_with fail
          exact ⟨⟨k + 1, by omega, by go_num, Lib.hid (by rw [HEX.out]; exact HJ2.out), HKJ2⟩, by simp [intOf]; omega⟩
      · obtain rfl : k = nS := by omega
        go_wp2_with fail
        have hfin : WalkI W wr fb gl m (f.adds L.total H.shapes hand (ext L H.shapes (d + 1) x)) := by
          have h := HJ.out
          rw [HNS.out] at h
          exact h
        refine bodyPost_end (v := .tuple #[]) ?_ ?_ ⟨rfl, hfin, HK0.out.trans HKJ.out⟩
        · simp [results, Try.results41, go_sem]
        · rfl
end Go.Proofs.Ythhajbgddifenaa
