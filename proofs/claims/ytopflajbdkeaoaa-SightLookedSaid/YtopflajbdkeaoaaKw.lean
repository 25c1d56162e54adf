/- SightLooked's helpers: known, of a letter that fits. -/
import Derived.Test.YtopflajbdkeaoaaSq
import Derived.Test.YtopflajbdkeaoaaLk
import Derived.Test.YtopflajbdkeaoaaCp
import Derived.Test.YtopflajbdkeaoaaRt
namespace Go.Proofs.Ytopflajbdkeaoaa
open Go.RowKit Go.Shelf

/-- The line that known was handed, in its box. -/
structure KL (w wr : World) (lb hb hc sb sc : Nat) (L : Line) : Prop where
  box : Blok wr lb 25 [.slice (some ⟨hb, 0, none⟩) L.hands.length hc, .int .i64 L.worn, .int .i64 L.scr, .int .i64 L.total, .slice (some ⟨sb, 0, none⟩) L.squares.length sc]
  hands : HandsB wr (.slice (some ⟨hb, 0, none⟩) L.hands.length hc) L.hands
  squares : SquaresB wr (.slice (some ⟨sb, 0, none⟩) L.squares.length sc) L.squares
  bel : Below w.heap.size w wr
section
variable {w wr w' : World} {lb hb hc sb sc : Nat} {L : Line}
theorem KL.below (h : KL w wr lb hb hc sb sc L) (hw : Below wr.heap.size wr w') : KL w w' lb hb hc sb sc L :=
  ⟨h.box.below hw h.box.size, h.hands.below hw, h.squares.below hw, h.bel.trans (hw.mono h.bel.size)⟩
theorem KL.alloc (h : KL w wr lb hb hc sb sc L) (o : Obj) : KL w (wr.alloc o) lb hb hc sb sc L := h.below ((Below.refl _ _).alloc (Nat.le_refl _) o)
theorem KL.put (h : KL w wr lb hb hc sb sc L) {xb : Nat} {cs : List Value} (hx : Blok wr xb 25 cs) (hne : lb ≠ xb) (hle : w.heap.size ≤ xb) (i : Nat) (u : Value) : KL w (wr.setCell ⟨xb, i, none⟩ u) lb hb hc sb sc L :=
  ⟨h.box.far (p := ⟨xb, i, none⟩) hne u, h.hands.far (p := ⟨xb, i, none⟩) hx (by decide) (by decide) u, h.squares.far (p := ⟨xb, i, none⟩) hx (by decide) (by decide) u, h.bel.setCell (p := ⟨xb, i, none⟩) hle u⟩
theorem KL.line (h : KL w wr lb hb hc sb sc L) : LineAt wr wr.heap.size (.agg #[.slice (some ⟨hb, 0, none⟩) L.hands.length hc, .int .i64 L.worn, .int .i64 L.scr, .int .i64 L.total, .slice (some ⟨sb, 0, none⟩) L.squares.length sc]) L :=
  ⟨_, _, rfl, h.hands.hands, h.squares.squares⟩
end

/-- The line that known makes. -/
structure KX (w wr : World) (xb bs cps tot : Nat) (L : Line) (H : Hand) (vq : Value) : Prop where
  box : Blok wr xb 25 [.slice (some ⟨xb + 1, 0, none⟩) 1 1, .int .i64 L.worn, .int .i64 L.scr, .int .i64 tot, vq]
  hand : Blok wr (xb + 1) 68 [.int .i64 H.low, .int .i64 H.high, .slice (some ⟨bs, 0, none⟩) H.shapes.length cps]
  shapes : shapesR wr H.shapes bs 0
  lt : bs < xb
  le : w.heap.size < xb
theorem KX.below {w wr w' : World} {xb bs cps tot : Nat} {L : Line} {H : Hand} {vq : Value} (h : KX w wr xb bs cps tot L H vq) (hw : Below wr.heap.size wr w') : KX w w' xb bs cps tot L H vq :=
  ⟨h.box.below hw h.box.size, h.hand.below hw h.hand.size, fun k x hx => ⟨bcell hw (Nat.lt_trans h.lt h.box.size) (h.shapes k x hx).1, bcell hw (Nat.lt_trans h.lt h.box.size) (h.shapes k x hx).2⟩, h.lt, h.le⟩
theorem KX.line {w wr : World} {xb bs cps : Nat} {L : Line} {H : Hand} {q n i z : Nat} {vq : Value} (h : KX w wr xb bs cps (L.total - n) L H vq) (hk : Knows L H q i z n) (hq : Squares wr wr.heap.size vq (L.without q n).squares) :
    LineAt wr wr.heap.size (.agg #[.slice (some ⟨xb + 1, 0, none⟩) 1 1, .int .i64 L.worn, .int .i64 L.scr, .int .i64 ((L.total - n : Nat) : Int), vq]) (L.without q n) := by
  refine ⟨.slice (some ⟨xb + 1, 0, none⟩) 1 1, vq, rfl, ⟨some ⟨xb + 1, 0, none⟩, 1, ?_, fun _ => ⟨xb + 1, 0, rfl, h.hand.size, fun k x hx => ?_⟩⟩, hq⟩
  · show _ = Value.slice _ L.hands.length _
    rw [hk.hand]
    rfl
  · have hx' : L.hands[k]? = some x := hx
    rw [hk.hand] at hx'
    rcases k with _ | k
    · obtain rfl : H = x := by simpa using hx'
      exact ⟨by rw [h.hand.cell]; rfl, by rw [h.hand.cell]; rfl, _, by rw [h.hand.cell]; rfl, _, _, rfl, fun _ => ⟨bs, 0, rfl, Nat.lt_trans h.lt h.box.size, h.shapes⟩⟩
    · simp at hx'
theorem SqLights.erase {w : World} {qs : List (List Light)} {lvs : List Value} (h : SqLights w qs lvs) (q : Nat) : SqLights w (qs.eraseIdx q) (lvs.eraseIdx q) := by
  refine ⟨by rw [List.length_eraseIdx, List.length_eraseIdx, h.1], fun k a b h1 h2 => ?_⟩
  rw [List.getElem?_eraseIdx] at h1 h2
  split at h1
  · rename_i hk
    rw [if_pos hk] at h2
    exact h.2 _ _ _ h1 h2
  · rename_i hk
    rw [if_neg hk] at h2
    exact h.2 _ _ _ h1 h2

theorem SqLights.one {w : World} {qs : List (List Light)} {lvs : List Value} (h : SqLights w qs lvs) : ∀ u ∈ lvs, u.oneCell' = true := by
  intro u hu
  obtain ⟨k, hk, rfl⟩ := List.mem_iff_getElem.1 hu
  rcases h.2 k (qs[k]'(by rw [← h.1]; exact hk)) lvs[k] (List.getElem?_eq_getElem _) (List.getElem?_eq_getElem hk) with ⟨e, _⟩ | ⟨b, c, cur, e, _⟩
  · rw [e]; rfl
  · rw [e]; rfl
theorem SquaresB.cells {w : World} {sb n c : Nat} {qs : List (List Light)} (h : SquaresB w (.slice (some ⟨sb, 0, none⟩) n c) qs) : ∃ lvs, SqLights w qs lvs ∧ sb < w.heap.size ∧ ∀ k u, lvs[k]? = some u → w.cell? ⟨sb, k, none⟩ = some u := by
  obtain ⟨b, c', cur, lvs, e, hb, ht, hS⟩ := h
  injection e with e1 e2 e3
  injection e1 with e1
  injection e1 with e1
  subst e1
  refine ⟨lvs, hS, hb.size, fun k u hu => ?_⟩
  have hk := (List.getElem?_eq_some_iff.1 hu).1
  rw [← ht, List.getElem?_take, if_pos (by rw [← hS.1]; exact hk)] at hu
  rw [hb.cell, hu]
theorem Src.front {w w' : World} {sb q sc : Nat} {lvs : List Value} (hc : ∀ k u, lvs[k]? = some u → w.cell? ⟨sb, k, none⟩ = some u) (hk : ∀ i u, w.cell? ⟨sb, i, none⟩ = some u → w'.cell? ⟨sb, i, none⟩ = some u) : Src w' (.slice (some ⟨sb, 0, none⟩) q sc) q (lvs.take q) :=
  .inr ⟨_, _, rfl, fun j u hj => by
    rw [addr_add, Nat.zero_add]
    rw [List.getElem?_take] at hj
    split at hj
    · exact hk _ _ (hc _ _ hj)
    · cases hj⟩
theorem Src.back {w w' : World} {sb q m sc : Nat} {lvs : List Value} (hm : lvs.length = m) (hq : q < m) (hsc : m ≤ sc) (hc : ∀ k u, lvs[k]? = some u → w.cell? ⟨sb, k, none⟩ = some u) (hk : ∀ i u, w.cell? ⟨sb, i, none⟩ = some u → w'.cell? ⟨sb, i, none⟩ = some u) :
    Src w' (.slice (if sc = q + 1 then some ⟨sb, 0, none⟩ else some ⟨sb, q + 1, none⟩) (m - (q + 1)) (sc - (q + 1))) (m - (q + 1)) (lvs.drop (q + 1)) := by
  by_cases h : sc = q + 1
  · rw [if_pos h]
    refine .inr ⟨_, _, rfl, fun j u hj => ?_⟩
    rw [List.drop_eq_nil_of_le (by omega)] at hj
    cases hj
  · rw [if_neg h]
    refine .inr ⟨_, _, rfl, fun j u hj => ?_⟩
    rw [List.getElem?_drop] at hj
    rw [addr_add]
    exact hk _ _ (hc _ _ hj)

set_option maxRecDepth 100000 in
set_option maxHeartbeats 4000000 in
theorem knownLaw (L : Line) (H : Hand) (q i z n hb hc sb sc : Nat) (w : World) (hk : Knows L H q i z n) (hh : HandsB w (.slice (some ⟨hb, 0, none⟩) L.hands.length hc) L.hands) (hs : SquaresB w (.slice (some ⟨sb, 0, none⟩) L.squares.length sc) L.squares) (hcap : L.squares.length ≤ sc) :
    Calls Try.prog 47 #[.agg #[.slice (some ⟨hb, 0, none⟩) L.hands.length hc, .int .i64 L.worn, .int .i64 L.scr, .int .i64 L.total, .slice (some ⟨sb, 0, none⟩) L.squares.length sc], .int .i64 q, .int .u8 z] w
      fun e w' => e = .returned (.tuple #[.int .i64 (manyOf (lettersOf (L.without q n))), .bool true]) ∧ Below w.heap.size w w' := by
  obtain ⟨m, hm⟩ : ∃ m, m = L.squares.length := ⟨_, rfl⟩
  have hm8 : m ≤ 8 := by rw [hm]; exact hk.ok.2.2.2.2.2.2.2.1
  have hqm : q < m := by rw [hm]; exact hk.sq
  have h1 : L.hands.length = 1 := by rw [hk.hand]; rfl
  obtain ⟨nh, hnh⟩ : ∃ nh, nh = L.hands.length := ⟨_, rfl⟩
  have hnh1 : nh = 1 := by rw [hnh, h1]
  have HK := Lib.hid hk
  have HM := Lib.hid hm
  have HNH := Lib.hid hnh
  have HH := Lib.hid hh
  have HS := Lib.hid hs
  have H1 := Lib.hid h1
  rw [← hm] at hcap
  rw [← hm, ← hnh]
  subst hnh1
  clear hm hk hh hs h1 hnh
  go_enter Try.func47, Try.ntmps47
  go_wp2_with fail
  obtain ⟨W0, hW0⟩ : ∃ W0, W0 = w.alloc (.cells #[.slice (some ⟨hb, 0, none⟩) 1 hc, .int .i64 L.worn, .int .i64 L.scr, .int .i64 L.total, .slice (some ⟨sb, 0, none⟩) m sc] 25) := ⟨_, rfl⟩
  have hkl : KL w W0 w.heap.size hb hc sb sc L := by
    have hbel : Below w.heap.size w W0 := by rw [hW0]; exact (Below.refl _ _).alloc (Nat.le_refl _) _
    refine ⟨?_, HH.out.below hbel, HS.out.below hbel, hbel⟩
    rw [← HNH.out, ← HM.out, hW0]
    exact Blok.new w 25 [.slice (some ⟨hb, 0, none⟩) 1 hc, .int .i64 L.worn, .int .i64 L.scr, .int .i64 L.total, .slice (some ⟨sb, 0, none⟩) m sc]
  have hs0 : W0.heap.size = w.heap.size + 1 := by rw [hW0]; simp
  rw [← hW0]
  have HKL := Lib.hid hkl
  clear hkl hW0 HH HS
  go_loopw [8, 9, 10] (fun b s j wr => (b = .int .i64 0 ∧ s = .bool false ∧ j = .int .i64 0 ∧ wr = W0) ∨ (b = .int .i64 (manyOf (lettersOf (L.without q n))) ∧ s = .bool true ∧ j = .int .i64 1 ∧ Hid (KL w wr w.heap.size hb hc sb sc L))) (fun _ _ j _ => 1 - (intOf j).toNat)
  case atStart => exact .inl ⟨rfl, rfl, rfl, rfl⟩
  case round =>
    rcases hrel with ⟨rfl, rfl, rfl, rfl⟩ | ⟨rfl, rfl, rfl, HE⟩
    · have c0 : wr.cell? ⟨w.heap.size, 0, none⟩ = some (.slice (some ⟨hb, 0, none⟩) 1 hc) := by rw [HKL.out.box.cell, HNH.out]; rfl
      have c1 : wr.cell? ⟨w.heap.size, 1, none⟩ = some (.int .i64 L.worn) := HKL.out.box.cell 1
      have c2 : wr.cell? ⟨w.heap.size, 2, none⟩ = some (.int .i64 L.scr) := HKL.out.box.cell 2
      have c3 : wr.cell? ⟨w.heap.size, 3, none⟩ = some (.int .i64 L.total) := HKL.out.box.cell 3
      have c4 : wr.cell? ⟨w.heap.size, 4, none⟩ = some (.slice (some ⟨sb, 0, none⟩) m sc) := by rw [HKL.out.box.cell, HM.out]; rfl
      have HCOP := Lib.hid (show Calls Try.prog 17 #[.agg #[.slice (some ⟨hb, 0, none⟩) 1 hc, .int .i64 L.worn, .int .i64 L.scr, .int .i64 L.total, .slice (some ⟨sb, 0, none⟩) m sc]] wr (CopyPost L wr) by
        have h := copyLine_any L hb hc sb sc wr HK.out.ok HKL.out.hands HKL.out.squares
        rw [← HNH.out, ← HM.out] at h
        exact h)
      go_wp2_with fail
      refine HCOP.out.mono ?_
      rintro e w1 ⟨gh, ch, gq, cq, lvs, rfl, -, -, -, -, hb1⟩
      rw [← HNH.out, ← HM.out]
      have HKL1 := Lib.hid (HKL.out.below hb1)
      have z1 : w.heap.size < w1.heap.size := HKL1.out.box.size
      have hh1 : HandsB w1 (.slice (some ⟨hb, 0, none⟩) L.hands.length hc) [H] := by rw [← HK.out.hand]; exact HKL1.out.hands
      obtain ⟨bs, cps, d1, d2, d3, hbs, hsh⟩ := hands_of_B hh1 (Below.refl _ _) 0 (by simp)
      simp only [Nat.zero_mul, Nat.zero_add, List.getElem_cons_zero] at d1 d2 d3 hsh
      have zh : hb < w1.heap.size := hh1.lt'
      have HSH := Lib.hid hsh
      have HHO := Lib.hid HK.out.hok
      obtain ⟨nS, hnS⟩ : ∃ nS, nS = H.shapes.length := ⟨_, rfl⟩
      rw [← hnS] at d3
      have hnS8 : nS ≤ 8 := by rw [hnS]; exact HHO.out.2.2.2.2.1
      have HNS := Lib.hid hnS
      have c0 : w1.cell? ⟨w.heap.size, 0, none⟩ = some (.slice (some ⟨hb, 0, none⟩) 1 hc) := by rw [HKL1.out.box.cell, HNH.out]; rfl
      have y1 : hb < w1.heap.size + 1 := by omega
      have y2 : w.heap.size < w1.heap.size + 1 := by omega
      clear c1 c2 c3 c4 hb1 hh1 hsh hnS HCOP
      go_wp2_with fail
      obtain ⟨W3, hW3⟩ : ∃ W3, W3 = (w1.alloc (.cells #[.slice (some ⟨w1.heap.size + 1, 0, none⟩) 1 1, .int .i64 L.worn, .int .i64 L.scr, .int .i64 L.total, .slice (some ⟨gq, 0, none⟩) m cq] 25)).alloc (.cells #[.int .i64 H.low, .int .i64 H.high, .slice (some ⟨bs, 0, none⟩) nS cps] 68) := ⟨_, rfl⟩
      rw [← hW3]
      have hkx : KX w W3 w1.heap.size bs cps L.total L H (.slice (some ⟨gq, 0, none⟩) m cq) := by
        have hb := ((Below.refl w1.heap.size w1).alloc (Nat.le_refl _) (.cells #[.slice (some ⟨w1.heap.size + 1, 0, none⟩) 1 1, .int .i64 L.worn, .int .i64 L.scr, .int .i64 L.total, .slice (some ⟨gq, 0, none⟩) m cq] 25)).alloc (by simp) (.cells #[.int .i64 H.low, .int .i64 H.high, .slice (some ⟨bs, 0, none⟩) nS cps] 68)
        rw [hW3]
        refine ⟨(Blok.new w1 25 [.slice (some ⟨w1.heap.size + 1, 0, none⟩) 1 1, .int .i64 L.worn, .int .i64 L.scr, .int .i64 L.total, .slice (some ⟨gq, 0, none⟩) m cq]).alloc _, ?_, fun k x hx => ⟨bcell hb hbs (HSH.out k x hx).1, bcell hb hbs (HSH.out k x hx).2⟩, hbs, z1⟩
        rw [← HNS.out]
        exact Blok.new' (by simp)
      have hkl3 : KL w W3 w.heap.size hb hc sb sc L := by rw [hW3]; exact (HKL1.out.alloc _).alloc _
      have hz3 : W3.heap.size = w1.heap.size + 1 + 1 := by rw [hW3]; simp
      have HKX := Lib.hid hkx
      have HKL3 := Lib.hid hkl3
      have HZ3 := Lib.hid hz3
      have x0 : W3.cell? ⟨w1.heap.size, 0, none⟩ = some (.slice (some ⟨w1.heap.size + 1, 0, none⟩) 1 1) := hkx.box.cell 0
      have x1 : W3.cell? ⟨w1.heap.size + 1, 2, none⟩ = some (.slice (some ⟨bs, 0, none⟩) nS cps) := by rw [hkx.hand.cell, HNS.out]; rfl
      obtain ⟨si, hsi⟩ : ∃ si, si = (H.shapes.getD i ⟨0, 0⟩).strokes := ⟨_, rfl⟩
      have HSI := Lib.hid hsi
      have hin : i < nS := by rw [HNS.out]; exact HK.out.fits.2.1
      clear hW3 hkx hkl3 hz3 HKL1 d1 d2 d3 c0 y1 y2 HSH hsi
      go_loop [12, 13] (fun s j => ∃ k : Nat, k ≤ nS ∧ j = .int .i64 k ∧ s = .int .i64 ((if i < k then si else 0 : Nat) : Int)) (fun _ j => nS - (intOf j).toNat)
      case atStart => exact ⟨0, by omega, rfl, rfl⟩
      case round =>
        obtain ⟨k, hk, rfl, rfl⟩ := hrel
        by_cases hlt : k < nS
        · have hkS : k < H.shapes.length := by rw [← HNS.out]; exact hlt
          obtain ⟨x, hx⟩ : ∃ x, x = H.shapes[k] := ⟨_, rfl⟩
          obtain ⟨s1, s2⟩ := HKX.out.shapes k x (by rw [hx]; exact List.getElem?_eq_getElem hkS)
          rw [Nat.zero_add] at s1 s2
          have HX := Lib.hid hx
          have k0 : (0 : Int) ≤ (k : Int) := by omega
          have k1 : (k : Int) < (nS : Int) := by omega
          have ex : H.shapes.getD k ⟨0, 0⟩ = x := by rw [hx]; simp [List.getD, hkS]
          by_cases hki : k = i
          · have hz : ((x.letter : Int) == (z : Int)) = true := by
              have := HK.out.letter
              rw [← hki, ex] at this
              simp [this]
            have HKI := Lib.hid hki
            have HSX := Lib.hid (show (if i < k + 1 then si else 0) = x.strokes by rw [if_pos (by omega), HSI.out, ← hki, ex])
            clear hx ex hki
            go_wp2_with fail
            go_round
            case rel => exact ⟨k + 1, by omega, by go_num, by rw [HSX.out]⟩
            case measure => simp [intOf]; omega
          · have hz : ((x.letter : Int) == (z : Int)) = false := by
              rw [beq_eq_false_iff_ne]
              intro e
              have e2 : x.letter = z := by omega
              exact hki (letter_uniq HHO.out HK.out.fits.2.1 hkS (by rw [ex, e2, HK.out.letter]))
            have HSX := Lib.hid (show (if i < k + 1 then si else 0) = if i < k then si else 0 by
              by_cases h : i < k
              · rw [if_pos h, if_pos (by omega)]
              · rw [if_neg h, if_neg (by omega)])
            clear hx ex hki
            go_wp2_with fail
            go_round
            case rel => exact ⟨k + 1, by omega, by go_num, by rw [HSX.out]⟩
            case measure => simp [intOf]; omega
        · obtain rfl : k = nS := by omega
          rw [if_pos hin]
          have hsi1 : 1 ≤ si := by
            have h2 := HHO.out.2.2.2.2.2.1 _ (List.getElem_mem HK.out.fits.2.1)
            have e : H.shapes.getD i ⟨0, 0⟩ = H.shapes[i]'HK.out.fits.2.1 := by simp [List.getD, HK.out.fits.2.1]
            rw [HSI.out, e]
            exact h2.2.2.1
          have hs0' : ((si : Int) == 0) = false := by rw [beq_eq_false_iff_ne]; omega
          go_wp2_with fail
          have c4 : W3.cell? ⟨w.heap.size, 4, none⟩ = some (.slice (some ⟨sb, 0, none⟩) m sc) := by rw [HKL3.out.box.cell, HM.out]; rfl
          have q0 : (0 : Int) ≤ (q : Int) := by omega
          have q1 : (q : Int) ≤ (sc : Int) := by omega
          have q2 : (q : Int) + 1 ≤ (m : Int) := by omega
          have q3 : (0 : Int) ≤ (q : Int) + 1 := by omega
          have eq1 : IntKind.i64.wrap ((q : Int) + 1) = (q : Int) + 1 := IntWalk.i64_in _ (by omega)
          clear x0 x1
          obtain ⟨lvs, hsq, zsb, hcl⟩ := HKL3.out.squares.cells
          obtain ⟨iq, hiq, hiqz0, hiqz1, hiqz2⟩ := info_parts info_cplights
          have HIQ := Lib.hid hiq
          have HIQ0 := Lib.hid hiqz0
          have HIQ1 := Lib.hid hiqz1
          have HIQ2 := Lib.hid hiqz2
          have HSQ := Lib.hid hsq
          have HCL := Lib.hid hcl
          have HLL := Lib.hid (show lvs.length = m by rw [hsq.1, HM.out])
          have zb : w.heap.size < W3.heap.size := HKL3.out.box.size
          have zx : w1.heap.size < W3.heap.size := HKX.out.box.size
          clear hsq hcl hiq hiqz0 hiqz1 hiqz2
          have hS : (fun W' : World => W'.cell? ⟨w.heap.size, 4, none⟩ = some (.slice (some ⟨sb, 0, none⟩) m sc)) W3.drew := c4
          refine wp_region_t (fun W' : World => W'.cell? ⟨w.heap.size, 4, none⟩ = some (.slice (some ⟨sb, 0, none⟩) m sc)) (fun j => j == 13) (by kernel_rfl) ?_
          refine wpAnyT_take (i := 1) (v := ?_) (by simp only [List.getElem?_toArray, List.getElem?_cons_zero, List.getElem?_cons_succ]; rfl) (by kernel_rfl) (by kernel_rfl) (by kernel_rfl) (by kernel_rfl) (by exact fun _ _ _ h => h) (Or.inl ⟨by rfl, ?hy1⟩) hS ?rest1
          case hy1 => (intro W' hSW; go_simp; try with_reducible rfl)
          try simp only [Act.put, List.setIfInBounds_toArray, List.set_cons_zero, List.set_cons_succ]
          refine wpAnyT_take (i := 2) (v := ?_) (by simp only [List.getElem?_toArray, List.getElem?_cons_zero, List.getElem?_cons_succ]; rfl) (by kernel_rfl) (by kernel_rfl) (by kernel_rfl) (by kernel_rfl) (by exact fun _ _ _ h => h) (Or.inl ⟨by rfl, ?hy2⟩) hS ?rest2
          case hy2 => (intro W' hSW; go_simp; try with_reducible rfl)
          try simp only [Act.put, List.setIfInBounds_toArray, List.set_cons_zero, List.set_cons_succ]
          refine wpAnyT_take (i := 3) (v := ?_) (by simp only [List.getElem?_toArray, List.getElem?_cons_zero, List.getElem?_cons_succ]; rfl) (by kernel_rfl) (by kernel_rfl) (by kernel_rfl) (by kernel_rfl) (by exact fun _ _ _ h => h) (Or.inl ⟨by rfl, ?hy3⟩) hS ?rest3
          case hy3 => (intro W' hSW; go_simp; try with_reducible rfl)
          try simp only [Act.put, List.setIfInBounds_toArray, List.set_cons_zero, List.set_cons_succ]
          refine wpAnyT_take (i := 4) (v := ?_) (by simp only [List.getElem?_toArray, List.getElem?_cons_zero, List.getElem?_cons_succ]; rfl) (by kernel_rfl) (by kernel_rfl) (by kernel_rfl) (by kernel_rfl) (by exact fun _ _ _ h => h) (Or.inl ⟨by rfl, ?hy4⟩) hS ?rest4
          case hy4 => (intro W' hSW; go_simp; try with_reducible rfl)
          try simp only [Act.put, List.setIfInBounds_toArray, List.set_cons_zero, List.set_cons_succ]
          refine wpAnyT_take (i := 6) (v := ?_) (by simp only [List.getElem?_toArray, List.getElem?_cons_zero, List.getElem?_cons_succ]; rfl) (by kernel_rfl) (by kernel_rfl) (by kernel_rfl) (by kernel_rfl) (by exact fun _ _ _ h => h) (Or.inl ⟨by rfl, ?hy6⟩) hS ?rest6
          case hy6 => (intro W' hSW; go_simp; try with_reducible rfl)
          try simp only [Act.put, List.setIfInBounds_toArray, List.set_cons_zero, List.set_cons_succ]
          refine wpAnyT_take (i := 7) (v := ?_) (by simp only [List.getElem?_toArray, List.getElem?_cons_zero, List.getElem?_cons_succ]; rfl) (by kernel_rfl) (by kernel_rfl) (by kernel_rfl) (by kernel_rfl) (by exact fun _ _ _ h => h) (Or.inl ⟨by rfl, ?hy7⟩) hS ?rest7
          case hy7 => (intro W' hSW; go_simp; try with_reducible rfl)
          try simp only [Act.put, List.setIfInBounds_toArray, List.set_cons_zero, List.set_cons_succ]
          refine wpAnyT_take (i := 8) (v := ?_) (by simp only [List.getElem?_toArray, List.getElem?_cons_zero, List.getElem?_cons_succ]; rfl) (by kernel_rfl) (by kernel_rfl) (by kernel_rfl) (by kernel_rfl) (by exact fun _ _ _ h => h) (Or.inl ⟨by rfl, ?hy8⟩) hS ?rest8
          case hy8 => (intro W' hSW; go_simp; try with_reducible rfl)
          try simp only [Act.put, List.setIfInBounds_toArray, List.set_cons_zero, List.set_cons_succ]
          refine wpAnyT_take (i := 9) (v := ?_) (by simp only [List.getElem?_toArray, List.getElem?_cons_zero, List.getElem?_cons_succ]; rfl) (by kernel_rfl) (by kernel_rfl) (by kernel_rfl) (by kernel_rfl) (by exact fun _ _ _ h => h) (Or.inl ⟨by rfl, ?hy9⟩) hS ?rest9
          case hy9 => (intro W' hSW; go_simp; try with_reducible rfl)
          try simp only [Act.put, List.setIfInBounds_toArray, List.set_cons_zero, List.set_cons_succ]
          refine wpAnyT_take (i := 10) (v := ?_) (by simp only [List.getElem?_toArray, List.getElem?_cons_zero, List.getElem?_cons_succ]; rfl) (by kernel_rfl) (by kernel_rfl) (by kernel_rfl) (by kernel_rfl) (by exact fun _ _ _ h => h) (Or.inl ⟨by rfl, ?hy10⟩) hS ?rest10
          case hy10 => (intro W' hSW; go_simp; try with_reducible rfl)
          try simp only [Act.put, List.setIfInBounds_toArray, List.set_cons_zero, List.set_cons_succ]
          refine wpAnyT_ready (rs := [0]) (by kernel_rfl) (by simp) ?_
          refine AllReadyT.cons (by simp only [List.getElem?_toArray, List.getElem?_cons_zero]; rfl) (fun K hK => ?_) AllReadyT.nil
          go_simp
          have hbO := (Below.refl W3.heap.size W3.drew).alloc (Nat.le_refl _) (.cells #[] 39)
          refine hK.out _ _ (fun _ => bcell hbO zb c4) ?_
          clear hK K
          try simp only [Act.put, List.setIfInBounds_toArray, List.set_cons_zero, List.set_cons_succ]
          refine wpAnyT_ready (rs := [5]) (by kernel_rfl) (by simp) ?_
          refine AllReadyT.cons (by simp only [List.getElem?_toArray, List.getElem?_cons_zero, List.getElem?_cons_succ]; rfl) (fun K hK => ?_) AllReadyT.nil
          refine step_append_src rfl (.tmp 65) (.tmp 69) 23 (by rfl) W3.heap.size 39 iq (.slice none 0 0) 1 24 Try.underlying23 HIQ.out HIQ0.out HIQ1.out HIQ2.out rfl (by decide) (.slice (some ⟨W3.heap.size, 0, none⟩) 0 0) 0 [] (by rfl) (own_lit1 W3.drew _ _) (.slice (some ⟨sb, 0, none⟩) q sc) q (lvs.take q) (by rfl) (Src.front HCL.out fun i u hu => bcell hbO zsb hu) (by rw [List.length_take, HLL.out]; omega) (fun u hu => HSQ.out.one u (List.mem_of_mem_take hu)) (by unfold maxLen; omega) (by omega) (by simp) (W3.heap.size + 1) (by simp) ?_
          intro A5 c5 w5 hown5 hgrow5 hat5
          rw [Nat.zero_add, List.nil_append] at hown5
          rw [Nat.zero_add]
          have hb5 : Below W3.heap.size W3 w5 := (((Below.refl _ W3).drew.alloc (Nat.le_refl _) _).grown hgrow5 (by simp) (fun j e => by have e' : some W3.heap.size = some j := e; injection e' with e'; exact Nat.le_of_eq e'))
          try go_simp
          refine hK.out _ _ (fun _ => bcell hb5 zb c4) ?_
          clear hK K hbO
          try simp only [Act.put, List.setIfInBounds_toArray, List.set_cons_zero, List.set_cons_succ]
          refine wpAnyT_ready (rs := [11]) (by kernel_rfl) (by simp) ?_
          refine AllReadyT.cons (by simp only [List.getElem?_toArray, List.getElem?_cons_zero, List.getElem?_cons_succ]; rfl) (fun K hK => ?_) AllReadyT.nil
          refine step_append_src rfl (.tmp 70) (.tmp 75) 23 (by rfl) W3.heap.size 39 iq (.slice none 0 0) 1 24 Try.underlying23 HIQ.out HIQ0.out HIQ1.out HIQ2.out rfl (by decide) (.slice A5 q c5) q (lvs.take q) (by rfl) hown5 _ (m - (q + 1)) (lvs.drop (q + 1)) (by rfl) (Src.back HLL.out hqm hcap HCL.out fun i u hu => bcell hb5 zsb hu) (by rw [List.length_drop, HLL.out]; omega) (fun u hu => HSQ.out.one u (List.mem_of_mem_drop hu)) (by unfold maxLen; omega) (by omega) hb5.size _ rfl ?_
          intro A6 c6 w6 hown6 hgrow6 hat6
          have hb6 : Below W3.heap.size W3 w6 := hb5.grown hgrow6 hb5.size (fun j e => (hown5.lt j e).1)
          have x4 : w6.cell? ⟨w1.heap.size, 4, none⟩ = some (.slice (some ⟨gq, 0, none⟩) m cq) := bcell hb6 zx (HKX.out.box.cell 4)
          have f4 : w6.frozen? ⟨w1.heap.size, 4, none⟩ = false := (HKX.out.box.below hb6 zx).free 4
          try go_simp
          refine hK.out _ _ (fun _ => bcell hb6 zb c4) ?_
          clear hK K hS
          try simp only [Act.put, List.setIfInBounds_toArray, List.set_cons_zero, List.set_cons_succ]
          have hS6 : (fun W' : World => W'.cell? ⟨w.heap.size, 4, none⟩ = some (.slice (some ⟨sb, 0, none⟩) m sc)) w6 := bcell hb6 zb c4
          refine wpAnyT_take (i := 12) (v := ?_) (by simp only [List.getElem?_toArray, List.getElem?_cons_zero, List.getElem?_cons_succ]; rfl) (by kernel_rfl) (by kernel_rfl) (by kernel_rfl) (by kernel_rfl) (by exact fun _ _ _ h => h) (Or.inl ⟨by rfl, ?hy12⟩) hS6 ?rest12
          case hy12 => (intro W' hSW; go_simp; try with_reducible rfl)
          try simp only [Act.put, List.setIfInBounds_toArray, List.set_cons_zero, List.set_cons_succ]
          refine wpAnyT_ready (rs := [13]) (by kernel_rfl) (by simp) ?_
          refine AllReadyT.cons (by simp only [List.getElem?_toArray, List.getElem?_cons_zero, List.getElem?_cons_succ]; rfl) (fun K hK => ?_) AllReadyT.nil
          go_simp
          refine hK.out _ _ (fun h => by simp at h) ?_
          clear hK K hS6
          try simp only [Act.put, List.setIfInBounds_toArray, List.set_cons_zero, List.set_cons_succ]
          refine wpAnyT_done (by kernel_rfl) ?_ _
          obtain ⟨A75, hA75⟩ : ∃ A75 : Option Addr, A75 = (if sc = q + 1 then some ⟨sb, 0, none⟩ else some ⟨sb, q + 1, none⟩) := ⟨_, rfl⟩
          rw [← hA75]
          clear hA75
          obtain ⟨m1, hm1⟩ : ∃ m1, m1 = q + (m - (q + 1)) := ⟨_, rfl⟩
          rw [← hm1] at hown6
          rw [← hm1]
          have hm1' : m1 + 1 = m := by omega
          clear hm1
          obtain ⟨W7, hW7⟩ : ∃ W7, W7 = w6.setCell ⟨w1.heap.size, 4, none⟩ (.slice A6 (m1) c6) := ⟨_, rfl⟩
          rw [← hW7]
          have hne1 : w.heap.size ≠ w1.heap.size := by omega
          have hbx6 := HKX.out.box.below hb6 zx
          have hkl7 : KL w W7 w.heap.size hb hc sb sc L := by
            rw [hW7]; exact (HKL3.out.below hb6).put hbx6 hne1 (by omega) 4 _
          have hkx7 : KX w W7 w1.heap.size bs cps L.total L H (.slice A6 (m1) c6) := by
            have h6 := HKX.out.below hb6
            rw [hW7]
            refine ⟨h6.box.put 4 _, h6.hand.far (p := ⟨w1.heap.size, 4, none⟩) (by simp) _, fun a x hx => ?_, h6.lt, h6.le⟩
            obtain ⟨g1, g2⟩ := h6.shapes a x hx
            have hne : ¬ bs = w1.heap.size := Nat.ne_of_lt h6.lt
            exact ⟨(World.cell?_setCell_other _ _ _ _ (by simp)).trans g1, (World.cell?_setCell_other _ _ _ _ (by simp)).trans g2⟩
          have hown7 : W7.ownsRow W3.heap.size 39 1 (.slice A6 (m1) c6) (m1) (lvs.take q ++ lvs.drop (q + 1)) := by
            rw [hW7]; exact own_far hown6 (p := ⟨w1.heap.size, 4, none⟩) (own_ne_row hown6 hbx6 (by decide)) _
          have hsq7 : SqLights W7 L.squares lvs := by rw [hW7]; exact (HSQ.out.below hb6).far (p := ⟨w1.heap.size, 4, none⟩) hbx6 (by decide) _
          have HKL7 := Lib.hid hkl7
          have HKX7 := Lib.hid hkx7
          have HOWN7 := Lib.hid hown7
          have HSQ7 := Lib.hid hsq7
          have z7 : w.heap.size < W7.heap.size := hkl7.box.size
          have zx7 : w1.heap.size < W7.heap.size := hkx7.box.size
          clear hb5 hb6 x4 f4 hbx6 hkl7 hkx7 hown7 hsq7 hown5 hown6 hgrow5 hgrow6 hat5 hat6 hW7 c4 HKL3 HKX HSQ HCL zsb
          have c0 : W7.cell? ⟨w.heap.size, 0, none⟩ = some (.slice (some ⟨hb, 0, none⟩) 1 hc) := by rw [HKL7.out.box.cell, HNH.out]; rfl
          have c1 : W7.cell? ⟨w.heap.size, 1, none⟩ = some (.int .i64 L.worn) := HKL7.out.box.cell 1
          have c2 : W7.cell? ⟨w.heap.size, 2, none⟩ = some (.int .i64 L.scr) := HKL7.out.box.cell 2
          have c3 : W7.cell? ⟨w.heap.size, 3, none⟩ = some (.int .i64 L.total) := HKL7.out.box.cell 3
          have c4 : W7.cell? ⟨w.heap.size, 4, none⟩ = some (.slice (some ⟨sb, 0, none⟩) m sc) := by rw [HKL7.out.box.cell, HM.out]; rfl
          have hnT : n ≤ L.total := HK.out.le
          have hT40 : L.total ≤ 40 := HK.out.ok.2.2.2.2.2.1
          have HSQC := Lib.hid (show Calls Try.prog 73 #[.agg #[.slice (some ⟨hb, 0, none⟩) 1 hc, .int .i64 L.worn, .int .i64 L.scr, .int .i64 L.total, .slice (some ⟨sb, 0, none⟩) m sc], .int .i64 q, .int .i64 si] W7 (fun e w' => e = .returned (.int .i64 n) ∧ Below W7.heap.size W7 w') by
            have hl := HKL7.out.line
            rw [← HNH.out, ← HM.out] at hl
            have hok := HK.out.alone_ok
            have hmk := HK.out.marks
            rw [← HSI.out] at hok hmk
            exact sqCost_yes _ L W7 hl q (by rw [← HM.out]; exact hqm) (by rw [← HM.out]; exact hm8) si n hok hmk (by omega))
          go_wp2_with fail
          refine HSQC.out.mono ?_
          rintro e w8 ⟨rfl, hb8⟩
          have HKX8 := Lib.hid (HKX7.out.below hb8)
          have HKL8 := Lib.hid (HKL7.out.below hb8)
          have HOWN8 := Lib.hid (own_below HOWN7.out hb8 (Nat.le_refl _))
          have HSQ8 := Lib.hid (HSQ7.out.below hb8)
          have zx8 : w1.heap.size < w8.heap.size := HKX8.out.box.size
          have x3 : w8.cell? ⟨w1.heap.size, 3, none⟩ = some (.int .i64 L.total) := HKX8.out.box.cell 3
          have fx3 : w8.frozen? ⟨w1.heap.size, 3, none⟩ = false := HKX8.out.box.free 3
          have n0 : ¬ ((n : Int) < 0) := by omega
          have n1 : ¬ ((L.total : Int) < (n : Int)) := by omega
          clear hb8 HSQC HKX7 HKL7 HOWN7 HSQ7 c0 c1 c2 c3 c4
          have x0 : w8.cell? ⟨w1.heap.size, 0, none⟩ = some (.slice (some ⟨w1.heap.size + 1, 0, none⟩) 1 1) := HKX8.out.box.cell 0
          have x1 : w8.cell? ⟨w1.heap.size, 1, none⟩ = some (.int .i64 L.worn) := HKX8.out.box.cell 1
          have x2 : w8.cell? ⟨w1.heap.size, 2, none⟩ = some (.int .i64 L.scr) := HKX8.out.box.cell 2
          have x4 : w8.cell? ⟨w1.heap.size, 4, none⟩ = some (.slice A6 m1 c6) := HKX8.out.box.cell 4
          obtain ⟨W9, hW9⟩ : ∃ W9, W9 = w8.setCell ⟨w1.heap.size, 3, none⟩ (.int .i64 ((L.total : Int) - (n : Int))) := ⟨_, rfl⟩
          have et : ((L.total - n : Nat) : Int) = (L.total : Int) - (n : Int) := by omega
          have hkl9 : KL w W9 w.heap.size hb hc sb sc L := by rw [hW9]; exact HKL8.out.put HKX8.out.box hne1 (by omega) 3 _
          have hkx9 : KX w W9 w1.heap.size bs cps (L.total - n) L H (.slice A6 m1 c6) := by
            have h6 := HKX8.out
            rw [hW9, ← et]
            refine ⟨h6.box.put 3 _, h6.hand.far (p := ⟨w1.heap.size, 3, none⟩) (by simp) _, fun a x hx => ?_, h6.lt, h6.le⟩
            obtain ⟨g1, g2⟩ := h6.shapes a x hx
            have hne : ¬ bs = w1.heap.size := Nat.ne_of_lt h6.lt
            exact ⟨(World.cell?_setCell_other _ _ _ _ (by simp)).trans g1, (World.cell?_setCell_other _ _ _ _ (by simp)).trans g2⟩
          have hown9 : W9.ownsRow W3.heap.size 39 1 (.slice A6 m1 c6) m1 (lvs.take q ++ lvs.drop (q + 1)) := by
            rw [hW9]; exact own_far HOWN8.out (p := ⟨w1.heap.size, 3, none⟩) (own_ne_row HOWN8.out HKX8.out.box (by decide)) _
          have hsq9 : SqLights W9 L.squares lvs := by rw [hW9]; exact HSQ8.out.far (p := ⟨w1.heap.size, 3, none⟩) HKX8.out.box (by decide) _
          have HKL9 := Lib.hid hkl9
          have HKX9 := Lib.hid hkx9
          have HOWN9 := Lib.hid hown9
          have HSQ9 := Lib.hid hsq9
          have HW9 := Lib.hid hW9
          have ET := Lib.hid et
          clear hkl9 hkx9 hown9 hsq9 hW9 et HKX8 HKL8 HOWN8 HSQ8
          by_cases hm0 : m1 = 0
          · subst hm0
            have HE := Lib.hid (show manyOf (lettersOf (L.without q n)) = 0 by
              unfold lettersOf
              rw [HK.out.len, ← HM.out, ← hm1']
              rfl)
            clear hm1'
            go_wp2_with fail
            rw [← HW9.out]
            go_roundw
            case rel => exact .inr ⟨by rw [HE.out]; rfl, rfl, rfl, HKL9⟩
            case measure => simp [intOf]
          · have t0 : ((m1 : Int) == 0) = false := by rw [beq_eq_false_iff_ne]; omega
            have HM1 := Lib.hid hm1'
            have h2 : 2 ≤ L.squares.length := by rw [← HM.out]; omega
            have hsB : SquaresB W9 (.slice A6 m1 c6) (L.without q n).squares := by
              have h1 : lvs.take q ++ lvs.drop (q + 1) = lvs.eraseIdx q := (List.eraseIdx_eq_take_drop_succ lvs q).symm
              have h3 := HOWN9.out
              rw [h1] at h3
              exact SquaresB.of_own h3 (by rw [HK.out.len, ← HM.out]; omega) (by omega) (HSQ9.out.erase q)
            have HLET := Lib.hid (show Calls Try.prog 21 #[.agg #[.slice (some ⟨w1.heap.size + 1, 0, none⟩) 1 1, .int .i64 L.worn, .int .i64 L.scr, .int .i64 ((L.total : Int) - (n : Int)), .slice A6 m1 c6]] W9 (fun e w' => ∃ u, e = .returned (.tuple #[u, .int .i64 0]) ∧ w'.ownsRow W9.heap.size 9 1 u m1 ((lettersOf (L.without q n)).map Value.string) ∧ Below W9.heap.size W9 w') by
              have hl := HKX9.out.line HK.out hsB.squares
              rw [ET.out] at hl
              have h4 := letters_some Unit _ (L.without q n) W9 (HK.out.ok' h2) hl HK.out.hands
              rw [HK.out.len, ← HM.out, show m - 1 = m1 by omega] at h4
              exact h4)
            clear hsB h2
            go_wp2_with fail
            rw [← HW9.out]
            refine HLET.out.mono ?_
            rintro e w10 ⟨u, rfl, hu, hb10⟩
            have HKL10 := Lib.hid (HKL9.out.below hb10)
            obtain ⟨gu, cu, rfl, -, -⟩ := hu.form (by omega)
            have hll : (lettersOf (L.without q n)).length = m1 := by
              have := HM1.out
              unfold lettersOf
              rw [List.length_map, List.length_range, HK.out.len, ← HM.out]
              omega
            have HMANY := Lib.hid (show Calls Try.prog 74 #[.slice (some ⟨gu, 0, none⟩) m1 cu] w10 (fun e w' => e = .returned (.int .i64 (manyOf (lettersOf (L.without q n)))) ∧ w' = w10) by
              have h5 := many_any gu cu (lettersOf (L.without q n)) w10 (by rw [hll]; omega) (fun t ht => by
                obtain ⟨p, -, rfl⟩ := List.mem_map.1 ht
                exact orderText_le _) (fun k x hx => by
                have hk := (List.getElem?_eq_some_iff.1 hx).1
                rw [hu.cellAt k (by omega), List.getElem?_map, hx]
                rfl)
              rw [hll] at h5
              exact h5)
            clear hu hb10 hll HLET
            go_wp2_with fail
            refine HMANY.out.mono ?_
            rintro e w11 ⟨rfl, rfl⟩
            go_wp2_with fail
            refine ⟨.inr ⟨?_, rfl, rfl, HKL10⟩, by simp [intOf]⟩
            by_cases h0 : 0 < manyOf (lettersOf (L.without q n))
            · rw [if_pos h0]
            · rw [if_neg h0, show manyOf (lettersOf (L.without q n)) = 0 by omega]
              rfl
    · have c0 : wr.cell? ⟨w.heap.size, 0, none⟩ = some (.slice (some ⟨hb, 0, none⟩) 1 hc) := by rw [HE.out.box.cell, HNH.out]; rfl
      clear HKL
      go_wp2_with fail
      go_ret2
      exact ⟨rfl, HE.out.bel⟩
end Go.Proofs.Ytopflajbdkeaoaa
