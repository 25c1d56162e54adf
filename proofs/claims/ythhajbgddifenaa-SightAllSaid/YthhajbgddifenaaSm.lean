/- SightAll's helpers: squareMarks. -/
import Derived.Test.YthhajbgddifenaaAm
import Derived.Test.YthhajbgddifenaaLq
import Derived.Deep.QuietTactic
import Derived.BigQuiet
namespace Go.Proofs.Ythhajbgddifenaa
open Go.RowKit Go.Shelf

/-- How many of the first k strokes the one set has and the other one does not. -/
def moreTo (s v k : Nat) : Nat := ((List.range k).filter fun i => hasBit s i && !hasBit v i).length
theorem moreTo_yes {s v k : Nat} (h1 : hasBit s k = true) (h2 : hasBit v k = false) : moreTo s v (k + 1) = moreTo s v k + 1 := by simp [moreTo, List.range_succ, List.filter_append, h1, h2]
theorem moreTo_no {s v k : Nat} (h : (hasBit s k && !hasBit v k) = false) : moreTo s v (k + 1) = moreTo s v k := by
  unfold moreTo
  rw [List.range_succ, List.filter_append]
  simp [h]
theorem moreTo_le (s v k : Nat) : moreTo s v k ≤ k := by
  have := List.length_filter_le (fun i => hasBit s i && !hasBit v i) (List.range k)
  simpa [moreTo] using this
theorem moreTo_pc : ∀ s v : Fin 16, moreTo s.val v.val 10 = pc (diff s.val v.val) := by decide +kernel
set_option maxHeartbeats 1000000 in
theorem marked_any (s v : Nat) (w : World) (hs : s < 16) (hv : v < 16) :
    Calls Try.prog 85 #[.int .i64 s, .int .i64 v] w fun e w' => e = .returned (.tuple #[.int .i64 (pc (diff s v)), .int .i64 (pc (diff v s))]) ∧ Below w.heap.size w w' := by
  have H1 := Lib.hid (moreTo_pc ⟨s, hs⟩ ⟨v, hv⟩)
  have H2 := Lib.hid (moreTo_pc ⟨v, hv⟩ ⟨s, hs⟩)
  go_enter Try.func85, Try.ntmps85
  go_wp2_with fail
  go_loopw [6, 7, 8] (fun a b i wr => ∃ k : Nat, k ≤ 10 ∧ i = .int .i64 k ∧ a = .int .i64 (moreTo s v k) ∧ b = .int .i64 (moreTo v s k) ∧ Below w.heap.size w wr) (fun _ _ i _ => 10 - (intOf i).toNat)
  case atStart => exact ⟨0, by omega, rfl, rfl, rfl, Below.refl _ _⟩
  case round =>
    obtain ⟨k, hk, rfl, rfl, rfl, hb⟩ := hrel
    have l1 := moreTo_le s v k
    have l2 := moreTo_le v s k
    have HB := Lib.hid hb
    clear hb
    by_cases hlt : k < 10
    · have b1 := bit_of s k (by omega)
      have b2 := bit_of v k (by omega)
      cases c1 : hasBit s k <;> cases c2 : hasBit v k
      all_goals
        rw [c1] at b1
        rw [c2] at b2
        have C1 := Lib.hid c1
        have C2 := Lib.hid c2
        clear c1 c2
        simp only [if_true, if_false, Bool.false_eq_true] at b1 b2
        go_wp2_with fail
        go_quiet (fail)
        go_wp2_with fail
      · exact ⟨⟨k + 1, by omega, by go_num, by rw [moreTo_no (by rw [C1.out, C2.out]; rfl)], by rw [moreTo_no (by rw [C1.out, C2.out]; rfl)], below_drewN HB.out nq⟩, by simp [intOf]; omega⟩
      · exact ⟨⟨k + 1, by omega, by go_num, by rw [moreTo_no (by rw [C1.out, C2.out]; rfl)], by rw [moreTo_yes C2.out C1.out]; go_num, below_drewN HB.out nq⟩, by simp [intOf]; omega⟩
      · exact ⟨⟨k + 1, by omega, by go_num, by rw [moreTo_yes C1.out C2.out]; go_num, by rw [moreTo_no (by rw [C1.out, C2.out]; rfl)], below_drewN HB.out nq⟩, by simp [intOf]; omega⟩
      · exact ⟨⟨k + 1, by omega, by go_num, by rw [moreTo_no (by rw [C1.out, C2.out]; rfl)], by rw [moreTo_no (by rw [C1.out, C2.out]; rfl)], below_drewN HB.out nq⟩, by simp [intOf]; omega⟩
    · obtain rfl : k = 10 := by omega
      have e1 : moreTo s v 10 = pc (diff s v) := H1.out
      have e2 : moreTo v s 10 = pc (diff v s) := H2.out
      rw [e1, e2]
      clear e1 e2 l1 l2
      go_wp2_with fail
      go_ret2
      exact ⟨rfl, HB.out⟩

theorem int_beq (a b : Nat) : ((a : Int) == (b : Int)) = (a == b) := by
  rw [Bool.eq_iff_iff, beq_iff_eq, beq_iff_eq]
  omega
def fitsTo' (q : List Light) (v k : Nat) : Bool := fitsV (q.take k) v
theorem fitsTo_succ' {q : List Light} {v k : Nat} {x : Light} (hx : q[k]? = some x) : fitsTo' q v (k + 1) = (fitsTo' q v k && ((v &&& x.shows) == x.seen)) := by
  unfold fitsTo' fitsV
  obtain ⟨hk, e⟩ := List.getElem?_eq_some_iff.1 hx
  rw [List.take_succ_eq_append_getElem hk, List.all_append, e]
  simp
theorem fitsTo_all' (q : List Light) (v : Nat) : fitsTo' q v q.length = fitsV q v := by unfold fitsTo'; rw [List.take_length]
set_option maxRecDepth 100000 in
set_option maxHeartbeats 2000000 in
theorem squareMarks_any (v : Value) (L : Line) (w : World) (hv : LineAt w w.heap.size v L) (q : Nat) (hq : q < L.squares.length) (hm8 : L.squares.length ≤ 8) (s : Nat) (hs : s < 16) (h4 : (L.squares[q]'hq).length ≤ 4) (hw : L.worn ≤ 10) (hsc : L.scr ≤ 10) :
    Calls Try.prog 72 #[v, .int .i64 q, .int .i64 s] w fun e w' => e = .returned (.int .i64 (sqm L.worn L.scr (L.squares[q]'hq) s)) ∧ Below w.heap.size w w' := by
  obtain ⟨vh, vs, rfl, hh', hsq⟩ := hv
  obtain ⟨A, c, rfl, -⟩ := hh'
  obtain ⟨AQ, cQ, rfl, hsq⟩ := hsq
  obtain ⟨b, o, rfl, hb, hR⟩ := hsq (by omega)
  obtain ⟨lv, hlv, hlt⟩ := hR q _ (List.getElem?_eq_getElem hq)
  obtain ⟨qq, hqq⟩ : ∃ qq, qq = L.squares[q] := ⟨_, rfl⟩
  rw [← hqq] at hlt h4 ⊢
  obtain ⟨Al, cl, rfl, hlts⟩ := hlt
  have HLTS := Lib.hid hlts
  have q0 : (0 : Int) ≤ (q : Int) := by omega
  have q1 : (q : Int) < (L.squares.length : Int) := by omega
  obtain ⟨nl, hnq⟩ : ∃ nl, nl = qq.length := ⟨_, rfl⟩
  rw [← hnq] at hlv h4 HLTS
  have HNQ := Lib.hid hnq
  clear hsq hR hlts hqq hnq
  go_enter Try.func72, Try.ntmps72
  go_wp2_with fail
  obtain ⟨W0, hW0⟩ : ∃ W0, W0 = w.alloc (.cells #[.slice A L.hands.length c, .int .i64 L.worn, .int .i64 L.scr, .int .i64 L.total, .slice (some ⟨b, o, none⟩) L.squares.length cQ] 25) := ⟨_, rfl⟩
  have hB := Blok.new w 25 [.slice A L.hands.length c, .int .i64 L.worn, .int .i64 L.scr, .int .i64 L.total, .slice (some ⟨b, o, none⟩) L.squares.length cQ]
  have hb0 : Below w.heap.size w W0 := by rw [hW0]; exact (Below.refl _ _).alloc (Nat.le_refl _) _
  have c1 : W0.cell? ⟨w.heap.size, 1, none⟩ = some (.int .i64 L.worn) := by rw [hW0]; exact hB.cell 1
  have c2 : W0.cell? ⟨w.heap.size, 2, none⟩ = some (.int .i64 L.scr) := by rw [hW0]; exact hB.cell 2
  have c4 : W0.cell? ⟨w.heap.size, 4, none⟩ = some (.slice (some ⟨b, o, none⟩) L.squares.length cQ) := by rw [hW0]; exact hB.cell 4
  have c5 : W0.cell? ⟨b, o + q, none⟩ = some (.slice Al nl cl) := bcell hb0 hb hlv
  have z0 : w.heap.size < W0.heap.size := by rw [hW0]; simp
  rw [← hW0]
  have HB0 := Lib.hid hb0
  have C1 := Lib.hid c1
  have C2 := Lib.hid c2
  have C4 := Lib.hid c4
  have C5 := Lib.hid c5
  clear hW0 hB hb0 hlv c1 c2 c4 c5
  go_loopw [7, 8] (fun bs vi wr => ∃ n : Nat, n ≤ 16 ∧ vi = .int .i64 n ∧ bs = .int .i64 (sqmTo L.worn L.scr qq s n) ∧ Below W0.heap.size W0 wr) (fun _ vi _ => 16 - (intOf vi).toNat)
  case atStart => exact ⟨0, by omega, rfl, rfl, Below.refl _ _⟩
  case round =>
    obtain ⟨n, hn, rfl, rfl, hb⟩ := hrel
    have HB := Lib.hid hb
    have hle := sqmTo_le L.worn L.scr qq s n
    clear hb
    by_cases hlt : n < 16
    · go_wp2_with fail
      obtain ⟨wo, rfl⟩ : ∃ wo : World, wo = wr := ⟨_, rfl⟩
      go_loopw [9, 10] (fun fb ki wx => ∃ k : Nat, k ≤ nl ∧ ki = .int .i64 k ∧ fb = .bool (fitsTo' qq n k) ∧ Below W0.heap.size W0 wx) (fun _ ki _ => nl - (intOf ki).toNat)
      case atStart => exact ⟨0, by omega, rfl, rfl, HB.out⟩
      case round =>
        obtain ⟨k, hk, rfl, rfl, hbx⟩ := hrel
        have HBX := Lib.hid hbx
        have c4 : wr.cell? ⟨w.heap.size, 4, none⟩ = some (.slice (some ⟨b, o, none⟩) L.squares.length cQ) := bcell hbx z0 C4.out
        have c5 : wr.cell? ⟨b, o + q, none⟩ = some (.slice Al nl cl) := bcell hbx (by omega) C5.out
        clear hbx
        by_cases hkn : k < nl
        · obtain ⟨bl, ol, rfl, hbl, hlr⟩ := HLTS.out (by omega)
          obtain ⟨x, hx⟩ : ∃ x, qq[k]? = some x := ⟨_, List.getElem?_eq_getElem (by rw [← HNQ.out]; exact hkn)⟩
          obtain ⟨d1, d2⟩ := hlr k x hx
          have e1 : wr.cell? ⟨bl, ol + k * 2, none⟩ = some (.int .i64 x.shows) := bcell HBX.out (by omega) (bcell HB0.out hbl d1)
          have e2 : wr.cell? ⟨bl, ol + k * 2 + 1, none⟩ = some (.int .i64 x.seen) := bcell HBX.out (by omega) (bcell HB0.out hbl d2)
          have hsn := fitsTo_succ' (v := n) hx
          have HSN := Lib.hid hsn
          have ea := and_lights n x.shows (by omega)
          have k0 : (0 : Int) ≤ (k : Int) := by omega
          have k1 : (k : Int) < (nl : Int) := by omega
          clear hlr hx d1 d2 hsn
          cases cf : fitsTo' qq n k
          · have CF := Lib.hid cf
            clear cf
            go_wp2_with fail
            go_quiet (fail)
            go_wp2_with fail
            exact ⟨⟨k + 1, by omega, by go_num, by rw [HSN.out, CF.out]; rfl, below_drewN HBX.out nq⟩, by simp [intOf]; omega⟩
          · have CF := Lib.hid cf
            clear cf
            go_wp2_with fail
            go_quiet (fail)
            go_wp2_with fail
            exact ⟨⟨k + 1, by omega, by go_num, by rw [HSN.out, CF.out, Bool.true_and, int_beq], below_drewN HBX.out nq⟩, by simp [intOf]; omega⟩
        · obtain rfl : k = nl := by omega
          have ef : fitsTo' qq n k = fitsV qq n := by rw [HNQ.out]; exact fitsTo_all' qq n
          rw [ef]
          clear ef
          go_wp2_with fail
          refine (marked_any s n _ hs hlt).mono ?_
          rintro e w9 ⟨rfl, hb9⟩
          clear c4 c5
          have HB9 := Lib.hid (HBX.out.trans (hb9.mono HBX.out.size))
          have c1 : w9.cell? ⟨w.heap.size, 1, none⟩ = some (.int .i64 L.worn) := bcell HB9.out z0 C1.out
          have c2 : w9.cell? ⟨w.heap.size, 2, none⟩ = some (.int .i64 L.scr) := bcell HB9.out z0 C2.out
          clear hb9
          have HAT := Lib.hid (show sqmAt L.worn L.scr qq s n = if fitsV qq n = true ∧ pc (diff s n) ≤ L.worn ∧ pc (diff n s) ≤ L.scr then pc (diff s n) + pc (diff n s) else 99 from rfl)
          have HSU := Lib.hid (sqmTo_succ L.worn L.scr qq s n)
          have p1 := pc_le (diff s n) (Nat.lt_trans (diff_lt s n 4 hs) (by decide))
          have p2 := pc_le (diff n s) (Nat.lt_trans (diff_lt n s 4 hlt) (by decide))
          obtain ⟨x1, hx1⟩ : ∃ x1, x1 = pc (diff s n) := ⟨_, rfl⟩
          obtain ⟨x2, hx2⟩ : ∃ x2, x2 = pc (diff n s) := ⟨_, rfl⟩
          rw [← hx1, ← hx2] at HAT
          rw [← hx1] at p1
          rw [← hx2] at p2
          rw [← hx1, ← hx2]
          obtain ⟨bst, hbst⟩ : ∃ bst, bst = sqmTo L.worn L.scr qq s n := ⟨_, rfl⟩
          rw [← hbst] at HSU hle ⊢
          clear hx1 hx2 hbst
          by_cases h1 : fitsV qq n = true
          · by_cases h2 : x1 ≤ L.worn
            · by_cases h3 : x2 ≤ L.scr
              · have HR := Lib.hid (show sqmTo L.worn L.scr qq s (n + 1) = min bst (x1 + x2) by rw [HSU.out, HAT.out, if_pos ⟨h1, h2, h3⟩])
                by_cases h4 : x1 + x2 < bst
                · go_wp2_with fail
                  exact ⟨⟨n + 1, by omega, by go_num, by rw [HR.out, Nat.min_eq_right (by omega)]; go_num, HB9.out⟩, by simp [intOf]; omega⟩
                · go_wp2_with fail
                  exact ⟨⟨n + 1, by omega, by go_num, by rw [HR.out, Nat.min_eq_left (by omega)], HB9.out⟩, by simp [intOf]; omega⟩
              · have HR := Lib.hid (show sqmTo L.worn L.scr qq s (n + 1) = bst by rw [HSU.out, HAT.out, if_neg (fun c => h3 c.2.2), Nat.min_eq_left hle])
                go_wp2_with fail
                exact ⟨⟨n + 1, by omega, by go_num, by rw [HR.out], HB9.out⟩, by simp [intOf]; omega⟩
            · have HR := Lib.hid (show sqmTo L.worn L.scr qq s (n + 1) = bst by rw [HSU.out, HAT.out, if_neg (fun c => h2 c.2.1), Nat.min_eq_left hle])
              go_wp2_with fail
              exact ⟨⟨n + 1, by omega, by go_num, by rw [HR.out], HB9.out⟩, by simp [intOf]; omega⟩
          · have HR := Lib.hid (show sqmTo L.worn L.scr qq s (n + 1) = bst by rw [HSU.out, HAT.out, if_neg (fun c => h1 c.1), Nat.min_eq_left hle])
            have h1' : fitsV qq n = false := by simpa using h1
            clear h1
            go_wp2_with fail
            exact ⟨⟨n + 1, by omega, by go_num, by rw [HR.out], HB9.out⟩, by simp [intOf]; omega⟩
    · obtain rfl : n = 16 := by omega
      have e : sqmTo L.worn L.scr qq s 16 = sqm L.worn L.scr qq s := rfl
      rw [e]
      clear e hle
      go_wp2_with fail
      go_ret
      exact ⟨rfl, HB0.out.trans (HB.out.mono HB0.out.size)⟩
end Go.Proofs.Ythhajbgddifenaa
