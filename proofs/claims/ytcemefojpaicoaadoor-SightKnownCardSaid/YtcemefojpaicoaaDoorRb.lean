/- Check of raw lines. -/
import Derived.Test.YtcemefojpaicoaaDoorRa
import Derived.Test.YtcemefojpaicoaaDoorG
namespace Go.Proofs.YtcemefojpaicoaaDoor
open Go.RowKit

theorem outside_eq {n lo hi : Int} {b : Bool} (h : outB n lo hi = b) (w : World) :
    Calls Tryd.prog 20 #[.int .i64 n, .int .i64 lo, .int .i64 hi] w fun e w' => e = .returned (.bool b) ∧ w = w' := by
  subst h
  exact outside_any n lo hi w
theorem count_eq {n lo hi c : Int} (h : countE n lo hi = c) (w : World) :
    Calls Tryd.prog 18 #[.int .i64 n, .int .i64 lo, .int .i64 hi] w fun e w' => e = .returned (.int .i64 c) ∧ w = w' := by
  subst h
  exact count_any n lo hi w
theorem countE_in {n lo hi : Int} (h : countE n lo hi = 0) : lo ≤ n ∧ n ≤ hi := by
  unfold countE at h
  split at h
  · omega
  · split at h <;> omega
theorem outB_in {n lo hi : Int} (h : outB n lo hi = false) : lo ≤ n ∧ n ≤ hi := by
  unfold outB at h
  rw [Bool.or_eq_false_iff] at h
  have h1 := of_decide_eq_false h.1
  have h2 := of_decide_eq_false h.2
  omega
set_option maxHeartbeats 1000000 in
theorem rcheckSquare_any (v : Value) (q : List RLight) (w : World) (hl : RLights w w.heap.size v q) :
    Calls Tryd.prog 21 #[v] w fun e w' => e = .returned (.int .i64 (squareErr q)) ∧ Below w.heap.size w w' := by
  obtain ⟨A, c, rfl, hA⟩ := RSl.form hl
  obtain ⟨n, hn⟩ : ∃ n, n = q.length := ⟨_, rfl⟩
  rw [← hn] at hA ⊢
  have HN := Lib.hid hn
  clear hn
  by_cases h4 : 4 < n
  · have HE := Lib.hid (show squareErr q = 6 by unfold squareErr; rw [← HN.out, if_pos h4])
    clear hA
    go_enter Tryd.func21, Tryd.ntmps21
    go_wp2
    go_ret
    exact ⟨by rw [HE.out]; rfl, Below.refl _ _⟩
  have HE := Lib.hid (show squareErr q = firstOf (fun k => lightErr (q.getD k ⟨0, 0⟩)) n by unfold squareErr; rw [← HN.out, if_neg h4])
  have HA := Lib.hid hA
  clear hA
  go_enter Tryd.func21, Tryd.ntmps21
  go_wp2
  go_loopw [10] (fun i wr => ∃ k : Nat, k ≤ n ∧ i = .int .i64 k ∧ Hid (firstOf (fun k => lightErr (q.getD k ⟨0, 0⟩)) k = 0) ∧ Below w.heap.size w wr) (fun i _ => n - (intOf i).toNat)
  case atStart => exact ⟨0, by omega, rfl, Lib.hid rfl, Below.refl _ _⟩
  case round =>
    obtain ⟨k, hk, rfl, HF, hb⟩ := hrel
    have HB := Lib.hid hb
    by_cases hlt : k < n
    · obtain ⟨x, rfl, hB, hc⟩ := HA.out (by omega)
      have hkq : k < q.length := by rw [← HN.out]; exact hlt
      obtain ⟨y, hy⟩ : ∃ y, y = q[k] := ⟨_, rfl⟩
      obtain ⟨c1, c2⟩ := hc k y (by rw [hy]; exact List.getElem?_eq_getElem hkq)
      have d1 := (hb.cell (p := x.add (k * 2)) (by rw [Addr.add_block]; exact hB)).trans c1
      have d2 := (hb.cell (p := x.add (k * 2 + 1)) (by rw [Addr.add_block]; exact hB)).trans c2
      rw [← Addr.nth x (k * 2) 0] at d2
      have HK := Lib.hid (show lightErr (q.getD k ⟨0, 0⟩) = lightErr y by rw [hy]; simp [List.getD, hkq])
      have k0 : (0 : Int) ≤ (k : Int) := by omega
      have k1 : (k : Int) < (n : Int) := by omega
      have hxb : x.block < wr.heap.size := by have := hb.size; omega
      clear hc c1 c2 hb hy hkq
      have HRET := Lib.hid (fun (h : lightErr y ≠ 0) => show squareErr q = lightErr y by
        rw [HE.out, firstOf_at hlt HF.out (by show lightErr _ ≠ 0; rw [HK.out]; exact h)]
        exact HK.out)
      have HNEXT := Lib.hid (fun (h : lightErr y = 0) => show firstOf (fun k => lightErr (q.getD k ⟨0, 0⟩)) (k + 1) = 0 by
        rw [firstOf, if_pos HF.out]
        exact HK.out.trans h)
      obtain ⟨a, ha⟩ : ∃ a, a = y.shows := ⟨_, rfl⟩
      obtain ⟨b, hb⟩ : ∃ b, b = y.seen := ⟨_, rfl⟩
      have hle : lightErr y = if outB a 0 1023 = true ∨ outB b 0 1023 = true then 1 else if diff b.toNat a.toNat ≠ 0 then 2 else 0 := by rw [ha, hb]; rfl
      rw [← ha] at d1
      rw [← hb] at d2
      have HLE := Lib.hid hle
      clear ha hb hle
      cases hs : outB a 0 1023
      · cases hs2 : outB b 0 1023
        · have HS := Lib.hid hs
          have HS2 := Lib.hid hs2
          obtain ⟨a1, a2⟩ := outB_in hs
          obtain ⟨b1, b2⟩ := outB_in hs2
          obtain ⟨an, rfl⟩ := Int.eq_ofNat_of_zero_le a1
          obtain ⟨bn, rfl⟩ := Int.eq_ofNat_of_zero_le b1
          have x3 : bits .andNot .i64 (bn : Int) (an : Int) = (diff bn an : Nat) := andNot64 _ _ (by omega)
          have hv : lightErr y = if diff bn an ≠ 0 then 2 else 0 := by
            rw [HLE.out, if_neg (by rw [hs, hs2]; simp)]
            rfl
          have HV := Lib.hid hv
          clear hs hs2 hv
          by_cases hd : diff bn an = 0
          · have x4 : ((diff bn an : Nat) : Int) = 0 := by rw [hd]; rfl
            have HN2 := Lib.hid (HNEXT.out (by rw [HV.out, if_neg (by simpa using hd)]))
            rw [x4] at x3
            clear hd x4
            go_wp2_with (first
              | (go_at_call 20; (with_reducible refine (outside_eq HS.out _).mono ?_); rintro e w' ⟨rfl, rfl⟩)
              | (go_at_call 20; (with_reducible refine (outside_eq HS2.out _).mono ?_); rintro e w' ⟨rfl, rfl⟩))
            go_roundw
            case rel => exact ⟨k + 1, by omega, by go_num, HN2, HB.out.alloc HB.out.size _⟩
            case measure => simp [intOf]; omega
          · have HR := Lib.hid (HRET.out (by rw [HV.out, if_pos hd]; decide))
            have HV2 := Lib.hid (show lightErr y = 2 by rw [HV.out, if_pos hd])
            obtain ⟨dd, hdd⟩ : ∃ dd, dd = diff bn an := ⟨_, rfl⟩
            rw [← hdd] at hd x3
            have x4 : ((dd : Int) == 0) = false := by rw [beq_eq_false_iff_ne]; omega
            clear hdd
            go_wp2_with (first
              | (go_at_call 20; (with_reducible refine (outside_eq HS.out _).mono ?_); rintro e w' ⟨rfl, rfl⟩)
              | (go_at_call 20; (with_reducible refine (outside_eq HS2.out _).mono ?_); rintro e w' ⟨rfl, rfl⟩))
            go_ret
            exact ⟨by rw [HR.out, HV2.out]; rfl, HB.out.alloc HB.out.size _⟩
        · have HS := Lib.hid hs
          have HS2 := Lib.hid hs2
          have HV := Lib.hid (show lightErr y = 1 by rw [HLE.out, if_pos (.inr hs2)])
          have HR := Lib.hid (HRET.out (by rw [HV.out]; decide))
          clear hs hs2
          go_wp2_with (first
            | (go_at_call 20; (with_reducible refine (outside_eq HS.out _).mono ?_); rintro e w' ⟨rfl, rfl⟩)
            | (go_at_call 20; (with_reducible refine (outside_eq HS2.out _).mono ?_); rintro e w' ⟨rfl, rfl⟩))
          go_ret
          exact ⟨by rw [HR.out, HV.out]; rfl, HB.out.alloc HB.out.size _⟩
      · have HS := Lib.hid hs
        have HV := Lib.hid (show lightErr y = 1 by rw [HLE.out, if_pos (.inl hs)])
        have HR := Lib.hid (HRET.out (by rw [HV.out]; decide))
        clear hs
        go_wp2_with (go_at_call 20; refine (outside_eq HS.out _).mono ?_; rintro e w' ⟨rfl, rfl⟩)
        go_ret
        exact ⟨by rw [HR.out, HV.out]; rfl, HB.out.alloc HB.out.size _⟩
    · obtain rfl : k = n := by omega
      go_wp2
      go_ret
      exact ⟨by rw [HE.out, HF.out]; rfl, HB.out⟩
set_option maxHeartbeats 2000000 in
theorem rcheckHand_any (sv : Value) (h : RHand) (w : World) (hs : RShapes w w.heap.size sv h.shapes) :
    Calls Tryd.prog 19 #[.agg #[.int .i64 h.low, .int .i64 h.high, sv]] w fun e w' => e = .returned (.int .i64 (handErr h)) ∧ Below w.heap.size w w' := by
  obtain ⟨A, c, rfl, hA⟩ := RSl.form hs
  obtain ⟨n, hn⟩ : ∃ n, n = h.shapes.length := ⟨_, rfl⟩
  rw [← hn] at hA ⊢
  have HN := Lib.hid hn
  have HA := Lib.hid hA
  obtain ⟨lo, hlo⟩ : ∃ lo, lo = h.low := ⟨_, rfl⟩
  obtain ⟨hi, hhi⟩ : ∃ hi, hi = h.high := ⟨_, rfl⟩
  have HE := Lib.hid (show handErr h = if outB lo (-3000) 3000 = true ∨ outB hi (-3000) 3000 = true then 1 else if hi < lo then 5 else if countE n 1 8 ≠ 0 then countE n 1 8 else firstOf (shapeErr h.shapes) n by rw [hn, hlo, hhi]; rfl)
  rw [← hlo, ← hhi]
  clear hn hA hlo hhi
  have HB0 := Lib.hid ((Below.refl w.heap.size w).alloc (Nat.le_refl _) (.cells #[.int .i64 lo, .int .i64 hi, .slice A n c] 36))
  cases o1 : outB lo (-3000) 3000
  rotate_left
  · have HS := Lib.hid o1
    have HR := Lib.hid (show handErr h = 1 by rw [HE.out, if_pos (.inl o1)])
    clear o1
    go_enter Tryd.func19, Tryd.ntmps19
    go_wp2_with (first | (go_at_call 20; (with_reducible refine (outside_eq HS.out _).mono ?_); rintro e w' ⟨rfl, rfl⟩))
    go_ret
    exact ⟨by rw [HR.out]; rfl, ((Below.refl _ _).alloc (Nat.le_refl _) _).alloc (by simp) _⟩
  cases o2 : outB hi (-3000) 3000
  rotate_left
  · have HS := Lib.hid o1
    have HS2 := Lib.hid o2
    have HR := Lib.hid (show handErr h = 1 by rw [HE.out, if_pos (.inr o2)])
    clear o1 o2
    go_enter Tryd.func19, Tryd.ntmps19
    go_wp2_with (first | (go_at_call 20; (with_reducible refine (outside_eq HS.out _).mono ?_); rintro e w' ⟨rfl, rfl⟩) | (go_at_call 20; (with_reducible refine (outside_eq HS2.out _).mono ?_); rintro e w' ⟨rfl, rfl⟩))
    go_ret
    exact ⟨by rw [HR.out]; rfl, ((Below.refl _ _).alloc (Nat.le_refl _) _).alloc (by simp) _⟩
  have HE2 := Lib.hid (show handErr h = if hi < lo then 5 else if countE n 1 8 ≠ 0 then countE n 1 8 else firstOf (shapeErr h.shapes) n by rw [HE.out, if_neg (by rw [o1, o2]; simp)])
  have HS := Lib.hid o1
  have HS2 := Lib.hid o2
  clear o1 o2
  by_cases hlt : hi < lo
  · have HR := Lib.hid (show handErr h = 5 by rw [HE2.out, if_pos hlt])
    go_enter Tryd.func19, Tryd.ntmps19
    go_wp2_with (first | (go_at_call 20; (with_reducible refine (outside_eq HS.out _).mono ?_); rintro e w' ⟨rfl, rfl⟩) | (go_at_call 20; (with_reducible refine (outside_eq HS2.out _).mono ?_); rintro e w' ⟨rfl, rfl⟩))
    go_ret
    exact ⟨by rw [HR.out]; rfl, ((Below.refl _ _).alloc (Nat.le_refl _) _).alloc (by simp) _⟩
  by_cases hc0 : countE n 1 8 ≠ 0
  · have HR := Lib.hid (show handErr h = countE n 1 8 by rw [HE2.out, if_neg hlt, if_pos hc0])
    obtain ⟨ce, hce⟩ : ∃ ce, countE n 1 8 = ce := ⟨_, rfl⟩
    have HC := Lib.hid hce
    rw [hce] at hc0 HR
    have hc1 : (ce == 0) = false := by rw [beq_eq_false_iff_ne]; exact hc0
    have hc2 : (ce != 0) = true := by rw [bne_iff_ne]; exact hc0
    clear hce
    go_enter Tryd.func19, Tryd.ntmps19
    go_wp2_with (first | (go_at_call 20; (with_reducible refine (outside_eq HS.out _).mono ?_); rintro e w' ⟨rfl, rfl⟩) | (go_at_call 20; (with_reducible refine (outside_eq HS2.out _).mono ?_); rintro e w' ⟨rfl, rfl⟩) | (go_at_call 18; (with_reducible refine (count_eq HC.out _).mono ?_); rintro e w' ⟨rfl, rfl⟩))
    go_ret
    exact ⟨by rw [HR.out]; rfl, ((Below.refl _ _).alloc (Nat.le_refl _) _).alloc (by simp) _⟩
  have HC := Lib.hid (show countE n 1 8 = 0 by omega)
  have hn8 := countE_in HC.out
  have HE3 := Lib.hid (show handErr h = firstOf (shapeErr h.shapes) n by rw [HE2.out, if_neg hlt, if_neg hc0])
  clear hc0
  go_enter Tryd.func19, Tryd.ntmps19
  go_wp2_with (first | (go_at_call 20; (with_reducible refine (outside_eq HS.out _).mono ?_); rintro e w' ⟨rfl, rfl⟩) | (go_at_call 20; (with_reducible refine (outside_eq HS2.out _).mono ?_); rintro e w' ⟨rfl, rfl⟩) | (go_at_call 18; (with_reducible refine (count_eq HC.out _).mono ?_); rintro e w' ⟨rfl, rfl⟩))
  go_loopw [32] (fun i wr => ∃ k : Nat, k ≤ n ∧ i = .int .i64 k ∧ Hid (firstOf (shapeErr h.shapes) k = 0) ∧ Below (w.heap.size + 1) (w.alloc (.cells #[.int .i64 lo, .int .i64 hi, .slice A n c] 36)) wr) (fun i _ => n - (intOf i).toNat)
  case atStart => exact ⟨0, by omega, rfl, Lib.hid rfl, (Below.refl _ _).alloc (by simp) _⟩
  case round =>
    clear HS HS2
    obtain ⟨k, hk, rfl, HF, hb⟩ := hrel
    have hb0 : Below w.heap.size w wr := ((Below.refl _ _).alloc (Nat.le_refl _) _).trans (hb.mono (Nat.le_succ _))
    have HB1 := Lib.hid hb0
    by_cases hkn : k < n
    · obtain ⟨x, rfl, hB, hc⟩ := HA.out (by omega)
      have hkq : k < h.shapes.length := by rw [← HN.out]; exact hkn
      obtain ⟨y, hy⟩ : ∃ y, y = h.shapes[k] := ⟨_, rfl⟩
      obtain ⟨c1, c2⟩ := hc k y (by rw [hy]; exact List.getElem?_eq_getElem hkq)
      have d1 := (hb0.cell (p := x.add (k * 2)) (by rw [Addr.add_block]; exact hB)).trans c1
      have d2 := (hb0.cell (p := x.add (k * 2 + 1)) (by rw [Addr.add_block]; exact hB)).trans c2
      rw [← Addr.nth x (k * 2) 0] at d2
      have hK : shapeErr h.shapes k = if outB y.letter 65 90 = true then 8 else if outB y.strokes 1 1023 = true then 1 else if 0 < k ∧ y.letter ≤ (h.shapes.getD (k - 1) ⟨0, 0⟩).letter then 5 else 0 := by
        have e : h.shapes.getD k ⟨0, 0⟩ = y := by rw [hy]; simp [List.getD, hkq]
        unfold shapeErr
        rw [e]
      have HRET := Lib.hid (fun (h0 : shapeErr h.shapes k ≠ 0) => show handErr h = shapeErr h.shapes k by rw [HE3.out, firstOf_at hkn HF.out h0])
      have HNEXT := Lib.hid (fun (h0 : shapeErr h.shapes k = 0) => show firstOf (shapeErr h.shapes) (k + 1) = 0 by rw [firstOf, if_pos HF.out]; exact h0)
      obtain ⟨p, hp⟩ : ∃ p, p = (h.shapes.getD (k - 1) ⟨0, 0⟩).letter := ⟨_, rfl⟩
      have d3 : 0 < k → wr.cell? (x.add ((k - 1) * 2)) = some (.int .u8 p) := fun h0 => by
        have hkq' : k - 1 < h.shapes.length := by omega
        obtain ⟨c3, _⟩ := hc (k - 1) _ (List.getElem?_eq_getElem hkq')
        rw [(hb0.cell (p := x.add ((k - 1) * 2)) (by rw [Addr.add_block]; exact hB)).trans c3, hp]
        simp [List.getD, hkq']
      obtain ⟨a, ha⟩ : ∃ a, a = y.letter := ⟨_, rfl⟩
      obtain ⟨s, hs⟩ : ∃ s, s = y.strokes := ⟨_, rfl⟩
      rw [← ha, ← hs, ← hp] at hK
      rw [← ha] at d1
      rw [← hs] at d2
      have HK := Lib.hid hK
      have D3 := Lib.hid d3
      have k0 : (0 : Int) ≤ (k : Int) := by omega
      have k1 : (k : Int) < (n : Int) := by omega
      have bx := (Blok.new w 36 [.int .i64 lo, .int .i64 hi, .slice (some x) n c]).below hb (by omega)
      have s0 := bx.size
      have l2 : wr.cell? ⟨w.heap.size, 2, none⟩ = some (.slice (some x) n c) := bx.cell 2
      have HB := Lib.hid hb
      have hxb : x.block < wr.heap.size := by omega
      clear hc c1 c2 hb hb0 bx hy hkq hp ha hs hK d3
      cases o1 : outB a 65 90
      rotate_left
      · have HV := Lib.hid (show shapeErr h.shapes k = 8 by rw [HK.out, if_pos o1])
        have HR := Lib.hid (HRET.out (by rw [HV.out]; decide))
        have o1' : a < 65 ∨ 90 < a := by simpa [outB] using o1
        clear o1
        by_cases h65 : a < 65
        · go_wp2_with fail
          go_ret
          exact ⟨by rw [HR.out, HV.out]; rfl, HB1.out.alloc HB1.out.size _⟩
        · have h90 : 90 < a := by omega
          clear o1'
          go_wp2_with fail
          go_ret
          exact ⟨by rw [HR.out, HV.out]; rfl, HB1.out.alloc HB1.out.size _⟩
      obtain ⟨a1, a2⟩ := outB_in o1
      have HK2 := Lib.hid (show shapeErr h.shapes k = if outB s 1 1023 = true then 1 else if 0 < k ∧ a ≤ p then 5 else 0 by rw [HK.out, if_neg (by rw [o1]; simp)])
      clear o1
      cases o2 : outB s 1 1023
      rotate_left
      · have HS := Lib.hid o2
        have HV := Lib.hid (show shapeErr h.shapes k = 1 by rw [HK2.out, if_pos o2])
        have HR := Lib.hid (HRET.out (by rw [HV.out]; decide))
        clear o2
        go_wp2_with (first | (go_at_call 20; (with_reducible refine (outside_eq HS.out _).mono ?_); rintro e w' ⟨rfl, rfl⟩))
        go_ret
        exact ⟨by rw [HR.out, HV.out]; rfl, HB1.out.alloc HB1.out.size _⟩
      have HS := Lib.hid o2
      have HK3 := Lib.hid (show shapeErr h.shapes k = if 0 < k ∧ a ≤ p then 5 else 0 by rw [HK2.out, if_neg (by rw [o2]; simp)])
      clear o2
      by_cases hk0 : k = 0
      · subst hk0
        have HV := Lib.hid (HNEXT.out (by rw [HK3.out, if_neg (by omega)]))
        simp only [Nat.zero_mul, Addr.add0, Nat.zero_add] at d1 d2
        go_wp2_with (first | (go_at_call 20; (with_reducible refine (outside_eq HS.out _).mono ?_); rintro e w' ⟨rfl, rfl⟩))
        go_quiet (fail)
        go_wp2
        go_roundw
        case rel => exact ⟨1, by omega, rfl, HV, below_drewN (HB.out.alloc (by omega) _) _⟩
        case measure => simp [intOf]; omega
      · have d3 := D3.out (by omega)
        have m1 : (1 : Int) ≤ (k : Int) := by omega
        have m2 : (k : Int) - 1 < (n : Int) := by omega
        have m5 : 0 < k := by omega
        have m6 : (x.add ((k - 1) * 2)).block < wr.heap.size := by rw [Addr.add_block]; exact hxb
        have m7 : (0 : Int) ≤ (k : Int) - 1 := by omega
        by_cases hap : a ≤ p
        · have HV := Lib.hid (show shapeErr h.shapes k = 5 by rw [HK3.out, if_pos ⟨m5, hap⟩])
          have HR := Lib.hid (HRET.out (by rw [HV.out]; decide))
          go_wp2_with (first | (go_at_call 20; (with_reducible refine (outside_eq HS.out _).mono ?_); rintro e w' ⟨rfl, rfl⟩))
          have w1 : IntKind.i64.wrap ((k : Int) - 1) = (k : Int) - 1 := IntWalk.i64_in _ (by omega)
          have w2 : ((k : Int) - 1).toNat = k - 1 := by omega
          go_quiet (fail)
          clear w1 w2
          go_wp2
          go_ret
          exact ⟨by rw [HR.out, HV.out]; rfl, below_drewN (HB1.out.alloc HB1.out.size _) _⟩
        · have HV := Lib.hid (HNEXT.out (by rw [HK3.out, if_neg (fun hh => hap hh.2)]))
          go_wp2_with (first | (go_at_call 20; (with_reducible refine (outside_eq HS.out _).mono ?_); rintro e w' ⟨rfl, rfl⟩))
          have w1 : IntKind.i64.wrap ((k : Int) - 1) = (k : Int) - 1 := IntWalk.i64_in _ (by omega)
          have w2 : ((k : Int) - 1).toNat = k - 1 := by omega
          go_quiet (fail)
          clear w1 w2
          go_wp2
          go_roundw
          case rel => exact ⟨k + 1, by omega, by go_num, HV, below_drewN (HB.out.alloc (by omega) _) _⟩
          case measure => simp [intOf]; omega
    · obtain rfl : k = n := by omega
      go_wp2
      go_ret
      exact ⟨by rw [HE3.out, HF.out]; rfl, HB1.out⟩

set_option maxHeartbeats 4000000 in
theorem rcheck_any (v : Value) (L : RLine) (w : World) (hv : RLineAt w w.heap.size v L) :
    Calls Tryd.prog 7 #[v] w fun e w' => e = .returned (.int .i64 (lineErr L)) ∧ Below w.heap.size w w' := by
  obtain ⟨vh, vs, rfl, hh, hq⟩ := hv
  obtain ⟨A, c, rfl, hA⟩ := RSl.form hh
  obtain ⟨AQ, cQ, rfl, hQ⟩ := RSl.form hq
  obtain ⟨n, hn⟩ : ∃ n, n = L.hands.length := ⟨_, rfl⟩
  obtain ⟨m, hm⟩ : ∃ m, m = L.squares.length := ⟨_, rfl⟩
  rw [← hn] at hA ⊢
  rw [← hm] at hQ ⊢
  obtain ⟨f, hf⟩ : ∃ f : Nat → Int, f = fun k => handErr (L.hands.getD k ⟨0, 0, []⟩) := ⟨_, rfl⟩
  obtain ⟨g, hg⟩ : ∃ g : Nat → Int, g = fun k => squareErr (L.squares.getD k []) := ⟨_, rfl⟩
  obtain ⟨wn, hwn⟩ : ∃ wn, wn = L.worn := ⟨_, rfl⟩
  obtain ⟨sc, hsc⟩ : ∃ sc, sc = L.scr := ⟨_, rfl⟩
  obtain ⟨tt, htt⟩ : ∃ tt, tt = L.total := ⟨_, rfl⟩
  have HE := Lib.hid (show lineErr L = if countE n 1 4 ≠ 0 then countE n 1 4 else if firstOf f n ≠ 0 then firstOf f n else if outB wn 0 10 = true ∨ outB sc 0 10 = true ∨ outB tt 0 40 = true then 1 else if countE m 1 8 ≠ 0 then countE m 1 8 else firstOf g m by rw [hn, hm, hf, hg, hwn, hsc, htt]; rfl)
  rw [← hwn, ← hsc, ← htt]
  have HN := Lib.hid hn
  have HM := Lib.hid hm
  have HFF := Lib.hid hf
  have HGG := Lib.hid hg
  have HA := Lib.hid hA
  have HQ := Lib.hid hQ
  clear hn hm hf hg hwn hsc htt hA hQ
  by_cases hc0 : countE n 1 4 ≠ 0
  · have HR := Lib.hid (show lineErr L = countE n 1 4 by rw [HE.out, if_pos hc0])
    obtain ⟨ce, hce⟩ : ∃ ce, countE n 1 4 = ce := ⟨_, rfl⟩
    have HC := Lib.hid hce
    rw [hce] at hc0 HR
    have hc1 : (ce == 0) = false := by rw [beq_eq_false_iff_ne]; exact hc0
    have hc2 : (ce != 0) = true := by rw [bne_iff_ne]; exact hc0
    clear hce
    go_enter Tryd.func7, Tryd.ntmps7
    go_wp2_with (first | (go_at_call 18; (with_reducible refine (count_eq HC.out _).mono ?_); rintro e w' ⟨rfl, rfl⟩))
    go_ret
    exact ⟨by rw [HR.out]; rfl, (Below.refl _ _).alloc (Nat.le_refl _) _⟩
  have HC := Lib.hid (show countE n 1 4 = 0 by omega)
  have hn4 := countE_in HC.out
  have HE2 := Lib.hid (show lineErr L = if firstOf f n ≠ 0 then firstOf f n else if outB wn 0 10 = true ∨ outB sc 0 10 = true ∨ outB tt 0 40 = true then 1 else if countE m 1 8 ≠ 0 then countE m 1 8 else firstOf g m by rw [HE.out, if_neg hc0])
  clear hc0 HE
  go_enter Tryd.func7, Tryd.ntmps7
  go_wp2_with (first | (go_at_call 18; (with_reducible refine (count_eq HC.out _).mono ?_); rintro e w' ⟨rfl, rfl⟩))
  go_loopw [21] (fun i wr => ∃ k : Nat, k ≤ n ∧ i = .int .i64 k ∧ Hid (firstOf f k = 0) ∧ CheckI w [.slice A n c, .int .i64 wn, .int .i64 sc, .int .i64 tt, .slice AQ m cQ] wr) (fun i _ => n - (intOf i).toNat)
  case atStart => exact ⟨0, by omega, rfl, Lib.hid rfl, Below.refl _ _⟩
  case round =>
    obtain ⟨k, hk, rfl, HF, hI⟩ := hrel
    have HI := Lib.hid hI
    have hb0 := hI.below
    by_cases hkn : k < n
    · obtain ⟨x, rfl, hB, hc⟩ := HA.out (by omega)
      have hkq : k < L.hands.length := by rw [← HN.out]; exact hkn
      obtain ⟨h, hh⟩ : ∃ h, L.hands[k]? = some h := ⟨_, List.getElem?_eq_getElem hkq⟩
      obtain ⟨d1, d2, sv, d3, hsv⟩ := hc k h hh
      have d1 := (hb0.cell (p := x.add (k * 3)) (by rw [Addr.add_block]; exact hB)).trans d1
      have d2 := (hb0.cell (p := x.add (k * 3 + 1)) (by rw [Addr.add_block]; exact hB)).trans d2
      have d3 := (hb0.cell (p := x.add (k * 3 + 2)) (by rw [Addr.add_block]; exact hB)).trans d3
      rw [← Addr.nth x (k * 3) 0] at d2
      rw [← Addr.nth x (k * 3) 1] at d3
      have hfk : f k = handErr h := by rw [HFF.out]; show handErr (L.hands.getD k ⟨0, 0, []⟩) = _; simp [List.getD, hh]
      obtain ⟨As, cs, rfl, -⟩ := RSl.form hsv
      have k0 : (0 : Int) ≤ (k : Int) := by omega
      have k1 : (k : Int) < (n : Int) := by omega
      have hxb : x.block < wr.heap.size := by have := hb0.size; omega
      obtain ⟨er, her⟩ : ∃ er, er = handErr h := ⟨_, rfl⟩
      obtain ⟨lo, hlo⟩ : ∃ lo, lo = h.low := ⟨_, rfl⟩
      obtain ⟨hi, hhi⟩ : ∃ hi, hi = h.high := ⟨_, rfl⟩
      obtain ⟨ns, hns⟩ : ∃ ns, ns = h.shapes.length := ⟨_, rfl⟩
      rw [← her] at hfk
      have HCK := Lib.hid (fun (W : World) (hW : Below w.heap.size w W) => show Calls Tryd.prog 19 #[.agg #[.int .i64 lo, .int .i64 hi, .slice As ns cs]] W (fun e w' => e = .returned (.int .i64 er) ∧ Below W.heap.size W w') by
        rw [hlo, hhi, her, hns]
        exact rcheckHand_any _ h W (hsv.keep (SameA.of_below hW) hW.size))
      rw [← hlo] at d1
      rw [← hhi] at d2
      rw [← hns] at d3
      have HFK := Lib.hid hfk
      clear hc hh hI hb0 hsv hfk her hlo hhi hns hkq
      by_cases he : er = 0
      · subst he
        have HF2 := Lib.hid (show firstOf f (k + 1) = 0 by rw [firstOf, if_pos HF.out]; exact HFK.out)
        go_wp2_with (go_at_call 19; refine (HCK.out _ (HI.out.alloc _).below).mono ?_; rintro e w1 ⟨rfl, hb1⟩)
        go_roundw
        case rel => exact ⟨k + 1, by omega, by go_num, HF2, (HI.out.alloc _).next hb1⟩
        case measure => simp [intOf]; omega
      · have HR := Lib.hid (show lineErr L = er by
          have h1 : firstOf f n = er := by rw [firstOf_at hkn HF.out (by rw [HFK.out]; exact he), HFK.out]
          rw [HE2.out, h1, if_pos he])
        have hc1 : (er == 0) = false := by rw [beq_eq_false_iff_ne]; exact he
        have hc2 : (er != 0) = true := by rw [bne_iff_ne]; exact he
        go_wp2_with (go_at_call 19; refine (HCK.out _ (HI.out.alloc _).below).mono ?_; rintro e w1 ⟨rfl, hb1⟩)
        go_ret
        exact ⟨by rw [HR.out]; rfl, ((HI.out.alloc _).next hb1).below⟩
    · obtain rfl : k = n := by omega
      have HE3 := Lib.hid (show lineErr L = if outB wn 0 10 = true ∨ outB sc 0 10 = true ∨ outB tt 0 40 = true then 1 else if countE m 1 8 ≠ 0 then countE m 1 8 else firstOf g m by rw [HE2.out, if_neg (by rw [HF.out]; simp)])
      have l1 : wr.cell? ⟨w.heap.size, 1, none⟩ = some (.int .i64 wn) := hI.blok.cell 1
      have l2 : wr.cell? ⟨w.heap.size, 2, none⟩ = some (.int .i64 sc) := hI.blok.cell 2
      have l3 : wr.cell? ⟨w.heap.size, 3, none⟩ = some (.int .i64 tt) := hI.blok.cell 3
      have l4 : wr.cell? ⟨w.heap.size, 4, none⟩ = some (.slice AQ m cQ) := hI.blok.cell 4
      clear hI hb0
      cases o1 : outB wn 0 10
      rotate_left
      · have HS := Lib.hid o1
        have HR := Lib.hid (show lineErr L = 1 by rw [HE3.out, if_pos (.inl o1)])
        clear o1
        go_wp2_with (first | (go_at_call 20; (with_reducible refine (outside_eq HS.out _).mono ?_); rintro e w' ⟨rfl, rfl⟩))
        go_ret
        exact ⟨by rw [HR.out]; rfl, HI.out.below⟩
      cases o2 : outB sc 0 10
      rotate_left
      · have HS := Lib.hid o1
        have HS2 := Lib.hid o2
        have HR := Lib.hid (show lineErr L = 1 by rw [HE3.out, if_pos (.inr (.inl o2))])
        clear o1 o2
        go_wp2_with (first | (go_at_call 20; (with_reducible refine (outside_eq HS.out _).mono ?_); rintro e w' ⟨rfl, rfl⟩) | (go_at_call 20; (with_reducible refine (outside_eq HS2.out _).mono ?_); rintro e w' ⟨rfl, rfl⟩))
        go_ret
        exact ⟨by rw [HR.out]; rfl, HI.out.below⟩
      cases o3 : outB tt 0 40
      rotate_left
      · have HS := Lib.hid o1
        have HS2 := Lib.hid o2
        have HS3 := Lib.hid o3
        have HR := Lib.hid (show lineErr L = 1 by rw [HE3.out, if_pos (.inr (.inr o3))])
        clear o1 o2 o3
        go_wp2_with (first | (go_at_call 20; (with_reducible refine (outside_eq HS.out _).mono ?_); rintro e w' ⟨rfl, rfl⟩) | (go_at_call 20; (with_reducible refine (outside_eq HS2.out _).mono ?_); rintro e w' ⟨rfl, rfl⟩) | (go_at_call 20; (with_reducible refine (outside_eq HS3.out _).mono ?_); rintro e w' ⟨rfl, rfl⟩))
        go_ret
        exact ⟨by rw [HR.out]; rfl, HI.out.below⟩
      have HS := Lib.hid o1
      have HS2 := Lib.hid o2
      have HS3 := Lib.hid o3
      have HE4 := Lib.hid (show lineErr L = if countE m 1 8 ≠ 0 then countE m 1 8 else firstOf g m by rw [HE3.out, if_neg (by rw [o1, o2, o3]; simp)])
      clear o1 o2 o3
      by_cases hc0 : countE m 1 8 ≠ 0
      · have HR := Lib.hid (show lineErr L = countE m 1 8 by rw [HE4.out, if_pos hc0])
        obtain ⟨ce, hce⟩ : ∃ ce, countE m 1 8 = ce := ⟨_, rfl⟩
        have HC2 := Lib.hid hce
        rw [hce] at hc0 HR
        have hc1 : (ce == 0) = false := by rw [beq_eq_false_iff_ne]; exact hc0
        have hc2 : (ce != 0) = true := by rw [bne_iff_ne]; exact hc0
        clear hce
        go_wp2_with (first | (go_at_call 20; (with_reducible refine (outside_eq HS.out _).mono ?_); rintro e w' ⟨rfl, rfl⟩) | (go_at_call 20; (with_reducible refine (outside_eq HS2.out _).mono ?_); rintro e w' ⟨rfl, rfl⟩) | (go_at_call 20; (with_reducible refine (outside_eq HS3.out _).mono ?_); rintro e w' ⟨rfl, rfl⟩) | (go_at_call 18; (with_reducible refine (count_eq HC2.out _).mono ?_); rintro e w' ⟨rfl, rfl⟩))
        go_ret
        exact ⟨by rw [HR.out]; rfl, HI.out.below⟩
      have HC2 := Lib.hid (show countE m 1 8 = 0 by omega)
      have hm8 := countE_in HC2.out
      have HE5 := Lib.hid (show lineErr L = firstOf g m by rw [HE4.out, if_neg hc0])
      clear hc0
      go_wp2_with (first | (go_at_call 20; (with_reducible refine (outside_eq HS.out _).mono ?_); rintro e w' ⟨rfl, rfl⟩) | (go_at_call 20; (with_reducible refine (outside_eq HS2.out _).mono ?_); rintro e w' ⟨rfl, rfl⟩) | (go_at_call 20; (with_reducible refine (outside_eq HS3.out _).mono ?_); rintro e w' ⟨rfl, rfl⟩) | (go_at_call 18; (with_reducible refine (count_eq HC2.out _).mono ?_); rintro e w' ⟨rfl, rfl⟩))
      go_loopw [54] (fun i wx => ∃ j : Nat, j ≤ m ∧ i = .int .i64 j ∧ Hid (firstOf g j = 0) ∧ CheckI w [.slice A k c, .int .i64 wn, .int .i64 sc, .int .i64 tt, .slice AQ m cQ] wx) (fun i _ => m - (intOf i).toNat)
      case atStart => exact ⟨0, by omega, rfl, Lib.hid rfl, HI.out⟩
      case round =>
        clear l1 l2 l3 l4 HS HS2 HS3
        obtain ⟨j, hj, rfl, HG, hI⟩ := hrel
        by_cases hjm : j < m
        · obtain ⟨x, rfl, hB, hc⟩ := HQ.out (by omega)
          have hjq : j < L.squares.length := by rw [← HM.out]; exact hjm
          obtain ⟨q, hq⟩ : ∃ q, L.squares[j]? = some q := ⟨_, List.getElem?_eq_getElem hjq⟩
          obtain ⟨lv, d1, hlv⟩ := hc j q hq
          have d1 := (hI.below.cell (p := x.add j) (by rw [Addr.add_block]; exact hB)).trans d1
          have hgj : g j = squareErr q := by rw [HGG.out]; show squareErr (L.squares.getD j []) = _; simp [List.getD, hq]
          obtain ⟨er, her⟩ : ∃ er, er = squareErr q := ⟨_, rfl⟩
          rw [← her] at hgj
          have HCK := Lib.hid (show Calls Tryd.prog 21 #[lv] wr (fun e w' => e = .returned (.int .i64 er) ∧ Below wr.heap.size wr w') by
            rw [her]
            exact rcheckSquare_any lv q wr (hlv.keep (SameA.of_below hI.below) hI.below.size))
          have HGJ := Lib.hid hgj
          have HJ := Lib.hid hI
          have k0 : (0 : Int) ≤ (j : Int) := by omega
          have k1 : (j : Int) < (m : Int) := by omega
          clear hc hq hI hlv hgj her hjq
          by_cases he : er = 0
          · subst he
            have HG2 := Lib.hid (show firstOf g (j + 1) = 0 by rw [firstOf, if_pos HG.out]; exact HGJ.out)
            go_wp2_with (go_at_call 21; refine HCK.out.mono ?_; rintro e w1 ⟨rfl, hb1⟩)
            go_roundw
            case rel => exact ⟨j + 1, by omega, by go_num, HG2, HJ.out.next hb1⟩
            case measure => simp [intOf]; omega
          · have HR := Lib.hid (show lineErr L = er by rw [HE5.out, firstOf_at hjm HG.out (by rw [HGJ.out]; exact he), HGJ.out])
            have hc1 : (er == 0) = false := by rw [beq_eq_false_iff_ne]; exact he
            have hc2 : (er != 0) = true := by rw [bne_iff_ne]; exact he
            go_wp2_with (go_at_call 21; refine HCK.out.mono ?_; rintro e w1 ⟨rfl, hb1⟩)
            go_ret
            exact ⟨by rw [HR.out]; rfl, (HJ.out.next hb1).below⟩
        · obtain rfl : j = m := by omega
          go_wp2
          go_ret
          exact ⟨by rw [HE5.out, HG.out]; rfl, hI.below⟩
end Go.Proofs.YtcemefojpaicoaaDoor
