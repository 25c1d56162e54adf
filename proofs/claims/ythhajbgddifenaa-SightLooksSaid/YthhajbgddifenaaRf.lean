/- The reference's count and cost. · The reference's least, shape, marks. · The reference's letters, plain: to know letters is to have other cutters. · The reference's marks. · The reference's Fits. -/
import Derived.Test.YthhajbgddifenaaRp
import Derived.Test.YthhajbgddifenaaRc
import Derived.Test.YthhajbgddifenaaRd
import Derived.Test.YthhajbgddifenaaLs
import Derived.Deep.QuietTactic
import Derived.BigQuiet
import Derived.Deep.RegionHeld3
import Derived.Deep.DeepCutAuto
import Derived.Test.YthhajbgddifenaaLw
namespace Go.Proofs.Ythhajbgddifenaa
section
open Go.RowKit Go.Shelf

set_option maxHeartbeats 1000000 in
theorem count_ref (s : Nat) (w : World) (hs : s < 1024) : Calls Try.prog 92 #[.int .i64 s] w fun e w' => e = .returned (.int .i64 (pc s)) ∧ w = w' := by
  go_enter Try.func92, Try.ntmps92
  go_wp2
  go_loop [0, 3] (fun st n => ∃ j : Nat, j ≤ 10 ∧ st = .int .i64 ((s / 2 ^ j : Nat) : Int) ∧ n = .int .i64 (cntTo s j)) (fun st _ => (intOf st).toNat)
  case atStart => exact ⟨0, by omega, by simp, rfl⟩
  case round =>
    obtain ⟨j, hj, rfl, rfl⟩ := hrel
    have hle := cntTo_le s j
    obtain ⟨t, ht⟩ : ∃ t, t = s / 2 ^ j := ⟨_, rfl⟩
    obtain ⟨c, hc⟩ : ∃ c, c = cntTo s j := ⟨_, rfl⟩
    have h1 : s / 2 ^ (j + 1) = t / 2 := by rw [ht, Nat.pow_succ, ← Nat.div_div_eq_div_mul]
    have h2 : cntTo s (j + 1) = c + t % 2 := by rw [ht, hc]; rfl
    have ht1 : t < 1024 := by rw [ht]; exact Nat.lt_of_le_of_lt (Nat.div_le_self _ _) hs
    have h10 : 0 < t → j < 10 := fun h => by
      rcases Nat.lt_or_ge j 10 with h' | h'
      · exact h'
      · exfalso
        have : j = 10 := by omega
        subst this
        rw [show s / 2 ^ 10 = 0 from Nat.div_eq_of_lt (by simpa using hs)] at ht
        omega
    have HEND := Lib.hid (fun (h : t = 0) => show c = pc s by rw [hc]; exact cnt_end hs hj (by rw [← ht]; exact h))
    rw [← ht, ← hc]
    rw [← hc] at hle
    have H1 := Lib.hid h1
    have H2 := Lib.hid h2
    have H10 := Lib.hid h10
    clear ht hc h1 h2 h10
    by_cases h0 : 0 < t
    · go_wp2
      exact ⟨⟨j + 1, by have := H10.out h0; omega, by rw [H1.out]; simp, by rw [H2.out]; simp⟩, by simp [intOf]; omega⟩
    · obtain rfl : t = 0 := by omega
      have HE := Lib.hid (HEND.out rfl)
      go_wp2
      go_ret
      exact ⟨by rw [← HE.out]; rfl, rfl⟩
theorem xor64 (a b : Nat) (ha : a < 2 ^ 63) (hb : b < 2 ^ 63) : bits .xor .i64 (a : Int) (b : Int) = ((a ^^^ b : Nat) : Int) := by
  have h : (BitVec.ofInt 64 (a : Int) ^^^ BitVec.ofInt 64 (b : Int)).toNat = a ^^^ b := by
    apply Nat.eq_of_testBit_eq
    intro i
    rw [BitVec.testBit_toNat]
    simp only [BitVec.ofInt_natCast, BitVec.getLsbD_xor, BitVec.getLsbD_ofNat, Nat.testBit_xor]
    by_cases hi : i < 64
    · simp only [hi, decide_true, Bool.true_and]
    · have h0 : a.testBit i = false := Nat.testBit_lt_two_pow (Nat.lt_of_lt_of_le ha (Nat.pow_le_pow_right (by decide) (by omega)))
      have h1 : b.testBit i = false := Nat.testBit_lt_two_pow (Nat.lt_of_lt_of_le hb (Nat.pow_le_pow_right (by decide) (by omega)))
      simp [hi, h0, h1]
  have e : bits .xor .i64 (a : Int) (b : Int) = IntKind.i64.wrap ((BitVec.ofInt 64 (a : Int) ^^^ BitVec.ofInt 64 (b : Int)).toNat : Int) := rfl
  rw [e, h]
  exact wraps_i64 _ (by omega) (by exact_mod_cast Nat.xor_lt_two_pow ha hb)
theorem and64 (a b : Nat) (ha : a < 2 ^ 63) (hb : b < 2 ^ 63) : bits .and .i64 (a : Int) (b : Int) = ((a &&& b : Nat) : Int) := (bits_nat .i64 63 (by decide) wraps_i64 a b ha hb).1
theorem or64 (a b : Nat) (ha : a < 2 ^ 63) (hb : b < 2 ^ 63) : bits .or .i64 (a : Int) (b : Int) = ((a ||| b : Nat) : Int) := (bits_nat .i64 63 (by decide) wraps_i64 a b ha hb).2
theorem shn_lt (q : List Light) (h : ∀ x ∈ q, x.shows < 1024) : shn q < 1024 := by
  have key : ∀ (q : List Light) (a : Nat), a < 1024 → (∀ x ∈ q, x.shows < 1024) → q.foldl (fun a x => a ||| x.shows) a < 1024 := by
    intro q
    induction q with
    | nil => intro a ha _; exact ha
    | cons x q ih =>
      intro a ha hq
      exact ih _ (Nat.or_lt_two_pow (n := 10) ha (hq x (by simp))) fun y hy => hq y (by simp [hy])
  exact key q 0 (by omega) h
/-- A line's square, in memory of whatever kind. -/
theorem rsquare_at {w : World} {B : Nat} {L : Line} {AQ : Option Addr} {cQ : Nat} (h : RSquares w B (.slice AQ L.squares.length cQ) L.raw.squares) {q : Nat} (hq : q < L.squares.length) :
    ∃ (x : Addr) (A : Option Addr) (c : Nat), AQ = some x ∧ x.block < B ∧ w.cell? (x.add q) = some (.slice A (L.squares[q]).length c) ∧ RLights w B (.slice A (L.squares[q]).length c) ((L.squares[q]).map Light.raw) := by
  obtain ⟨A, c, e, hf⟩ := RSl.form h
  injection e with e1 e2 e3
  subst e1
  obtain ⟨x, rfl, hb, hR⟩ := hf (by simp [Line.raw]; omega)
  obtain ⟨v, h1, h2⟩ := hR q ((L.squares[q]).map Light.raw) (by simp [Line.raw, hq])
  obtain ⟨A1, c1, rfl, -⟩ := RSl.form h2
  rw [List.length_map] at h1 h2
  exact ⟨x, A1, c1, rfl, hb, h1, h2⟩
theorem rlight_at {w : World} {B : Nat} {q : List Light} {A : Option Addr} {c : Nat} (h : RLights w B (.slice A q.length c) (q.map Light.raw)) {k : Nat} (hk : k < q.length) :
    ∃ x : Addr, A = some x ∧ x.block < B ∧ w.cell? (x.add (k * 2)) = some (.int .i64 (q.getD k ⟨0, 0⟩).shows) ∧ w.cell? (x.add (k * 2 + 1)) = some (.int .i64 (q.getD k ⟨0, 0⟩).seen) := by
  obtain ⟨A', c', e, hf⟩ := RSl.form h
  injection e with e1 e2 e3
  subst e1
  obtain ⟨x, rfl, hb, hR⟩ := hf (by simp; omega)
  obtain ⟨h1, h2⟩ := hR k (q[k]).raw (by simp [hk])
  have e : q.getD k ⟨0, 0⟩ = q[k] := by simp [List.getD, hk]
  rw [e]
  exact ⟨x, rfl, hb, h1, h2⟩

set_option maxRecDepth 100000 in
set_option maxHeartbeats 2000000 in
theorem cost_refc (v : Value) (L : Line) (w : World) (hL : L.ok) (hv : RLineAt w w.heap.size v L.raw) (q s : Nat) (hq : q < L.squares.length) (hs : s < 1024) :
    Calls Try.prog 83 #[v, .int .i64 q, .int .i64 s] w fun e w' => e = .returned (.int .i64 (up (cost L.worn L.scr (L.squares[q]) s))) ∧ Below w.heap.size w w' := by
  obtain ⟨vh, vs, rfl, hh, hsq⟩ := hv
  obtain ⟨AH, ch, rfl, -⟩ := RSl.form hh
  obtain ⟨AQ, cq, rfl, -⟩ := RSl.form hsq
  have hl1 : L.raw.hands.length = L.hands.length := by simp [Line.raw]
  have hl2 : L.raw.squares.length = L.squares.length := by simp [Line.raw]
  rw [hl2] at hsq
  obtain ⟨x, A, c, rfl, hxb, d1, hlt⟩ := rsquare_at hsq hq
  have hqok := hL.2.2.2.2.2.2.2.2 _ (List.getElem_mem hq)
  have hw10 : L.worn ≤ 10 := hL.2.2.2.1
  have hs10 : L.scr ≤ 10 := hL.2.2.2.2.1
  have hm8 : L.squares.length ≤ 8 := hL.2.2.2.2.2.2.2.1
  obtain ⟨qq, hqq⟩ : ∃ qq, qq = L.squares[q] := ⟨_, rfl⟩
  rw [← hqq] at d1 hlt hqok
  rw [hl1, hl2, ← hqq]
  obtain ⟨nl, hnl⟩ : ∃ nl, nl = qq.length := ⟨_, rfl⟩
  obtain ⟨m, hm⟩ : ∃ m, m = L.squares.length := ⟨_, rfl⟩
  have hn4 : nl ≤ 4 := by rw [hnl]; exact hqok.1
  rw [← hnl] at d1
  rw [← hm] at hq hm8
  rw [← hm]
  have HLT := Lib.hid hlt
  have HOK := Lib.hid hqok.2
  have HNL := Lib.hid hnl
  have q0 : (0 : Int) ≤ (q : Int) := by omega
  have q1 : (q : Int) < (m : Int) := by omega
  have hvl := vis_lt qq fun y hy => (hqok.2 y hy).2.1
  clear hlt hqok hnl hqq hsq hh hm hl1 hl2
  show Calls Try.prog 83 #[.agg #[.slice AH L.hands.length ch, .int .i64 L.worn, .int .i64 L.scr, .int .i64 L.total, .slice (some x) m cq], .int .i64 q, .int .i64 s] w _
  go_enter Try.func83, Try.ntmps83
  have x1 : (x.add q).block < w.heap.size := by rw [Addr.add_block]; exact hxb
  go_wp2_with fail
  obtain ⟨W0, hW0⟩ : ∃ W0, W0 = w.alloc (.cells #[.slice AH L.hands.length ch, .int .i64 L.worn, .int .i64 L.scr, .int .i64 L.total, .slice (some x) m cq] 25) := ⟨_, rfl⟩
  have bx : Blok W0 w.heap.size 25 [.slice AH L.hands.length ch, .int .i64 L.worn, .int .i64 L.scr, .int .i64 L.total, .slice (some x) m cq] := by rw [hW0]; exact Blok.new _ _ _
  have hb0 : Below w.heap.size w W0 := by rw [hW0]; exact (Below.refl _ _).alloc (Nat.le_refl _) _
  have z0 := bx.size
  have HB := Lib.hid hb0
  have HBX := Lib.hid bx
  rw [← hW0]
  clear hW0 bx hb0 d1 x1
  go_loopw [8, 9, 10] (fun sh se i wr => ∃ k : Nat, k ≤ nl ∧ i = .int .i64 k ∧ sh = .int .i64 (shn (qq.take k)) ∧ se = .int .i64 (vis (qq.take k)) ∧ Hid (∀ j, j < k → clashAt qq j = 0) ∧ Hid (Below W0.heap.size W0 wr)) (fun _ _ i _ => nl - (intOf i).toNat)
  case atStart => exact ⟨0, by omega, rfl, rfl, rfl, Lib.hid (fun j hj => by omega), Lib.hid (Below.refl _ _)⟩
  case round =>
    obtain ⟨k, hk, rfl, rfl, rfl, HC, HBR⟩ := hrel
    have hv1 : vis (qq.take k) < 1024 := vis_lt _ fun y hy => (HOK.out y (List.mem_of_mem_take hy)).2.1
    have hs1 : shn (qq.take k) < 1024 := shn_lt _ fun y hy => (HOK.out y (List.mem_of_mem_take hy)).1
    by_cases hkn : k < nl
    · have hkq : k < qq.length := by rw [← HNL.out]; exact hkn
      obtain ⟨xl, rfl, hxl, g1, g2⟩ := rlight_at HLT.out hkq
      have g1 := (HBR.out.cell (p := xl.add (k * 2)) (by rw [Addr.add_block]; have := HB.out.size; omega)).trans ((HB.out.cell (p := xl.add (k * 2)) (by rw [Addr.add_block]; exact hxl)).trans g1)
      have g2 := (HBR.out.cell (p := xl.add (k * 2 + 1)) (by rw [Addr.add_block]; have := HB.out.size; omega)).trans ((HB.out.cell (p := xl.add (k * 2 + 1)) (by rw [Addr.add_block]; exact hxl)).trans g2)
      rw [← Addr.nth xl (k * 2) 0] at g2
      have hx := HOK.out (qq.getD k ⟨0, 0⟩) (by simp [List.getD, hkq])
      have hca : clashAt qq k = (vis (qq.take k) ^^^ (qq.getD k ⟨0, 0⟩).seen) &&& (shn (qq.take k) &&& (qq.getD k ⟨0, 0⟩).shows) := rfl
      have hvn : vis (qq.take (k + 1)) = vis (qq.take k) ||| (qq.getD k ⟨0, 0⟩).seen := by rw [take_snoc_getD (d := ⟨0, 0⟩) hkq, vis_snoc]
      have hsn : shn (qq.take (k + 1)) = shn (qq.take k) ||| (qq.getD k ⟨0, 0⟩).shows := by rw [take_snoc_getD (d := ⟨0, 0⟩) hkq, shn_snoc]
      obtain ⟨sh, hsh⟩ : ∃ sh, sh = (qq.getD k ⟨0, 0⟩).shows := ⟨_, rfl⟩
      obtain ⟨se, hse⟩ : ∃ se, se = (qq.getD k ⟨0, 0⟩).seen := ⟨_, rfl⟩
      have hsh1 : sh < 1024 := by rw [hsh]; exact hx.1
      have hse1 : se < 1024 := by rw [hse]; exact hx.2.1
      rw [← hsh, ← hse] at hca
      rw [← hsh] at g1 hsn
      rw [← hse] at g2 hvn
      obtain ⟨va, hva⟩ : ∃ va, va = vis (qq.take k) := ⟨_, rfl⟩
      obtain ⟨sa, hsa⟩ : ∃ sa, sa = shn (qq.take k) := ⟨_, rfl⟩
      rw [← hva] at hca hvn hv1 ⊢
      rw [← hsa] at hca hsn hs1 ⊢
      have b1 : bits .and .i64 (sa : Int) (sh : Int) = ((sa &&& sh : Nat) : Int) := and64 _ _ (by omega) (by omega)
      have b2 : bits .xor .i64 (va : Int) (se : Int) = ((va ^^^ se : Nat) : Int) := xor64 _ _ (by omega) (by omega)
      have a1 : sa &&& sh < 1024 := Nat.lt_of_le_of_lt Nat.and_le_left hs1
      have a2 : va ^^^ se < 1024 := Nat.xor_lt_two_pow (n := 10) hv1 hse1
      have b3 : bits .and .i64 ((va ^^^ se : Nat) : Int) ((sa &&& sh : Nat) : Int) = ((clashAt qq k : Nat) : Int) := by rw [hca]; exact and64 _ _ (by omega) (by omega)
      have b4 : bits .or .i64 (sa : Int) (sh : Int) = ((sa ||| sh : Nat) : Int) := or64 _ _ (by omega) (by omega)
      have b5 : bits .or .i64 (va : Int) (se : Int) = ((va ||| se : Nat) : Int) := or64 _ _ (by omega) (by omega)
      have HVN := Lib.hid hvn
      have HSN := Lib.hid hsn
      have k0 : (0 : Int) ≤ (k : Int) := by omega
      have k1 : (k : Int) < (nl : Int) := by omega
      obtain ⟨ca, hcc⟩ : ∃ ca, ca = clashAt qq k := ⟨_, rfl⟩
      rw [← hcc] at b3
      have HCC := Lib.hid hcc
      obtain ⟨u1, hu1⟩ : ∃ u1, u1 = va ^^^ se := ⟨_, rfl⟩
      obtain ⟨u2, hu2⟩ : ∃ u2, u2 = sa &&& sh := ⟨_, rfl⟩
      rw [← hu1] at b2 b3
      rw [← hu2] at b1 b3
      clear hca hvn hsn hx hsh hse hva hsa hcc hu1 hu2 hkq
      by_cases hz : ca = 0
      · have t0 : ((ca : Int) == 0) = true := by rw [hz]; rfl
        have HC2 := Lib.hid (show ∀ j, j < k + 1 → clashAt qq j = 0 from fun j hj => by
          by_cases e : j = k
          · subst e; rw [← HCC.out]; exact hz
          · exact HC.out j (by omega))
        subst hz
        go_wp2_with fail
        go_quiet (fail)
        go_wp2_with fail
        exact ⟨⟨k + 1, by omega, by go_num, by rw [HSN.out], by rw [HVN.out], HC2, Lib.hid (below_drewN HBR.out nq)⟩, by simp [intOf]; omega⟩
      · have HR := Lib.hid (show up (cost L.worn L.scr qq s) = 1000 by rw [cost_clash HOK.out (by rw [← HNL.out]; exact hkn) HC.out (by rw [← HCC.out]; exact hz)]; rfl)
        have t0 : ((ca : Int) == 0) = false := by rw [beq_eq_false_iff_ne]; omega
        have t1 : ((ca : Int) != 0) = true := by rw [bne_iff_ne]; omega
        go_wp2_with fail
        go_ret
        exact ⟨by rw [HR.out]; rfl, HB.out.trans (HBR.out.mono HB.out.size)⟩
    · obtain rfl : k = nl := by omega
      have htk : qq.take k = qq := List.take_of_length_le (by rw [HNL.out]; exact Nat.le_refl _)
      rw [htk] at hv1 hs1 ⊢
      have hcr := cost_ref (s := s) HOK.out (fun j hj => HC.out j (by rw [HNL.out]; exact hj)) hw10 hs10
      obtain ⟨va, hva⟩ : ∃ va, va = vis qq := ⟨_, rfl⟩
      obtain ⟨sa, hsa⟩ : ∃ sa, sa = shn qq := ⟨_, rfl⟩
      rw [← hva] at hcr hv1 ⊢
      rw [← hsa] at hcr hs1 ⊢
      have b1 : bits .and .i64 (s : Int) (sa : Int) = ((s &&& sa : Nat) : Int) := and64 _ _ (by omega) (by omega)
      have a1 : s &&& sa < 1024 := Nat.lt_of_le_of_lt Nat.and_le_left hs
      obtain ⟨u1, hu1⟩ : ∃ u1, u1 = s &&& sa := ⟨_, rfl⟩
      rw [← hu1] at b1 a1 hcr
      have b2 : bits .andNot .i64 (u1 : Int) (va : Int) = ((diff u1 va : Nat) : Int) := andNot64 _ _ (by omega)
      have b3 : bits .andNot .i64 (va : Int) (s : Int) = ((diff va s : Nat) : Int) := andNot64 _ _ (by omega)
      have a2 : diff u1 va < 1024 := diff_lt u1 va 10 a1
      have a3 : diff va s < 1024 := diff_lt va s 10 hv1
      obtain ⟨u2, hu2⟩ : ∃ u2, u2 = diff u1 va := ⟨_, rfl⟩
      obtain ⟨u3, hu3⟩ : ∃ u3, u3 = diff va s := ⟨_, rfl⟩
      rw [← hu2] at b2 a2 hcr
      rw [← hu3] at b3 a3 hcr
      have p2 := pc_le u2 (by omega)
      have p3 := pc_le u3 (by omega)
      have HC2 := Lib.hid (count_ref u2 wr a2)
      have HC3 := Lib.hid (count_ref u3 wr a3)
      obtain ⟨n2, hn2⟩ : ∃ n2, n2 = pc u2 := ⟨_, rfl⟩
      obtain ⟨n3, hn3⟩ : ∃ n3, n3 = pc u3 := ⟨_, rfl⟩
      rw [← hn2] at p2 hcr HC2
      rw [← hn3] at p3 hcr HC3
      have HCR := Lib.hid hcr
      have l1 : wr.cell? ⟨w.heap.size, 1, none⟩ = some (.int .i64 L.worn) := (HBX.out.below HBR.out HBX.out.size).cell 1
      have l2 : wr.cell? ⟨w.heap.size, 2, none⟩ = some (.int .i64 L.scr) := (HBX.out.below HBR.out HBX.out.size).cell 2
      obtain ⟨wn, hwn⟩ : ∃ wn, wn = L.worn := ⟨_, rfl⟩
      obtain ⟨sc, hsc⟩ : ∃ sc, sc = L.scr := ⟨_, rfl⟩
      rw [← hwn] at l1 hw10
      rw [← hsc] at l2 hs10
      have HWN := Lib.hid hwn
      have HSC := Lib.hid hsc
      clear hcr hva hsa hu1 hu2 hu3 hn2 hn3 htk hwn hsc
      by_cases h1 : wn < n2
      · have HR := Lib.hid (show up (cost L.worn L.scr qq s) = 1000 by rw [HCR.out, if_pos (.inl (by rw [← HWN.out]; exact h1))])
        go_wp2_with (first
          | (go_at_call 92; (with_reducible refine HC2.out.mono ?_); rintro e w' ⟨rfl, rfl⟩)
          | (go_at_call 92; (with_reducible refine HC3.out.mono ?_); rintro e w' ⟨rfl, rfl⟩))
        go_ret
        exact ⟨by rw [HR.out]; rfl, HB.out.trans (HBR.out.mono HB.out.size)⟩
      · by_cases h2 : sc < n3
        · have HR := Lib.hid (show up (cost L.worn L.scr qq s) = 1000 by rw [HCR.out, if_pos (.inr (by rw [← HSC.out]; exact h2))])
          have h2' : decide (sc < n3) = true := by simp [h2]
          go_wp2_with (first
            | (go_at_call 92; (with_reducible refine HC2.out.mono ?_); rintro e w' ⟨rfl, rfl⟩)
            | (go_at_call 92; (with_reducible refine HC3.out.mono ?_); rintro e w' ⟨rfl, rfl⟩))
          go_ret
          exact ⟨by rw [HR.out]; rfl, HB.out.trans (HBR.out.mono HB.out.size)⟩
        · have HR := Lib.hid (show up (cost L.worn L.scr qq s) = n2 + n3 by rw [HCR.out, if_neg (by rw [← HWN.out, ← HSC.out]; omega)])
          have h2' : decide (sc < n3) = false := by simp; omega
          go_wp2_with (first
            | (go_at_call 92; (with_reducible refine HC2.out.mono ?_); rintro e w' ⟨rfl, rfl⟩)
            | (go_at_call 92; (with_reducible refine HC3.out.mono ?_); rintro e w' ⟨rfl, rfl⟩))
          go_ret
          exact ⟨by rw [HR.out]; rfl, HB.out.trans (HBR.out.mono HB.out.size)⟩
end
section
open Go.RowKit Go.Shelf

theorem up_min {a b : Nat} (ha : a ≤ 81) (hb : b ≤ 81) : up (min a b) = min (up a) (up b) := by
  unfold up
  by_cases h1 : a = 81
  · by_cases h2 : b = 81
    · subst h1 h2; simp
    · rw [if_pos h1, if_neg h2, Nat.min_eq_right (by omega), if_neg h2, Nat.min_eq_right (by omega)]
  · by_cases h2 : b = 81
    · rw [if_neg h1, if_pos h2, Nat.min_eq_left (by omega), if_neg h1, Nat.min_eq_left (by omega)]
    · rw [if_neg h1, if_neg h2]
      by_cases h : a ≤ b
      · rw [Nat.min_eq_left h, if_neg h1]
      · rw [Nat.min_eq_right (by omega), if_neg h2]
theorem up_max {a b : Nat} (ha : a ≤ 81) (hb : b ≤ 81) : up (max a b) = max (up a) (up b) := by
  unfold up
  by_cases h1 : a = 81
  · rw [if_pos h1, Nat.max_eq_left (by omega), if_pos h1]
    split <;> omega
  · by_cases h2 : b = 81
    · rw [if_neg h1, if_pos h2, Nat.max_eq_right (by omega), if_pos h2]
      omega
    · rw [if_neg h1, if_neg h2]
      by_cases h : a ≤ b
      · rw [Nat.max_eq_right h, if_neg h2]
      · rw [Nat.max_eq_left (by omega), if_neg h1]
theorem up_least (l : List Nat) (h : ∀ x ∈ l, x ≤ 81) : leastOf 1000 (l.map up) = up (leastOf 81 l) := by
  have key : ∀ (l : List Nat) (a : Nat), a ≤ 81 → (∀ x ∈ l, x ≤ 81) → (l.map up).foldl min (up a) = up (l.foldl min a) := by
    intro l
    induction l with
    | nil => intro a _ _; rfl
    | cons x l ih =>
      intro a ha hl
      have hx := hl x (by simp)
      rw [List.map_cons, List.foldl_cons, List.foldl_cons, ← up_min ha hx]
      exact ih _ (by omega) fun y hy => hl y (by simp [hy])
  exact key l 81 (Nat.le_refl _) h
theorem fewest_up (L : Line) (hL : L.ok) (S : List Shape) (q : Nat) : up ((cutterOf L S).fewest q) = leastOf 1000 ((List.range S.length).map fun i => up ((cutterOf L S).need q i)) := by
  have hle := fun i => need_le L hL S q i
  unfold Cutter.fewest Cutter.row
  have e : (cutterOf L S).shapes = S := by simp only [cutterOf]
  rw [e]
  generalize (cutterOf L S).need q = g at hle ⊢
  have h1 := up_least ((List.range S.length).map g) (fun x hx => by
    obtain ⟨i, _, rfl⟩ := List.mem_map.1 hx
    exact hle i)
  rw [← h1, List.map_map]
  exact congrArg (leastOf 1000) (List.map_congr_left fun i _ => by simp only [Function.comp])
theorem up_le (n : Nat) (h : n ≤ 81) : up n ≤ 1000 := by unfold up; split <;> omega
/-- The boxes of a line and of a hand. -/
structure BoxLH (w wr : World) (lc hc : List Value) : Prop where
  one : Blok wr w.heap.size 25 lc
  two : Blok wr (w.heap.size + 1) 68 hc
  bel : Below w.heap.size w wr
theorem BoxLH.below {w wr w' : World} {a b : List Value} (h : BoxLH w wr a b) (hb : Below wr.heap.size wr w') : BoxLH w w' a b :=
  ⟨h.one.below hb h.one.size, h.two.below hb h.two.size, h.bel.trans (hb.mono h.bel.size)⟩
theorem BoxLH.drewN {w wr : World} {a b : List Value} (h : BoxLH w wr a b) (n : Nat) : BoxLH w (wr.drewN n) a b := h.below (below_drewN (Below.refl _ _) n)
theorem BoxLH.start (w : World) (a b : List Value) : BoxLH w ((w.alloc (.cells a.toArray 25)).alloc (.cells b.toArray 68)) a b := by
  have b2 := Blok.new (w.alloc (.cells a.toArray 25)) 68 b
  rw [World.size_alloc] at b2
  exact ⟨(Blok.new w 25 a).alloc _, b2, ((Below.refl _ _).alloc (Nat.le_refl _) _).alloc (by simp) _⟩
theorem rshape_at {w : World} {B : Nat} {S : List Shape} {A : Option Addr} {c : Nat} (h : RShapes w B (.slice A S.length c) (S.map Shape.raw)) {k : Nat} (hk : k < S.length) :
    ∃ x : Addr, A = some x ∧ x.block < B ∧ w.cell? (x.add (k * 2)) = some (.int .u8 (S[k]).letter) ∧ w.cell? (x.add (k * 2 + 1)) = some (.int .i64 (S[k]).strokes) := by
  obtain ⟨A', c', e, hf⟩ := RSl.form h
  injection e with e1 e2 e3
  subst e1
  obtain ⟨x, rfl, hb, hR⟩ := hf (by simp; omega)
  obtain ⟨h1, h2⟩ := hR k (S[k]).raw (by simp [hk])
  exact ⟨x, rfl, hb, h1, h2⟩
set_option maxRecDepth 100000 in
set_option maxHeartbeats 2000000 in
theorem least_refc (v : Value) (L : Line) (w : World) (hL : L.ok) (hv : RLineAt w w.heap.size v L.raw) (H : Hand) (hH : H ∈ L.hands) (sv : Value) (hs : RShapes w w.heap.size sv (H.shapes.map Shape.raw)) (q : Nat) (hq : q < L.squares.length) :
    Calls Try.prog 81 #[v, .agg #[.int .i64 H.low, .int .i64 H.high, sv], .int .i64 q] w fun e w' => e = .returned (.int .i64 (up ((cutterOf L H.shapes).fewest q))) ∧ Below w.heap.size w w' := by
  have HV := Lib.hid hv
  obtain ⟨vh, vs, rfl, hh, hsq⟩ := hv
  obtain ⟨AH, ch, rfl, -⟩ := RSl.form hh
  obtain ⟨AQ, cq, rfl, -⟩ := RSl.form hsq
  obtain ⟨As, cs, rfl, -⟩ := RSl.form hs
  rw [List.length_map] at hs ⊢
  have HOK := Lib.hid (hL.2.2.1 H hH)
  have HLK := Lib.hid hL
  obtain ⟨ns, hns⟩ : ∃ ns, ns = H.shapes.length := ⟨_, rfl⟩
  have hn8 : ns ≤ 8 := by rw [hns]; exact HOK.out.2.2.2.2.1
  obtain ⟨f, hf⟩ : ∃ f : Nat → Nat, f = fun k => leastOf 1000 ((List.range k).map fun i => up ((cutterOf L H.shapes).need q i)) := ⟨_, rfl⟩
  have hf0 : f 0 = 1000 := by rw [hf]; rfl
  have hfs : ∀ k, f (k + 1) = min (f k) (up ((cutterOf L H.shapes).need q k)) := fun k => by
    rw [hf]
    simp only [List.range_succ, List.map_append]
    exact leastOf_snoc _ _ _
  have hfe : f ns = up ((cutterOf L H.shapes).fewest q) := by
    rw [fewest_up L hL H.shapes q, hf, hns]
  have hfl : ∀ k, f k ≤ 1000 := fun k => by rw [hf]; exact leastOf_le _ _
  rw [← hns] at hs ⊢
  have HS := Lib.hid hs
  have HNS := Lib.hid hns
  have HF := Lib.hid hfs
  have HFE := Lib.hid hfe
  have HFL := Lib.hid hfl
  have HF0 := Lib.hid hf0
  have HQ := Lib.hid hq
  have hl1 : L.raw.hands.length = L.hands.length := by simp [Line.raw]
  have hl2 : L.raw.squares.length = L.squares.length := by simp [Line.raw]
  obtain ⟨wn, hwn⟩ : ∃ wn, wn = L.raw.worn := ⟨_, rfl⟩
  obtain ⟨sc, hsc⟩ : ∃ sc, sc = L.raw.scr := ⟨_, rfl⟩
  obtain ⟨tt, htt⟩ : ∃ tt, tt = L.raw.total := ⟨_, rfl⟩
  obtain ⟨nh, hnh⟩ : ∃ nh, nh = L.raw.hands.length := ⟨_, rfl⟩
  obtain ⟨m, hm⟩ : ∃ m, m = L.raw.squares.length := ⟨_, rfl⟩
  rw [← hwn, ← hsc, ← htt, ← hnh, ← hm] at HV ⊢
  have HCO := Lib.hid (fun (W : World) (hW : Below w.heap.size w W) (k : Nat) (hk : k < ns) => show Calls Try.prog 83 #[.agg #[.slice AH nh ch, .int .i64 wn, .int .i64 sc, .int .i64 tt, .slice AQ m cq], .int .i64 q, .int .i64 ((H.shapes[k]'(by rw [← HNS.out]; exact hk)).strokes)] W (fun e w' => e = .returned (.int .i64 (up ((cutterOf L H.shapes).need q k))) ∧ Below W.heap.size W w') by
    have hk' : k < H.shapes.length := by rw [← HNS.out]; exact hk
    have h := cost_refc _ L W HLK.out (HV.out.keep (SameA.of_below hW) hW.size) q (H.shapes[k]'hk').strokes HQ.out (HOK.out.2.2.2.2.2.1 _ (List.getElem_mem hk')).2.2.2
    have e : cost L.worn L.scr (L.squares[q]'HQ.out) (H.shapes[k]'hk').strokes = (cutterOf L H.shapes).need q k := by
      rw [cutterOf_need]
      have e1 : L.squares.getD q [] = L.squares[q]'HQ.out := by simp [List.getD, HQ.out]
      have e2 : H.shapes.getD k ⟨0, 0⟩ = H.shapes[k]'hk' := by simp [List.getD, hk']
      rw [e1, e2]
    rw [e] at h
    exact h)
  clear hs hns hf hfs hfe hfl hf0 hL hH hh hsq hq hl1 hl2 hwn hsc htt hnh hm
  go_enter Try.func81, Try.ntmps81
  go_wp2_with fail
  obtain ⟨W0, hW0⟩ : ∃ W0, W0 = (w.alloc (.cells #[.slice AH nh ch, .int .i64 wn, .int .i64 sc, .int .i64 tt, .slice AQ m cq] 25)).alloc (.cells #[.int .i64 H.low, .int .i64 H.high, .slice As ns cs] 68) := ⟨_, rfl⟩
  have HI0 := Lib.hid (show BoxLH w W0 [.slice AH nh ch, .int .i64 wn, .int .i64 sc, .int .i64 tt, .slice AQ m cq] [.int .i64 H.low, .int .i64 H.high, .slice As ns cs] by rw [hW0]; exact BoxLH.start _ _ _)
  rw [← hW0]
  clear hW0
  go_loopw [7, 8] (fun sn si wr => ∃ k : Nat, k ≤ ns ∧ si = .int .i64 k ∧ sn = .int .i64 (f k) ∧ Hid (BoxLH w wr [.slice AH nh ch, .int .i64 wn, .int .i64 sc, .int .i64 tt, .slice AQ m cq] [.int .i64 H.low, .int .i64 H.high, .slice As ns cs])) (fun _ si _ => ns - (intOf si).toNat)
  case atStart => exact ⟨0, by omega, rfl, by rw [HF0.out]; rfl, HI0⟩
  case round =>
    clear HI0
    obtain ⟨k, hk, rfl, rfl, HI⟩ := hrel
    have z2 := HI.out.two.size
    have z1 := HI.out.one.size
    have h2 : wr.cell? ⟨w.heap.size + 1, 2, none⟩ = some (.slice As ns cs) := HI.out.two.cell 2
    by_cases hkn : k < ns
    · have hkS : k < H.shapes.length := by rw [← HNS.out]; exact hkn
      have hrs : RShapes w w.heap.size (.slice As H.shapes.length cs) (H.shapes.map Shape.raw) := by rw [← HNS.out]; exact HS.out
      obtain ⟨x, rfl, hxb, d1, d20⟩ := rshape_at hrs hkS
      have d2 := (HI.out.bel.cell (p := x.add (k * 2 + 1)) (by rw [Addr.add_block]; exact hxb)).trans d20
      rw [← Addr.nth x (k * 2) 0] at d2
      have hxb2 : (x.add (k * 2)).block < wr.heap.size := by rw [Addr.add_block]; omega
      have b0 : wr.cell? ⟨w.heap.size, 0, none⟩ = some (.slice AH nh ch) := HI.out.one.cell 0
      have b1 : wr.cell? ⟨w.heap.size, 1, none⟩ = some (.int .i64 wn) := HI.out.one.cell 1
      have b2 : wr.cell? ⟨w.heap.size, 2, none⟩ = some (.int .i64 sc) := HI.out.one.cell 2
      have b3 : wr.cell? ⟨w.heap.size, 3, none⟩ = some (.int .i64 tt) := HI.out.one.cell 3
      have b4 : wr.cell? ⟨w.heap.size, 4, none⟩ = some (.slice AQ m cq) := HI.out.one.cell 4
      have HC := Lib.hid (HCO.out wr.drew HI.out.bel.drew k hkn)
      obtain ⟨st, hst⟩ : ∃ st, st = (H.shapes[k]'hkS).strokes := ⟨_, rfl⟩
      rw [← hst] at d2 HC
      have hfk := HFL.out k
      have hsk := HF.out k
      have hup : up ((cutterOf L H.shapes).need q k) ≤ 1000 := up_le _ (need_le L HLK.out H.shapes q k)
      obtain ⟨cc, hcc⟩ : ∃ cc, cc = up ((cutterOf L H.shapes).need q k) := ⟨_, rfl⟩
      rw [← hcc] at HC hsk hup
      obtain ⟨fk, hfk2⟩ : ∃ fk, fk = f k := ⟨_, rfl⟩
      rw [← hfk2] at hfk hsk ⊢
      have HSK := Lib.hid hsk
      have k0 : (0 : Int) ≤ (k : Int) := by omega
      have k1 : (k : Int) < (ns : Int) := by omega
      clear d1 d20 hst hcc hfk2 hsk hrs
      go_wp2_with fail
      go_region_held3 (fun w' => w'.cell? ⟨w.heap.size, 0, none⟩ = some (.slice AH nh ch) ∧ w'.cell? ⟨w.heap.size, 1, none⟩ = some (.int .i64 wn) ∧ w'.cell? ⟨w.heap.size, 2, none⟩ = some (.int .i64 sc) ∧ w'.cell? ⟨w.heap.size, 3, none⟩ = some (.int .i64 tt) ∧ w'.cell? ⟨w.heap.size, 4, none⟩ = some (.slice AQ m cq) ∧ w'.cell? ⟨w.heap.size + 1, 2, none⟩ = some (.slice (some x) ns cs) ∧ w'.cell? ⟨(x.add (k * 2)).block, (x.add (k * 2)).off + (0 + 1), none⟩ = some (.int .i64 st))
        (first
          | exact ⟨b0, b1, b2, b3, b4, h2, d2⟩
          | exact ⟨bcell hb5 z1 b0, bcell hb5 z1 b1, bcell hb5 z1 b2, bcell hb5 z1 b3, bcell hb5 z1 b4, bcell hb5 z2 h2, (hb5.cell (p := ⟨(x.add (k * 2)).block, (x.add (k * 2)).off + (0 + 1), none⟩) hxb2).trans d2⟩)
        (first
          | (go_at_call 83; refine HC.out.mono ?_; rintro e w5 ⟨rfl, hb5⟩))
      have HI5 := Lib.hid ((HI.out.drewN 1).below hb5)
      clear b0 b1 b2 b3 b4 h2 d2 hb5 HC
      by_cases hlt : cc < fk
      · have HV := Lib.hid (show f (k + 1) = cc by rw [HSK.out, Nat.min_eq_right (by omega)])
        go_wp2_with fail
        exact ⟨⟨k + 1, by omega, by go_num, by rw [HV.out]; simp; omega, HI5⟩, by simp [intOf]; omega⟩
      · have HV := Lib.hid (show f (k + 1) = fk by rw [HSK.out, Nat.min_eq_left (by omega)])
        go_wp2_with fail
        exact ⟨⟨k + 1, by omega, by go_num, by rw [HV.out]; simp; omega, HI5⟩, by simp [intOf]; omega⟩
    · obtain rfl : k = ns := by omega
      go_wp2_with fail
      go_ret
      exact ⟨by rw [← HFE.out]; rfl, HI.out.bel⟩

set_option maxRecDepth 100000 in
set_option maxHeartbeats 1000000 in
theorem shape_yes (H : Hand) (w : World) (sv : Value) (hs : RShapes w w.heap.size sv (H.shapes.map Shape.raw)) (h8 : H.shapes.length ≤ 8) (c i : Nat) (hi : i < H.shapes.length) (hc : (H.shapes[i]).letter = c) (hne : ∀ j (hj : j < H.shapes.length), j < i → (H.shapes[j]).letter ≠ c) :
    Calls Try.prog 82 #[.agg #[.int .i64 H.low, .int .i64 H.high, sv], .int .u8 c] w fun e w' => e = .returned (.tuple #[.int .i64 (H.shapes[i]).strokes, .bool true]) ∧ Below w.heap.size w w' := by
  obtain ⟨As, cs, rfl, -⟩ := RSl.form hs
  rw [List.length_map] at hs ⊢
  obtain ⟨ns, hns⟩ : ∃ ns, ns = H.shapes.length := ⟨_, rfl⟩
  have hin : i < ns := by rw [hns]; exact hi
  have hn8 : ns ≤ 8 := by rw [hns]; exact h8
  have HS := Lib.hid hs
  rw [← hns]
  have HNS := Lib.hid hns
  have HNE := Lib.hid hne
  have HI := Lib.hid hi
  have HC := Lib.hid hc
  clear hs hns hne hc h8
  go_enter Try.func82, Try.ntmps82
  go_wp2_with fail
  obtain ⟨W0, hW0⟩ : ∃ W0, W0 = w.alloc (.cells #[.int .i64 H.low, .int .i64 H.high, .slice As ns cs] 68) := ⟨_, rfl⟩
  have bx : Blok W0 w.heap.size 68 [.int .i64 H.low, .int .i64 H.high, .slice As ns cs] := by rw [hW0]; exact Blok.new _ _ _
  have hb0 : Below w.heap.size w W0 := by rw [hW0]; exact (Below.refl _ _).alloc (Nat.le_refl _) _
  have c2 : W0.cell? ⟨w.heap.size, 2, none⟩ = some (.slice As ns cs) := bx.cell 2
  have HB := Lib.hid hb0
  rw [← hW0]
  clear hW0 bx hb0
  go_loop [6] (fun si => ∃ k : Nat, k ≤ i ∧ si = .int .i64 k) (fun si => ns - (intOf si).toNat)
  case atStart => exact ⟨0, by omega, rfl⟩
  case round =>
    obtain ⟨k, hk, rfl⟩ := hrel
    have hkS : k < H.shapes.length := by rw [← HNS.out]; omega
    have hrs : RShapes w w.heap.size (.slice As H.shapes.length cs) (H.shapes.map Shape.raw) := by exact HS.out
    obtain ⟨x, rfl, hxb, d10, d20⟩ := rshape_at hrs hkS
    have d1 := (HB.out.cell (p := x.add (k * 2)) (by rw [Addr.add_block]; exact hxb)).trans d10
    have d2 := (HB.out.cell (p := x.add (k * 2 + 1)) (by rw [Addr.add_block]; exact hxb)).trans d20
    rw [← Addr.nth x (k * 2) 0] at d2
    have k0 : (0 : Int) ≤ (k : Int) := by omega
    have k1 : (k : Int) < (ns : Int) := by omega
    by_cases hki : k = i
    · subst hki
      obtain ⟨st, hst⟩ : ∃ st, st = (H.shapes[k]'hkS).strokes := ⟨_, rfl⟩
      rw [HC.out] at d1
      rw [← hst] at d2
      have HST := Lib.hid hst
      clear d10 d20 hrs hst
      have t0 : ((c : Int) == (c : Int)) = true := by simp
      go_wp2_with fail
      go_ret2
      exact ⟨by rw [← HST.out]; rfl, HB.out⟩
    · obtain ⟨lt, hlt⟩ : ∃ lt, lt = (H.shapes[k]'hkS).letter := ⟨_, rfl⟩
      have hne2 : lt ≠ c := by rw [hlt]; exact HNE.out k hkS (by omega)
      rw [← hlt] at d1
      have t0 : ((lt : Int) == (c : Int)) = false := by rw [beq_eq_false_iff_ne]; omega
      clear d10 d20 d2 hrs hlt
      go_wp2_with fail
      exact ⟨⟨k + 1, by omega, by go_num⟩, by simp [intOf]; omega⟩
set_option maxRecDepth 100000 in
set_option maxHeartbeats 1000000 in
theorem shape_none (H : Hand) (w : World) (sv : Value) (hs : RShapes w w.heap.size sv (H.shapes.map Shape.raw)) (h8 : H.shapes.length ≤ 8) (c : Nat) (hne : ∀ j (hj : j < H.shapes.length), (H.shapes[j]).letter ≠ c) :
    Calls Try.prog 82 #[.agg #[.int .i64 H.low, .int .i64 H.high, sv], .int .u8 c] w fun e w' => e = .returned (.tuple #[.int .i64 0, .bool false]) ∧ Below w.heap.size w w' := by
  obtain ⟨As, cs, rfl, -⟩ := RSl.form hs
  rw [List.length_map] at hs ⊢
  obtain ⟨ns, hns⟩ : ∃ ns, ns = H.shapes.length := ⟨_, rfl⟩
  have hn8 : ns ≤ 8 := by rw [hns]; exact h8
  have HS := Lib.hid hs
  rw [← hns]
  have HNS := Lib.hid hns
  have HNE := Lib.hid hne
  clear hs hns hne h8
  go_enter Try.func82, Try.ntmps82
  go_wp2_with fail
  obtain ⟨W0, hW0⟩ : ∃ W0, W0 = w.alloc (.cells #[.int .i64 H.low, .int .i64 H.high, .slice As ns cs] 68) := ⟨_, rfl⟩
  have bx : Blok W0 w.heap.size 68 [.int .i64 H.low, .int .i64 H.high, .slice As ns cs] := by rw [hW0]; exact Blok.new _ _ _
  have hb0 : Below w.heap.size w W0 := by rw [hW0]; exact (Below.refl _ _).alloc (Nat.le_refl _) _
  have c2 : W0.cell? ⟨w.heap.size, 2, none⟩ = some (.slice As ns cs) := bx.cell 2
  have HB := Lib.hid hb0
  rw [← hW0]
  clear hW0 bx hb0
  go_loop [6] (fun si => ∃ k : Nat, k ≤ ns ∧ si = .int .i64 k) (fun si => ns - (intOf si).toNat)
  case atStart => exact ⟨0, by omega, rfl⟩
  case round =>
    obtain ⟨k, hk, rfl⟩ := hrel
    by_cases hkn : k < ns
    · have hkS : k < H.shapes.length := by rw [← HNS.out]; exact hkn
      have hrs : RShapes w w.heap.size (.slice As H.shapes.length cs) (H.shapes.map Shape.raw) := by exact HS.out
      obtain ⟨x, rfl, hxb, d10, -⟩ := rshape_at hrs hkS
      have d1 := (HB.out.cell (p := x.add (k * 2)) (by rw [Addr.add_block]; exact hxb)).trans d10
      have k0 : (0 : Int) ≤ (k : Int) := by omega
      have k1 : (k : Int) < (ns : Int) := by omega
      obtain ⟨lt, hlt⟩ : ∃ lt, lt = (H.shapes[k]'hkS).letter := ⟨_, rfl⟩
      have hne2 : lt ≠ c := by rw [hlt]; exact HNE.out k hkS
      rw [← hlt] at d1
      have t0 : ((lt : Int) == (c : Int)) = false := by rw [beq_eq_false_iff_ne]; omega
      clear d10 hrs hlt
      go_wp2_with fail
      exact ⟨⟨k + 1, by omega, by go_num⟩, by simp [intOf]; omega⟩
    · obtain rfl : k = ns := by omega
      go_wp2_with fail
      go_ret2
      exact ⟨rfl, HB.out⟩
end
section

def Cutter.rising (c : Cutter) : Prop := c.shapes.Pairwise fun a b => a.letter < b.letter
theorem Cutter.rising.uniq {c : Cutter} (h : c.rising) {i j : Nat} (hi : i < c.shapes.length) (hj : j < c.shapes.length) (e : (c.shapes.getD j ⟨0, 0⟩).letter = (c.shapes.getD i ⟨0, 0⟩).letter) : j = i := by
  unfold Cutter.rising at h
  rw [List.pairwise_iff_getElem] at h
  simp only [List.getD, List.getElem?_eq_getElem hi, List.getElem?_eq_getElem hj, Option.getD_some] at e
  rcases Nat.lt_trichotomy i j with h1 | h1 | h1
  · have := h i j hi hj h1; omega
  · exact h1.symm
  · have := h j i hj hi h1; omega
theorem known_fewest_none (q z : Nat) (c : Cutter) (h : ∀ i, i < c.shapes.length → (c.shapes.getD i ⟨0, 0⟩).letter ≠ z) : (knownC q z c).fewest q = 81 := by
  apply Nat.le_antisymm (Cutter.fewest_le _ _)
  unfold Cutter.fewest Cutter.row
  refine le_leastOf (Nat.le_refl _) fun x hx => ?_
  obtain ⟨j, hj, rfl⟩ := List.mem_map.1 hx
  have hj' : j < c.shapes.length := List.mem_range.1 hj
  show 81 ≤ (if q = q ∧ (c.shapes.getD j ⟨0, 0⟩).letter ≠ z then 81 else c.need q j)
  rw [if_pos ⟨rfl, h j hj'⟩]
  exact Nat.le_refl _
theorem fewest_sum {c : Cutter} {q m : Nat} (hq : q < m) : c.fewest q ≤ c.sum m := by
  have h := c.sum_mono (j := q + 1) (k := m) hq
  rw [Cutter.sum_succ] at h
  omega
/-- A letter is known to be there: that fits just if it is one that fits. -/
theorem known_fits {c : Cutter} (hr : c.rising) {q m T z : Nat} (hc : ∀ i, c.need q i ≤ 81) (hq : q < m) (hT : T ≤ 80) :
    (knownC q z c).sum m ≤ T ↔ c.sum m ≤ T ∧ ∃ i, i < c.shapes.length ∧ (c.shapes.getD i ⟨0, 0⟩).letter = z ∧ c.need q i ≤ c.fewest q + (T - c.sum m) := by
  have hk := known_sum q z c (m - (q + 1))
  rw [show q + (m - (q + 1)) + 1 = m by omega] at hk
  have hf := fewest_sum (c := c) hq
  have hf2 := fewest_sum (c := knownC q z c) hq
  by_cases h : ∃ i, i < c.shapes.length ∧ (c.shapes.getD i ⟨0, 0⟩).letter = z
  · obtain ⟨i, hi, hz⟩ := h
    have e := known_fewest q z c i hi hz (hc i) fun j hj ej => hr.uniq hi hj (ej.trans hz.symm)
    have hn := fewest_need c q i hi
    rw [e] at hk
    constructor
    · intro hs
      exact ⟨by omega, i, hi, hz, by omega⟩
    · rintro ⟨hs, j, hj, hjz, hn2⟩
      obtain rfl : j = i := hr.uniq hi hj (hjz.trans hz.symm)
      omega
  · have e := known_fewest_none q z c fun i hi ei => h ⟨i, hi, ei⟩
    constructor
    · intro hs
      exfalso
      omega
    · rintro ⟨_, i, hi, hz, _⟩
      exact absurd ⟨i, hi, hz⟩ h
/-- The cutter as it is if some letters are known. -/
def knowsC (ns : List (Nat × Nat)) (c : Cutter) : Cutter := ns.foldl (fun c x => knownC x.1 x.2 c) c
theorem knowsC_snoc (ns : List (Nat × Nat)) (x : Nat × Nat) (c : Cutter) : knowsC (ns ++ [x]) c = knownC x.1 x.2 (knowsC ns c) := by simp [knowsC]
theorem knowsC_shapes (ns : List (Nat × Nat)) : ∀ c : Cutter, (knowsC ns c).shapes = c.shapes := by
  induction ns with
  | nil => intro c; rfl
  | cons x ns ih => intro c; exact ih _
theorem knowsC_le (ns : List (Nat × Nat)) : ∀ c : Cutter, (∀ q i, c.need q i ≤ 81) → ∀ q i, (knowsC ns c).need q i ≤ 81 := by
  induction ns with
  | nil => intro c h; exact h
  | cons x ns ih =>
    intro c h
    refine ih _ fun q i => ?_
    show (if q = x.1 ∧ (c.shapes.getD i ⟨0, 0⟩).letter ≠ x.2 then 81 else c.need q i) ≤ 81
    split
    · exact Nat.le_refl _
    · exact h q i
theorem knowsC_other (ns : List (Nat × Nat)) (q : Nat) (hq : ∀ x ∈ ns, x.1 ≠ q) : ∀ c : Cutter, (knowsC ns c).fewest q = c.fewest q ∧ ∀ i, (knowsC ns c).need q i = c.need q i := by
  induction ns with
  | nil => intro c; exact ⟨rfl, fun _ => rfl⟩
  | cons x ns ih =>
    intro c
    have hx : q ≠ x.1 := fun e => hq x (by simp) e.symm
    obtain ⟨h1, h2⟩ := ih (fun y hy => hq y (by simp [hy])) (knownC x.1 x.2 c)
    have h1' : (knowsC (x :: ns) c).fewest q = (knownC x.1 x.2 c).fewest q := h1
    refine ⟨h1'.trans (known_fewest_other x.1 x.2 c q hx), fun i => ?_⟩
    have h2' : (knowsC (x :: ns) c).need q i = (knownC x.1 x.2 c).need q i := h2 i
    rw [h2']
    show (if q = x.1 ∧ (c.shapes.getD i ⟨0, 0⟩).letter ≠ x.2 then 81 else c.need q i) = c.need q i
    rw [if_neg (fun h => hx h.1)]
/-- Each square at most once. -/
def Apart (ns : List (Nat × Nat)) : Prop := ns.Pairwise fun a b => a.1 ≠ b.1
theorem apart_lt {ns : List (Nat × Nat)} (h : Apart ns) {k : Nat} (hk : k < ns.length) : ∀ x ∈ ns.take k, x.1 ≠ (ns[k]).1 := by
  intro x hx
  obtain ⟨j, hj, e⟩ := List.getElem_of_mem hx
  rw [List.getElem_take] at e
  rw [List.length_take] at hj
  unfold Apart at h
  rw [List.pairwise_iff_getElem] at h
  rw [← e]
  exact h j k (by omega) hk (by omega)
theorem apart_gt {ns : List (Nat × Nat)} (h : Apart ns) {k : Nat} (hk : k < ns.length) : ∀ x ∈ ns.drop (k + 1), x.1 ≠ (ns[k]).1 := by
  intro x hx
  obtain ⟨j, hj, e⟩ := List.getElem_of_mem hx
  rw [List.getElem_drop] at e
  rw [List.length_drop] at hj
  unfold Apart at h
  rw [List.pairwise_iff_getElem] at h
  rw [← e]
  exact fun e2 => h k (k + 1 + j) hk (by omega) (by omega) e2.symm
/-- What a square needs, after k of the letters that are known. -/
def sqUp (c : Cutter) (ns : List (Nat × Nat)) (q k : Nat) : Nat := up ((knowsC (ns.take k) c).fewest q)
theorem sqUp_le (c : Cutter) (ns : List (Nat × Nat)) (q k : Nat) : sqUp c ns q k ≤ 1000 := up_le _ (Cutter.fewest_le _ _)
theorem sqUp_zero (c : Cutter) (ns : List (Nat × Nat)) (q : Nat) : sqUp c ns q 0 = up (c.fewest q) := rfl
theorem sqUp_other {c : Cutter} {ns : List (Nat × Nat)} {q k : Nat} (hk : k < ns.length) (h : (ns[k]).1 ≠ q) : sqUp c ns q (k + 1) = sqUp c ns q k := by
  unfold sqUp
  rw [List.take_succ_eq_append_getElem hk, knowsC_snoc, known_fewest_other _ _ _ _ (fun e => h e.symm)]
theorem up_mono {a b : Nat} (h : a ≤ b) (hb : b ≤ 81) : up a ≤ up b := by
  unfold up
  split
  · rw [if_pos (by omega)]; exact Nat.le_refl _
  · split <;> omega
theorem sqUp_at {c : Cutter} (hr : c.rising) (hc : ∀ q i, c.need q i ≤ 81) {ns : List (Nat × Nat)} (ha : Apart ns) {q k i : Nat} (hk : k < ns.length) (h : (ns[k]).1 = q) (hi : i < c.shapes.length) (hz : (c.shapes.getD i ⟨0, 0⟩).letter = (ns[k]).2) :
    sqUp c ns q (k + 1) = max (sqUp c ns q k) (up (c.need q i)) ∧ sqUp c ns q k = up (c.fewest q) := by
  obtain ⟨h1, h2⟩ := knowsC_other (ns.take k) q (fun x hx e => apart_lt ha hk x hx (e.trans h.symm)) c
  have hs := knowsC_shapes (ns.take k) c
  have e : sqUp c ns q (k + 1) = up (c.need q i) := by
    unfold sqUp
    rw [List.take_succ_eq_append_getElem hk, knowsC_snoc, h, ← h2 i]
    congr 1
    refine known_fewest q _ _ i (by rw [hs]; exact hi) (by rw [hs]; exact hz) (by rw [h2]; exact hc q i) fun j hj ej => ?_
    rw [hs] at hj ej
    exact hr.uniq hi hj (ej.trans hz.symm)
  have e2 : sqUp c ns q k = up (c.fewest q) := by unfold sqUp; rw [h1]
  refine ⟨?_, e2⟩
  rw [e, e2, Nat.max_eq_right (up_mono (fewest_need c q i hi) (hc q i))]
/-- A letter that the hand does not have. -/
theorem knows_lack {c : Cutter} {ns : List (Nat × Nat)} (ha : Apart ns) {k m : Nat} (hk : k < ns.length) (hq : (ns[k]).1 < m) (h : ∀ i, i < c.shapes.length → (c.shapes.getD i ⟨0, 0⟩).letter ≠ (ns[k]).2) : 81 ≤ (knowsC ns c).sum m := by
  have e : ns = ns.take k ++ [ns[k]] ++ ns.drop (k + 1) := by rw [← List.take_succ_eq_append_getElem hk, List.take_append_drop]
  have h1 : (knowsC (ns.take k ++ [ns[k]]) c).fewest (ns[k]).1 = 81 := by
    rw [knowsC_snoc]
    refine known_fewest_none _ _ _ fun i hi => ?_
    rw [knowsC_shapes] at hi ⊢
    exact h i hi
  have h2 := (knowsC_other (ns.drop (k + 1)) (ns[k]).1 (apart_gt ha hk) (knowsC (ns.take k ++ [ns[k]]) c)).1
  have h3 : knowsC ns c = knowsC (ns.drop (k + 1)) (knowsC (ns.take k ++ [ns[k]]) c) := by
    conv => lhs; rw [e]
    unfold knowsC
    rw [List.foldl_append]
  have h4 := fewest_sum (c := knowsC ns c) hq
  rw [h3, h2, h1] at h4
  rw [h3]
  exact h4
/-- The sum of all squares, as the reference counts. -/
def upSum (c : Cutter) (m : Nat) : Nat := ((List.range m).map fun q => up (c.fewest q)).sum
theorem upSum_succ (c : Cutter) (m : Nat) : upSum c (m + 1) = upSum c m + up (c.fewest m) := by simp [upSum, List.range_succ]
theorem le_up (n : Nat) : n ≤ 81 → n ≤ up n := by unfold up; split <;> omega
theorem upSum_ge (c : Cutter) (m : Nat) : c.sum m ≤ upSum c m := by
  induction m with
  | zero => simp [Cutter.sum, upSum]
  | succ m ih =>
    rw [Cutter.sum_succ, upSum_succ]
    have := le_up _ (c.fewest_le m)
    omega
theorem upSum_eq {c : Cutter} {m : Nat} (h : c.sum m ≤ 80) : upSum c m = c.sum m := by
  induction m with
  | zero => simp [Cutter.sum, upSum]
  | succ m ih =>
    rw [Cutter.sum_succ] at h
    rw [Cutter.sum_succ, upSum_succ, ih (by omega)]
    unfold up
    rw [if_neg (by omega)]
theorem upSum_iff {c : Cutter} {m T : Nat} (hT : T ≤ 80) : upSum c m ≤ T ↔ c.sum m ≤ T := by
  have h1 := upSum_ge c m
  constructor
  · intro h; omega
  · intro h; rw [upSum_eq (by omega)]; exact h
theorem upSum_le (c : Cutter) (m : Nat) : upSum c m ≤ 1000 * m := by
  induction m with
  | zero => simp [upSum]
  | succ m ih =>
    rw [upSum_succ]
    have := up_le _ (c.fewest_le m)
    omega
/-- What the reference's marks comes to. -/
def MarksIs (c : Cutter) (m : Nat) (ns : List (Nat × Nat)) (r : Nat) : Prop := r ≤ 8000 ∧ (∀ T, T ≤ 80 → (r ≤ T ↔ (knowsC ns c).sum m ≤ T)) ∧ (ns = [] → r = upSum c m)
theorem MarksIs.sum {c : Cutter} {m : Nat} {ns : List (Nat × Nat)} (hm : m ≤ 8) : MarksIs c m ns (upSum (knowsC ns c) m) :=
  ⟨by have := upSum_le (knowsC ns c) m; omega, fun T hT => upSum_iff hT, fun h => by subst h; rfl⟩
theorem MarksIs.lack {c : Cutter} {ns : List (Nat × Nat)} (ha : Apart ns) {k m : Nat} (hk : k < ns.length) (hq : (ns[k]).1 < m) (h : ∀ i, i < c.shapes.length → (c.shapes.getD i ⟨0, 0⟩).letter ≠ (ns[k]).2) : MarksIs c m ns 1000 := by
  have h1 := knows_lack ha hk hq h
  exact ⟨by omega, fun T hT => by constructor <;> intro h <;> omega, fun h => by subst h; simp at hk⟩
/-- No square needs more than 10 marks, if a letter can be there. -/
theorem cnt_apart (a b : Nat) (h : a &&& b = 0) : ∀ k, cntTo a k + cntTo b k ≤ k := by
  intro k
  induction k with
  | zero => simp [cntTo]
  | succ k ih =>
    simp only [cntTo]
    have h2 : (a.testBit k && b.testBit k) = false := by rw [← Nat.testBit_and, h, Nat.zero_testBit]
    rw [Nat.testBit_eq_decide_div_mod_eq, Nat.testBit_eq_decide_div_mod_eq] at h2
    have ha := Nat.mod_lt (a / 2 ^ k) (show 0 < 2 by decide)
    have hb := Nat.mod_lt (b / 2 ^ k) (show 0 < 2 by decide)
    simp only [Bool.and_eq_false_iff, decide_eq_false_iff_not] at h2
    omega
theorem cost_ten {wn sc : Nat} {q : List Light} {s : Nat} (hok : ∀ x ∈ q, x.ok) (h : cost wn sc q s ≠ 81) : cost wn sc q s ≤ 10 := by
  have hv := vis_lt q fun x hx => (hok x hx).2.1
  have hh := hidn_lt q fun x hx => (hok x hx).1
  by_cases h0 : 0 < pc (vis q &&& hidn q)
  · exact absurd (cost_con h0) h
  · by_cases h1 : sc < pc (diff (vis q) s)
    · exact absurd (cost_scr h1) h
    · by_cases h2 : wn < pc (hidn q &&& s)
      · exact absurd (cost_worn h2) h
      · rw [cost_sum h0 h1 h2]
        have l1 : diff (vis q) s < 1024 := diff_lt _ _ 10 hv
        have l2 : hidn q &&& s < 1024 := Nat.lt_of_le_of_lt Nat.and_le_left hh
        have e1 := cnt_pc ⟨_, l1⟩
        have e2 := cnt_pc ⟨_, l2⟩
        simp only at e1 e2
        rw [← e1, ← e2]
        refine cnt_apart _ _ ?_ 10
        apply Nat.eq_of_testBit_eq
        intro i
        rw [Nat.testBit_and, diff_bit, Nat.testBit_and, Nat.zero_testBit]
        cases (vis q).testBit i <;> cases (hidn q).testBit i <;> cases s.testBit i <;> rfl
theorem fewest_ten (L : Line) (hL : L.ok) {H : Hand} (q : Nat) (hq : q < L.squares.length) (h : (cutterOf L H.shapes).fewest q ≠ 81) : (cutterOf L H.shapes).fewest q ≤ 10 := by
  have hlt : (cutterOf L H.shapes).fewest q < 81 := by
    have := (cutterOf L H.shapes).fewest_le q
    omega
  obtain ⟨k, hk, e⟩ := fewest_at _ q hlt
  rw [← e] at h ⊢
  rw [cutterOf_need] at h ⊢
  have e1 : L.squares.getD q [] = L.squares[q] := by simp [List.getD, hq]
  have hk' : k < H.shapes.length := hk
  have e2 : H.shapes.getD k ⟨0, 0⟩ = H.shapes[k] := by simp [List.getD, hk']
  rw [e1, e2] at h ⊢
  exact cost_ten (hL.2.2.2.2.2.2.2.2 _ (List.getElem_mem hq)).2 h
theorem upSum_small (L : Line) (hL : L.ok) {H : Hand} (n : Nat) (hn : n ≤ L.squares.length) (h : upSum (cutterOf L H.shapes) n < 1000) : (cutterOf L H.shapes).sum n ≤ 10 * n := by
  induction n with
  | zero => simp [Cutter.sum]
  | succ n ih =>
    rw [upSum_succ] at h
    rw [Cutter.sum_succ]
    have h1 : (cutterOf L H.shapes).fewest n ≠ 81 := fun e => by
      rw [e] at h
      unfold up at h
      rw [if_pos rfl] at h
      omega
    have := fewest_ten L hL n (by omega) h1
    have := ih (by omega) (by omega)
    omega
/-- The least of all hands, as the reference counts. -/
def refMarks (L : Line) (n : Nat) : Nat := leastOf 1000 ((L.hands.take n).map fun H => upSum (cutterOf L H.shapes) L.squares.length)
theorem marks_ref {L : Line} (hL : L.ok) : (marksOf L = 81 ∧ refMarks L L.hands.length = 1000) ∨ (marksOf L < 81 ∧ refMarks L L.hands.length = marksOf L) := by
  have hm8 := hL.2.2.2.2.2.2.2.1
  have e1 : marksOf L = leastOf 81 (L.hands.map fun H => (cutterOf L H.shapes).sum L.squares.length) := by
    unfold marksOf sumsOf cuttersOf
    rw [List.map_map]
    rfl
  have e2 : refMarks L L.hands.length = leastOf 1000 (L.hands.map fun H => upSum (cutterOf L H.shapes) L.squares.length) := by
    unfold refMarks
    rw [List.take_length]
  rw [e1, e2]
  have key : ∀ (l : List Hand), (∀ H ∈ l, H ∈ L.hands) → ∀ a b : Nat, ((a = 81 ∧ b = 1000) ∨ (a < 81 ∧ b = a)) →
      ((leastOf a (l.map fun H => (cutterOf L H.shapes).sum L.squares.length) = 81 ∧ leastOf b (l.map fun H => upSum (cutterOf L H.shapes) L.squares.length) = 1000) ∨
       (leastOf a (l.map fun H => (cutterOf L H.shapes).sum L.squares.length) < 81 ∧ leastOf b (l.map fun H => upSum (cutterOf L H.shapes) L.squares.length) = leastOf a (l.map fun H => (cutterOf L H.shapes).sum L.squares.length))) := by
    intro l
    induction l with
    | nil => intro _ a b h; exact h
    | cons H l ih =>
      intro hl a b h
      have hge := upSum_ge (cutterOf L H.shapes) L.squares.length
      have hsm := upSum_small L hL (H := H) L.squares.length (Nat.le_refl _)
      have heq := upSum_eq (c := cutterOf L H.shapes) (m := L.squares.length)
      refine ih (fun X hX => hl X (by simp [hX])) (min a ((cutterOf L H.shapes).sum L.squares.length)) (min b (upSum (cutterOf L H.shapes) L.squares.length)) ?_
      generalize (cutterOf L H.shapes).sum L.squares.length = s at *
      generalize upSum (cutterOf L H.shapes) L.squares.length = u at *
      by_cases hs : s ≤ 80
      · have := heq hs
        omega
      · have hu : 1000 ≤ u := by
          rcases Nat.lt_or_ge u 1000 with h1 | h1
          · have := hsm h1; omega
          · exact h1
        omega
  exact key L.hands (fun _ h => h) 81 1000 (.inl ⟨rfl, rfl⟩)
end
section
open Go.RowKit Go.Shelf

/-- Letters that are known, in memory. -/
def rneedsR (w : World) (ns : List (Nat × Nat)) (x : Addr) : Prop :=
  ∀ k y, ns[k]? = some y → w.cell? (x.add (k * 2)) = some (.int .i64 (y.1 : Nat)) ∧ w.cell? (x.add (k * 2 + 1)) = some (.int .u8 (y.2 : Nat))
def RNeeds (w : World) (B : Nat) (v : Value) (ns : List (Nat × Nat)) : Prop := RSl B v ns.length (rneedsR w ns)
theorem RNeeds.keep {w w' : World} {B B' : Nat} {v : Value} {ns : List (Nat × Nat)} (h : RNeeds w B v ns) (hs : SameA B w w') (hB : B ≤ B') : RNeeds w' B' v ns :=
  RSl.mono h hB fun x hb hr k y hy => ⟨(hs _ (by rw [Addr.add_block]; exact hb)).trans (hr k y hy).1, (hs _ (by rw [Addr.add_block]; exact hb)).trans (hr k y hy).2⟩
theorem RNeeds.nil (w : World) (B : Nat) : RNeeds w B (.slice none 0 0) [] := .inl ⟨rfl, rfl⟩
theorem rneed_at {w : World} {B : Nat} {ns : List (Nat × Nat)} {A : Option Addr} {c : Nat} (h : RNeeds w B (.slice A ns.length c) ns) {k : Nat} (hk : k < ns.length) :
    ∃ x : Addr, A = some x ∧ x.block < B ∧ w.cell? (x.add (k * 2)) = some (.int .i64 (ns[k]).1) ∧ w.cell? (x.add (k * 2 + 1)) = some (.int .u8 (ns[k]).2) := by
  obtain ⟨A', c', e, hf⟩ := RSl.form h
  injection e with e1 e2 e3
  subst e1
  obtain ⟨x, rfl, hb, hR⟩ := hf (by omega)
  obtain ⟨h1, h2⟩ := hR k (ns[k]) (by simp [hk])
  exact ⟨x, rfl, hb, h1, h2⟩
def MarksRPost (c : Cutter) (m : Nat) (ns : List (Nat × Nat)) (w : World) (e : Ending) (w' : World) : Prop := ∃ r : Nat, MarksIs c m ns r ∧ e = .returned (.int .i64 r) ∧ Below w.heap.size w w'
theorem Hand.ok.rising {L : Line} {H : Hand} (h : H.ok) : (cutterOf L H.shapes).rising := h.2.2.2.2.2.2
section
variable {v : Value} {L : Line} {w : World} {H : Hand} {sv : Value}
theorem cost_at (hL : L.ok) (hv : RLineAt w w.heap.size v L.raw) (hH : H ∈ L.hands) {W : World} (hW : Below w.heap.size w W) {q k : Nat} (hq : q < L.squares.length) (hk : k < H.shapes.length) :
    Calls Try.prog 83 #[v, .int .i64 q, .int .i64 (H.shapes[k]).strokes] W fun e w' => e = .returned (.int .i64 (up ((cutterOf L H.shapes).need q k))) ∧ Below W.heap.size W w' := by
  have h := cost_refc _ L W hL (hv.keep (SameA.of_below hW) hW.size) q (H.shapes[k]).strokes hq ((hL.2.2.1 H hH).2.2.2.2.2.1 _ (List.getElem_mem hk)).2.2.2
  have e : cost L.worn L.scr (L.squares[q]) (H.shapes[k]).strokes = (cutterOf L H.shapes).need q k := by
    rw [cutterOf_need]
    have e1 : L.squares.getD q [] = L.squares[q] := by simp [List.getD, hq]
    have e2 : H.shapes.getD k ⟨0, 0⟩ = H.shapes[k] := by simp [List.getD, hk]
    rw [e1, e2]
  rw [e] at h
  exact h
theorem least_at (hL : L.ok) (hv : RLineAt w w.heap.size v L.raw) (hH : H ∈ L.hands) (hs : RShapes w w.heap.size sv (H.shapes.map Shape.raw)) {W : World} (hW : Below w.heap.size w W) {q : Nat} (hq : q < L.squares.length) :
    Calls Try.prog 81 #[v, .agg #[.int .i64 H.low, .int .i64 H.high, sv], .int .i64 q] W fun e w' => e = .returned (.int .i64 (up ((cutterOf L H.shapes).fewest q))) ∧ Below W.heap.size W w' :=
  least_refc v L W hL (hv.keep (SameA.of_below hW) hW.size) H hH sv (hs.keep (SameA.of_below hW) hW.size) q hq
theorem shape_in (hL : L.ok) (hH : H ∈ L.hands) (hs : RShapes w w.heap.size sv (H.shapes.map Shape.raw)) {W : World} (hW : Below w.heap.size w W) {c i : Nat} (hi : i < H.shapes.length) (hc : (H.shapes.getD i ⟨0, 0⟩).letter = c) :
    Calls Try.prog 82 #[.agg #[.int .i64 H.low, .int .i64 H.high, sv], .int .u8 c] W fun e w' => e = .returned (.tuple #[.int .i64 (H.shapes[i]).strokes, .bool true]) ∧ Below W.heap.size W w' := by
  have e2 : H.shapes.getD i ⟨0, 0⟩ = H.shapes[i] := by simp [List.getD, hi]
  refine shape_yes H W sv (hs.keep (SameA.of_below hW) hW.size) (hL.2.2.1 H hH).2.2.2.2.1 c i hi (by rw [← e2]; exact hc) fun j hj hji e => ?_
  have e3 : H.shapes.getD j ⟨0, 0⟩ = H.shapes[j] := by simp [List.getD, hj]
  have := (Hand.ok.rising (L := L) (hL.2.2.1 H hH)).uniq (i := i) (j := j) hi hj (by
    show (H.shapes.getD j ⟨0, 0⟩).letter = (H.shapes.getD i ⟨0, 0⟩).letter
    rw [e3, hc]; exact e)
  omega
theorem shape_out (hL : L.ok) (hH : H ∈ L.hands) (hs : RShapes w w.heap.size sv (H.shapes.map Shape.raw)) {W : World} (hW : Below w.heap.size w W) {c : Nat} (hne : ∀ i, i < H.shapes.length → (H.shapes.getD i ⟨0, 0⟩).letter ≠ c) :
    Calls Try.prog 82 #[.agg #[.int .i64 H.low, .int .i64 H.high, sv], .int .u8 c] W fun e w' => e = .returned (.tuple #[.int .i64 0, .bool false]) ∧ Below W.heap.size W w' :=
  shape_none H W sv (hs.keep (SameA.of_below hW) hW.size) (hL.2.2.1 H hH).2.2.2.2.1 c fun j hj e => by
    have e3 : H.shapes.getD j ⟨0, 0⟩ = H.shapes[j] := by simp [List.getD, hj]
    exact hne j hj (by rw [e3]; exact e)
end
/-- The sum of the squares below i. -/
def mSum (c : Cutter) (ns : List (Nat × Nat)) (i : Nat) : Nat := upSum (knowsC ns c) i

set_option maxRecDepth 100000 in
set_option maxHeartbeats 4000000 in
theorem marks_refc (v : Value) (L : Line) (w : World) (hL : L.ok) (hv : RLineAt w w.heap.size v L.raw) (H : Hand) (hH : H ∈ L.hands) (sv : Value) (hs : RShapes w w.heap.size sv (H.shapes.map Shape.raw))
    (ns : List (Nat × Nat)) (nv : Value) (hn : RNeeds w w.heap.size nv ns) (ha : Apart ns) (hn2 : ns.length ≤ 2) (hsq : ∀ x ∈ ns, x.1 < L.squares.length) :
    Calls Try.prog 69 #[v, .agg #[.int .i64 H.low, .int .i64 H.high, sv], nv] w (MarksRPost (cutterOf L H.shapes) L.squares.length ns w) := by
  have HV := Lib.hid hv
  obtain ⟨vh, vs, rfl, hh, hq⟩ := hv
  obtain ⟨AH, ch, rfl, -⟩ := RSl.form hh
  obtain ⟨AQ, cq, rfl, -⟩ := RSl.form hq
  obtain ⟨As, cs, rfl, -⟩ := RSl.form hs
  obtain ⟨An, cn, rfl, -⟩ := RSl.form hn
  have hm8 : L.squares.length ≤ 8 := hL.2.2.2.2.2.2.2.1
  have hl2 : L.raw.squares.length = L.squares.length := by simp [Line.raw]
  rw [hl2] at HV ⊢
  obtain ⟨m, hm⟩ : ∃ m, m = L.squares.length := ⟨_, rfl⟩
  obtain ⟨nl, hnl⟩ : ∃ nl, nl = ns.length := ⟨_, rfl⟩
  obtain ⟨C, hC⟩ : ∃ C, C = cutterOf L H.shapes := ⟨_, rfl⟩
  have HLE := Lib.hid (fun (W : World) (hW : Below w.heap.size w W) (q : Nat) (hq : q < m) => show Calls Try.prog 81 #[.agg #[.slice AH L.raw.hands.length ch, .int .i64 L.raw.worn, .int .i64 L.raw.scr, .int .i64 L.raw.total, .slice AQ m cq], .agg #[.int .i64 H.low, .int .i64 H.high, .slice As (H.shapes.map Shape.raw).length cs], .int .i64 q] W (fun e w' => e = .returned (.int .i64 (sqUp C ns q 0)) ∧ Below W.heap.size W w') by
    rw [hC, sqUp_zero, hm]
    exact least_at hL HV.out hH hs hW (by rw [← hm]; exact hq))
  have HCO := Lib.hid (fun (W : World) (hW : Below w.heap.size w W) (q : Nat) (hq : q < m) (k : Nat) (hk : k < H.shapes.length) => show Calls Try.prog 83 #[.agg #[.slice AH L.raw.hands.length ch, .int .i64 L.raw.worn, .int .i64 L.raw.scr, .int .i64 L.raw.total, .slice AQ m cq], .int .i64 q, .int .i64 (H.shapes[k]).strokes] W (fun e w' => e = .returned (.int .i64 (up (C.need q k))) ∧ Below W.heap.size W w') by
    rw [hC, hm]
    exact cost_at hL HV.out hH hW (by rw [← hm]; exact hq) hk)
  have HSI := Lib.hid (fun (W : World) (hW : Below w.heap.size w W) (c i : Nat) (hi : i < H.shapes.length) (hc : (H.shapes.getD i ⟨0, 0⟩).letter = c) => show Calls Try.prog 82 #[.agg #[.int .i64 H.low, .int .i64 H.high, .slice As (H.shapes.map Shape.raw).length cs], .int .u8 c] W (fun e w' => e = .returned (.tuple #[.int .i64 (H.shapes[i]).strokes, .bool true]) ∧ Below W.heap.size W w') from shape_in hL hH hs hW hi hc)
  have HSO := Lib.hid (fun (W : World) (hW : Below w.heap.size w W) (c : Nat) (hne : ∀ i, i < H.shapes.length → (H.shapes.getD i ⟨0, 0⟩).letter ≠ c) => show Calls Try.prog 82 #[.agg #[.int .i64 H.low, .int .i64 H.high, .slice As (H.shapes.map Shape.raw).length cs], .int .u8 c] W (fun e w' => e = .returned (.tuple #[.int .i64 0, .bool false]) ∧ Below W.heap.size W w') from shape_out hL hH hs hW hne)
  have HAT := Lib.hid (fun (k : Nat) (hk : k < ns.length) => rneed_at hn hk)
  have HCR := Lib.hid (show C.rising by rw [hC]; exact Hand.ok.rising (hL.2.2.1 H hH))
  have HCN := Lib.hid (show ∀ q i, C.need q i ≤ 81 by rw [hC]; exact fun q i => need_le L hL H.shapes q i)
  have HCS := Lib.hid (show C.shapes = H.shapes by rw [hC]; simp only [cutterOf])
  have HAP := Lib.hid ha
  have HSQ := Lib.hid (show ∀ x ∈ ns, x.1 < m by rw [hm]; exact hsq)
  obtain ⟨wn, hwn⟩ : ∃ wn, wn = L.raw.worn := ⟨_, rfl⟩
  obtain ⟨sc, hsc⟩ : ∃ sc, sc = L.raw.scr := ⟨_, rfl⟩
  obtain ⟨tt, htt⟩ : ∃ tt, tt = L.raw.total := ⟨_, rfl⟩
  obtain ⟨nh, hnh⟩ : ∃ nh, nh = L.raw.hands.length := ⟨_, rfl⟩
  obtain ⟨nsh, hnsh⟩ : ∃ nsh, nsh = (H.shapes.map Shape.raw).length := ⟨_, rfl⟩
  rw [← hwn, ← hsc, ← htt, ← hnh] at HLE HCO
  rw [← hnsh] at HLE HSI HSO
  rw [← hwn, ← hsc, ← htt, ← hnh, ← hm, ← hC, ← hnl, ← hnsh]
  rw [← hm] at hm8
  rw [← hnl] at hn2
  have HNL := Lib.hid hnl
  clear hL HV hh hq hs hn hH ha hsq hl2 hwn hsc htt hnh hm hnl hC hnsh
  go_enter Try.func69, Try.ntmps69
  go_wp2_with fail
  obtain ⟨W0, hW0⟩ : ∃ W0, W0 = (w.alloc (.cells #[.slice AH nh ch, .int .i64 wn, .int .i64 sc, .int .i64 tt, .slice AQ m cq] 25)).alloc (.cells #[.int .i64 H.low, .int .i64 H.high, .slice As nsh cs] 68) := ⟨_, rfl⟩
  have HI0 := Lib.hid (show BoxLH w W0 [.slice AH nh ch, .int .i64 wn, .int .i64 sc, .int .i64 tt, .slice AQ m cq] [.int .i64 H.low, .int .i64 H.high, .slice As nsh cs] by rw [hW0]; exact BoxLH.start _ _ _)
  rw [← hW0]
  clear hW0
  go_loopw [7, 8] (fun su si wr => ∃ i : Nat, i ≤ m ∧ si = .int .i64 i ∧ su = .int .i64 (mSum C ns i) ∧ Hid (∀ k (hk : k < ns.length), (ns[k]).1 < i → ∃ j, j < H.shapes.length ∧ (H.shapes.getD j ⟨0, 0⟩).letter = (ns[k]).2) ∧ Hid (BoxLH w wr [.slice AH nh ch, .int .i64 wn, .int .i64 sc, .int .i64 tt, .slice AQ m cq] [.int .i64 H.low, .int .i64 H.high, .slice As nsh cs])) (fun _ si _ => m - (intOf si).toNat)
  case atStart => exact ⟨0, by omega, rfl, rfl, Lib.hid (fun k hk h => by omega), HI0⟩
  case round =>
    clear HI0
    obtain ⟨i, hi, rfl, rfl, HHAS, HI⟩ := hrel
    have a0 : wr.cell? ⟨w.heap.size, 0, none⟩ = some (.slice AH nh ch) := HI.out.one.cell 0
    have a1 : wr.cell? ⟨w.heap.size, 1, none⟩ = some (.int .i64 wn) := HI.out.one.cell 1
    have a2 : wr.cell? ⟨w.heap.size, 2, none⟩ = some (.int .i64 sc) := HI.out.one.cell 2
    have a3 : wr.cell? ⟨w.heap.size, 3, none⟩ = some (.int .i64 tt) := HI.out.one.cell 3
    have a4 : wr.cell? ⟨w.heap.size, 4, none⟩ = some (.slice AQ m cq) := HI.out.one.cell 4
    have b0 : wr.cell? ⟨w.heap.size + 1, 0, none⟩ = some (.int .i64 H.low) := HI.out.two.cell 0
    have b1 : wr.cell? ⟨w.heap.size + 1, 1, none⟩ = some (.int .i64 H.high) := HI.out.two.cell 1
    have b2 : wr.cell? ⟨w.heap.size + 1, 2, none⟩ = some (.slice As nsh cs) := HI.out.two.cell 2
    by_cases him : i < m
    · have HC := Lib.hid (HLE.out wr HI.out.bel i him)
      have hms := upSum_le (knowsC ns C) i
      have hms1 : mSum C ns i ≤ 8000 := by unfold mSum; omega
      have hmsn : mSum C ns (i + 1) = mSum C ns i + sqUp C ns i nl := by
        unfold mSum sqUp
        rw [upSum_succ, HNL.out, List.take_length]
      have HMS := Lib.hid hmsn
      clear hms hmsn
      go_wp2_with (go_at_call 81; (with_reducible refine HC.out.mono ?_); rintro e w5 ⟨rfl, hb5⟩)
      have HI5 := Lib.hid (HI.out.below hb5)
      clear a0 a1 a2 a3 a4 b0 b1 b2 hb5 HC
      go_loopw [9, 10] (fun sn sk wq => ∃ k : Nat, k ≤ nl ∧ sk = .int .i64 k ∧ sn = .int .i64 (sqUp C ns i k) ∧ Hid (∀ t (ht : t < ns.length), t < k → (ns[t]).1 = i → ∃ j, j < H.shapes.length ∧ (H.shapes.getD j ⟨0, 0⟩).letter = (ns[t]).2) ∧ Hid (BoxLH w wq [.slice AH nh ch, .int .i64 wn, .int .i64 sc, .int .i64 tt, .slice AQ m cq] [.int .i64 H.low, .int .i64 H.high, .slice As nsh cs])) (fun _ sk _ => nl - (intOf sk).toNat)
      case atStart => exact ⟨0, by omega, rfl, rfl, Lib.hid (fun t ht h => by omega), HI5⟩
      case round =>
        clear HI5 HI
        obtain ⟨k, hk, rfl, rfl, HP, HQ⟩ := hrel
        have z1 := HQ.out.one.size
        have z2 := HQ.out.two.size
        have hsu := sqUp_le C ns i k
        by_cases hkn : k < nl
        · have hkS : k < ns.length := by rw [← HNL.out]; exact hkn
          obtain ⟨x, rfl0, hxb, d10, d20⟩ := HAT.out k hkS
          have d1 := (HQ.out.bel.cell (p := x.add (k * 2)) (by rw [Addr.add_block]; exact hxb)).trans d10
          have d2 := (HQ.out.bel.cell (p := x.add (k * 2 + 1)) (by rw [Addr.add_block]; exact hxb)).trans d20
          rw [← Addr.nth x (k * 2) 0] at d2
          subst rfl0
          have hxb2 : (x.add (k * 2)).block < wr.heap.size := by rw [Addr.add_block]; omega
          have hsm : (ns[k]).1 < m := HSQ.out _ (List.getElem_mem hkS)
          have HOT := Lib.hid (fun (h : (ns[k]).1 ≠ i) => sqUp_other (c := C) hkS h)
          have HAT2 := Lib.hid (fun (h : (ns[k]).1 = i) (j : Nat) (hj : j < H.shapes.length) (hz : (H.shapes.getD j ⟨0, 0⟩).letter = (ns[k]).2) => (sqUp_at HCR.out HCN.out HAP.out hkS h (show j < C.shapes.length by rw [HCS.out]; exact hj) (by rw [HCS.out]; exact hz)).1)
          have HLK := Lib.hid (fun (h : ∀ j, j < H.shapes.length → (H.shapes.getD j ⟨0, 0⟩).letter ≠ (ns[k]).2) => MarksIs.lack (c := C) (m := m) HAP.out hkS hsm (by rw [HCS.out]; exact h))
          obtain ⟨sq, hsqe⟩ : ∃ sq, sq = (ns[k]).1 := ⟨_, rfl⟩
          obtain ⟨lt, hlte⟩ : ∃ lt, lt = (ns[k]).2 := ⟨_, rfl⟩
          rw [← hsqe] at d1 hsm HOT HAT2
          rw [← hlte] at d2 HAT2 HLK
          have HSQE := Lib.hid hsqe
          have HLTE := Lib.hid hlte
          have k0 : (0 : Int) ≤ (k : Int) := by omega
          have k1 : (k : Int) < (nl : Int) := by omega
          obtain ⟨su, hsue⟩ : ∃ su, su = sqUp C ns i k := ⟨_, rfl⟩
          rw [← hsue] at hsu HOT HAT2 ⊢
          have HSUE := Lib.hid hsue
          clear d10 d20 hsqe hlte hsue
          by_cases hqi : sq = i
          · subst hqi
            have t0 : ((sq : Int) != (sq : Int)) = false := by simp
            have b0 : wr.cell? ⟨w.heap.size + 1, 0, none⟩ = some (.int .i64 H.low) := HQ.out.two.cell 0
            have b1 : wr.cell? ⟨w.heap.size + 1, 1, none⟩ = some (.int .i64 H.high) := HQ.out.two.cell 1
            have b2 : wr.cell? ⟨w.heap.size + 1, 2, none⟩ = some (.slice As nsh cs) := HQ.out.two.cell 2
            by_cases hj : ∃ j, j < H.shapes.length ∧ (H.shapes.getD j ⟨0, 0⟩).letter = lt
            · obtain ⟨j, hj1, hj2⟩ := hj
              have HC := Lib.hid (HSI.out wr.drew HQ.out.bel.drew lt j hj1 hj2)
              have HCW := Lib.hid (fun (W : World) (hW : Below w.heap.size w W) => HCO.out W hW sq hsm j hj1)
              have HAX := Lib.hid (HAT2.out rfl j hj1 hj2)
              have hup := up_le _ (HCN.out sq j)
              have HJ := Lib.hid (show ∃ j, j < H.shapes.length ∧ (H.shapes.getD j ⟨0, 0⟩).letter = lt from ⟨j, hj1, hj2⟩)
              obtain ⟨st, hst⟩ : ∃ st, st = (H.shapes[j]).strokes := ⟨_, rfl⟩
              rw [← hst] at HC HCW
              obtain ⟨un, hun⟩ : ∃ un, un = up (C.need sq j) := ⟨_, rfl⟩
              rw [← hun] at HCW HAX hup
              clear hst hun hj1 hj2
              go_wp2_with fail
              go_region_held3 (fun w' => w'.cell? ⟨w.heap.size + 1, 0, none⟩ = some (.int .i64 H.low) ∧ w'.cell? ⟨w.heap.size + 1, 1, none⟩ = some (.int .i64 H.high) ∧ w'.cell? ⟨w.heap.size + 1, 2, none⟩ = some (.slice As nsh cs) ∧ w'.cell? ⟨(x.add (k * 2)).block, (x.add (k * 2)).off + (0 + 1), none⟩ = some (.int .u8 lt))
                (first
                  | exact ⟨b0, b1, b2, d2⟩
                  | exact ⟨bcell hb5 z2 b0, bcell hb5 z2 b1, bcell hb5 z2 b2, (hb5.cell (p := ⟨(x.add (k * 2)).block, (x.add (k * 2)).off + (0 + 1), none⟩) hxb2).trans d2⟩)
                (first
                  | (go_at_call 82; refine HC.out.mono ?_; rintro e w5 ⟨rfl, hb5⟩))
              have HQ5 := Lib.hid ((HQ.out.drewN 1).below hb5)
              clear b0 b1 b2 d1 d2 hb5 HC
              have a0 : w5.cell? ⟨w.heap.size, 0, none⟩ = some (.slice AH nh ch) := HQ5.out.one.cell 0
              have a1 : w5.cell? ⟨w.heap.size, 1, none⟩ = some (.int .i64 wn) := HQ5.out.one.cell 1
              have a2 : w5.cell? ⟨w.heap.size, 2, none⟩ = some (.int .i64 sc) := HQ5.out.one.cell 2
              have a3 : w5.cell? ⟨w.heap.size, 3, none⟩ = some (.int .i64 tt) := HQ5.out.one.cell 3
              have a4 : w5.cell? ⟨w.heap.size, 4, none⟩ = some (.slice AQ m cq) := HQ5.out.one.cell 4
              have HC2 := Lib.hid (HCW.out w5 HQ5.out.bel)
              have HP2 := Lib.hid (fun (t : Nat) (ht : t < ns.length) (htk : t < k + 1) (e : (ns[t]).1 = sq) => show ∃ j, j < H.shapes.length ∧ (H.shapes.getD j ⟨0, 0⟩).letter = (ns[t]).2 by
                rcases Nat.lt_or_ge t k with h1 | h1
                · exact HP.out t ht h1 e
                · obtain rfl : t = k := by omega
                  rw [← HLTE.out]
                  exact HJ.out)
              by_cases hlt : su < un
              · have HV := Lib.hid (show sqUp C ns sq (k + 1) = un by rw [HAX.out]; omega)
                go_wp2_with (go_at_call 83; (with_reducible refine HC2.out.mono ?_); rintro e w6 ⟨rfl, hb6⟩)
                exact ⟨⟨k + 1, by omega, by go_num, val_int (by rw [HV.out]), HP2, Lib.hid (HQ5.out.below hb6)⟩, by simp [intOf]; omega⟩
              · have HV := Lib.hid (show sqUp C ns sq (k + 1) = su by rw [HAX.out]; omega)
                go_wp2_with (go_at_call 83; (with_reducible refine HC2.out.mono ?_); rintro e w6 ⟨rfl, hb6⟩)
                exact ⟨⟨k + 1, by omega, by go_num, val_int (by rw [HV.out]), HP2, Lib.hid (HQ5.out.below hb6)⟩, by simp [intOf]; omega⟩
            · have HC := Lib.hid (HSO.out wr.drew HQ.out.bel.drew lt (fun j h1 h2 => hj ⟨j, h1, h2⟩))
              have HR := Lib.hid (HLK.out (fun j h1 h2 => hj ⟨j, h1, h2⟩))
              clear hj
              go_wp2_with fail
              go_region_held3 (fun w' => w'.cell? ⟨w.heap.size + 1, 0, none⟩ = some (.int .i64 H.low) ∧ w'.cell? ⟨w.heap.size + 1, 1, none⟩ = some (.int .i64 H.high) ∧ w'.cell? ⟨w.heap.size + 1, 2, none⟩ = some (.slice As nsh cs) ∧ w'.cell? ⟨(x.add (k * 2)).block, (x.add (k * 2)).off + (0 + 1), none⟩ = some (.int .u8 lt))
                (first
                  | exact ⟨b0, b1, b2, d2⟩
                  | exact ⟨bcell hb5 z2 b0, bcell hb5 z2 b1, bcell hb5 z2 b2, (hb5.cell (p := ⟨(x.add (k * 2)).block, (x.add (k * 2)).off + (0 + 1), none⟩) hxb2).trans d2⟩)
                (first
                  | (go_at_call 82; refine HC.out.mono ?_; rintro e w5 ⟨rfl, hb5⟩))
              have HQ5 := Lib.hid ((HQ.out.drewN 1).below hb5)
              clear b0 b1 b2 d1 d2 hb5 HC
              go_wp2_with fail
              go_ret
              exact ⟨1000, HR.out, rfl, HQ5.out.bel⟩
          · have t0 : ((sq : Int) != (i : Int)) = true := by simp; omega
            have HV := Lib.hid (HOT.out hqi)
            have HNE := Lib.hid hqi
            clear d2 hqi
            go_wp2_with fail
            exact ⟨⟨k + 1, by omega, by go_num, val_int (by rw [HV.out]), Lib.hid (fun t ht htk e => by
              rcases Nat.lt_or_ge t k with h1 | h1
              · exact HP.out t ht h1 e
              · exfalso
                obtain rfl : t = k := by omega
                exact HNE.out (HSQE.out.trans e)), HQ⟩, by simp [intOf]; omega⟩
        · obtain rfl : k = nl := by omega
          have HV := Lib.hid (HMS.out)
          go_wp2_with fail
          exact ⟨⟨i + 1, by omega, by go_num, val_int (by rw [HV.out]; omega), Lib.hid (fun t ht hti => by
            rcases Nat.lt_or_ge (ns[t]).1 i with h1 | h1
            · exact HHAS.out t ht h1
            · exact HP.out t ht (by rw [HNL.out]; exact ht) (by omega)), HQ⟩, by simp [intOf]; omega⟩
    · obtain rfl : i = m := by omega
      have HR := Lib.hid (show MarksIs C i ns (mSum C ns i) from MarksIs.sum hm8)
      go_wp2_with fail
      go_ret
      exact ⟨_, HR.out, rfl, HI.out.bel⟩
end
section
open Go.RowKit Go.Shelf

/-- A line's hand, in memory of whatever kind. -/
theorem rhand_at {w : World} {B : Nat} {L : Line} {A : Option Addr} {c : Nat} (h : RHands w B (.slice A L.hands.length c) L.raw.hands) {k : Nat} (hk : k < L.hands.length) :
    ∃ (x : Addr) (As : Option Addr) (cs : Nat), A = some x ∧ x.block < B ∧ w.cell? (x.add (k * 3)) = some (.int .i64 (L.hands[k]).low) ∧ w.cell? (x.add (k * 3 + 1)) = some (.int .i64 (L.hands[k]).high) ∧
      w.cell? (x.add (k * 3 + 2)) = some (.slice As (L.hands[k]).shapes.length cs) ∧ RShapes w B (.slice As (L.hands[k]).shapes.length cs) ((L.hands[k]).shapes.map Shape.raw) := by
  obtain ⟨A', c', e, hf⟩ := RSl.form h
  injection e with e1 e2 e3
  subst e1
  obtain ⟨x, rfl, hb, hR⟩ := hf (by simp [Line.raw]; omega)
  obtain ⟨h1, h2, v, h3, h4⟩ := hR k (L.hands[k]).raw (by simp [Line.raw, hk])
  obtain ⟨As, cs, rfl, -⟩ := RSl.form h4
  have e : (L.hands[k]).raw.shapes.length = (L.hands[k]).shapes.length := by simp [Hand.raw]
  rw [e] at h3 h4
  exact ⟨x, As, cs, rfl, hb, h1, h2, h3, h4⟩
/-- Whether some letters are known to fit. -/
def handKnows (L : Line) (ns : List (Nat × Nat)) (H : Hand) : Bool := decide ((knowsC ns (cutterOf L H.shapes)).sum L.squares.length ≤ L.total)
def rfits (L : Line) (ns : List (Nat × Nat)) : Bool := L.hands.any (handKnows L ns)
/-- The needs of one call, and where they lie. -/
structure NeedsOk (L : Line) (ns : List (Nat × Nat)) : Prop where
  apart : Apart ns
  two : ns.length ≤ 2
  sq : ∀ x ∈ ns, x.1 < L.squares.length
/-- The cells of a line's box. -/
structure BoxL (w wr : World) (lc : List Value) : Prop where
  one : Blok wr w.heap.size 25 lc
  bel : Below w.heap.size w wr
theorem BoxL.below {w wr w' : World} {a : List Value} (h : BoxL w wr a) (hb : Below wr.heap.size wr w') : BoxL w w' a :=
  ⟨h.one.below hb h.one.size, h.bel.trans (hb.mono h.bel.size)⟩
theorem BoxL.drewN {w wr : World} {a : List Value} (h : BoxL w wr a) (n : Nat) : BoxL w (wr.drewN n) a := h.below (below_drewN (Below.refl _ _) n)
theorem BoxL.start (w : World) (a : List Value) : BoxL w (w.alloc (.cells a.toArray 25)) a := ⟨Blok.new _ _ _, (Below.refl _ _).alloc (Nat.le_refl _) _⟩
set_option maxRecDepth 100000 in
set_option maxHeartbeats 2000000 in
theorem fits_refc (v : Value) (L : Line) (w : World) (hL : L.ok) (hv : RLineAt w w.heap.size v L.raw) (ns : List (Nat × Nat)) (nv : Value) (hn : RNeeds w w.heap.size nv ns) (hok : NeedsOk L ns) :
    Calls Try.prog 80 #[v, nv] w fun e w' => e = .returned (.bool (rfits L ns)) ∧ Below w.heap.size w w' := by
  have HV := Lib.hid hv
  have HL := Lib.hid hL
  obtain ⟨vh, vs, rfl, hh, hq⟩ := hv
  obtain ⟨AH, ch, rfl, -⟩ := RSl.form hh
  obtain ⟨AQ, cq, rfl, -⟩ := RSl.form hq
  obtain ⟨An, cn, rfl, -⟩ := RSl.form hn
  have hh4 : L.hands.length ≤ 4 := hL.2.1
  have hT : L.total ≤ 40 := hL.2.2.2.2.2.1
  have hl1 : L.raw.hands.length = L.hands.length := by simp [Line.raw]
  rw [hl1] at HV hh ⊢
  have HAT := Lib.hid (fun (k : Nat) (hk : k < L.hands.length) => rhand_at hh hk)
  obtain ⟨n, hn0⟩ : ∃ n, n = L.hands.length := ⟨_, rfl⟩
  have HN := Lib.hid hn0
  obtain ⟨wn, hwn⟩ : ∃ wn, wn = L.raw.worn := ⟨_, rfl⟩
  obtain ⟨sc, hsc⟩ : ∃ sc, sc = L.raw.scr := ⟨_, rfl⟩
  obtain ⟨m, hm⟩ : ∃ m, m = L.raw.squares.length := ⟨_, rfl⟩
  obtain ⟨nl, hnl⟩ : ∃ nl, nl = ns.length := ⟨_, rfl⟩
  obtain ⟨T, hTe⟩ : ∃ T, T = L.total := ⟨_, rfl⟩
  have ht0 : L.raw.total = (T : Int) := by rw [hTe]; rfl
  have HMK := Lib.hid (fun (W : World) (hW : Below w.heap.size w W) (k : Nat) (hk : k < L.hands.length) (As : Option Addr) (cs : Nat) (hs : RShapes w w.heap.size (.slice As (L.hands[k]).shapes.length cs) ((L.hands[k]).shapes.map Shape.raw)) =>
    show Calls Try.prog 69 #[.agg #[.slice AH n ch, .int .i64 wn, .int .i64 sc, .int .i64 T, .slice AQ m cq], .agg #[.int .i64 (L.hands[k]).low, .int .i64 (L.hands[k]).high, .slice As (L.hands[k]).shapes.length cs], .slice An nl cn] W (MarksRPost (cutterOf L (L.hands[k]).shapes) L.squares.length ns W) by
      have h := marks_refc _ L W HL.out (HV.out.keep (SameA.of_below hW) hW.size) (L.hands[k]) (List.getElem_mem hk) _ (hs.keep (SameA.of_below hW) hW.size) ns _ (hn.keep (SameA.of_below hW) hW.size) hok.apart hok.two hok.sq
      rw [ht0, ← hwn, ← hsc, ← hm, ← hnl] at h
      rw [hn0]
      exact h)
  rw [ht0, ← hwn, ← hsc, ← hm, ← hnl, ← hn0]
  rw [← hn0] at hh4
  rw [← hTe] at hT
  have HTE := Lib.hid hTe
  clear hL HV hh hq hn hwn hsc hm hnl hn0 hTe ht0 hl1 hok
  go_enter Try.func80, Try.ntmps80
  go_wp2_with fail
  obtain ⟨W0, hW0⟩ : ∃ W0, W0 = w.alloc (.cells #[.slice AH n ch, .int .i64 wn, .int .i64 sc, .int .i64 T, .slice AQ m cq] 25) := ⟨_, rfl⟩
  have HI0 := Lib.hid (show BoxL w W0 [.slice AH n ch, .int .i64 wn, .int .i64 sc, .int .i64 T, .slice AQ m cq] by rw [hW0]; exact BoxL.start _ _)
  rw [← hW0]
  clear hW0
  go_loopw [5] (fun si wr => ∃ i : Nat, i ≤ n ∧ si = .int .i64 i ∧ Hid (∀ j (hj : j < L.hands.length), j < i → handKnows L ns (L.hands[j]) = false) ∧ Hid (BoxL w wr [.slice AH n ch, .int .i64 wn, .int .i64 sc, .int .i64 T, .slice AQ m cq])) (fun si _ => n - (intOf si).toNat)
  case atStart => exact ⟨0, by omega, rfl, Lib.hid (fun j hj h => by omega), HI0⟩
  case round =>
    clear HI0
    obtain ⟨i, hi, rfl, HNO, HI⟩ := hrel
    have z1 := HI.out.one.size
    have a0 : wr.cell? ⟨w.heap.size, 0, none⟩ = some (.slice AH n ch) := HI.out.one.cell 0
    by_cases hin : i < n
    · have a1 : wr.cell? ⟨w.heap.size, 1, none⟩ = some (.int .i64 wn) := HI.out.one.cell 1
      have a2 : wr.cell? ⟨w.heap.size, 2, none⟩ = some (.int .i64 sc) := HI.out.one.cell 2
      have a3 : wr.cell? ⟨w.heap.size, 3, none⟩ = some (.int .i64 T) := HI.out.one.cell 3
      have a4 : wr.cell? ⟨w.heap.size, 4, none⟩ = some (.slice AQ m cq) := HI.out.one.cell 4
      have hiH : i < L.hands.length := by rw [← HN.out]; exact hin
      obtain ⟨x, As, cs, hA, hxb, d1, d2, d3, hs⟩ := HAT.out i hiH
      subst hA
      have d1 := (HI.out.bel.cell (p := x.add (i * 3)) (by rw [Addr.add_block]; exact hxb)).trans d1
      have d2 := (HI.out.bel.cell (p := x.add (i * 3 + 1)) (by rw [Addr.add_block]; exact hxb)).trans d2
      have d3 := (HI.out.bel.cell (p := x.add (i * 3 + 2)) (by rw [Addr.add_block]; exact hxb)).trans d3
      rw [← Addr.nth x (i * 3) 0] at d2
      rw [← Addr.nth x (i * 3) 1] at d3
      have hxb2 : (x.add (i * 3)).block < wr.heap.size := by rw [Addr.add_block]; omega
      have HC := Lib.hid (HMK.out wr.drew HI.out.bel.drew i hiH As cs hs)
      have HHK := Lib.hid (show handKnows L ns (L.hands[i]) = decide ((knowsC ns (cutterOf L (L.hands[i]).shapes)).sum L.squares.length ≤ T) by rw [HTE.out]; rfl)
      have HME := Lib.hid (List.getElem_mem hiH)
      obtain ⟨lo, hlo⟩ : ∃ lo, lo = (L.hands[i]).low := ⟨_, rfl⟩
      obtain ⟨hg, hhi⟩ : ∃ hg, hg = (L.hands[i]).high := ⟨_, rfl⟩
      obtain ⟨nsh, hns⟩ : ∃ nsh, nsh = (L.hands[i]).shapes.length := ⟨_, rfl⟩
      rw [← hlo] at d1 HC
      rw [← hhi] at d2 HC
      rw [← hns] at d3 HC
      have k0 : (0 : Int) ≤ (i : Int) := by omega
      have k1 : (i : Int) < (n : Int) := by omega
      clear hlo hhi hns hs
      go_wp2_with fail
      go_region_held3 (fun w' => w'.cell? ⟨w.heap.size, 0, none⟩ = some (.slice (some x) n ch) ∧ w'.cell? ⟨w.heap.size, 1, none⟩ = some (.int .i64 wn) ∧ w'.cell? ⟨w.heap.size, 2, none⟩ = some (.int .i64 sc) ∧ w'.cell? ⟨w.heap.size, 3, none⟩ = some (.int .i64 T) ∧ w'.cell? ⟨w.heap.size, 4, none⟩ = some (.slice AQ m cq) ∧ w'.cell? (x.add (i * 3)) = some (.int .i64 lo) ∧ w'.cell? ⟨(x.add (i * 3)).block, (x.add (i * 3)).off + (0 + 1), none⟩ = some (.int .i64 hg) ∧ w'.cell? ⟨(x.add (i * 3)).block, (x.add (i * 3)).off + (1 + 1), none⟩ = some (.slice As nsh cs))
        (first
          | exact ⟨a0, a1, a2, a3, a4, d1, d2, d3⟩
          | exact ⟨bcell hb5 z1 a0, bcell hb5 z1 a1, bcell hb5 z1 a2, bcell hb5 z1 a3, bcell hb5 z1 a4, (hb5.cell (p := x.add (i * 3)) hxb2).trans d1, (hb5.cell (p := ⟨(x.add (i * 3)).block, (x.add (i * 3)).off + (0 + 1), none⟩) hxb2).trans d2, (hb5.cell (p := ⟨(x.add (i * 3)).block, (x.add (i * 3)).off + (1 + 1), none⟩) hxb2).trans d3⟩)
        (first
          | (go_at_call 69; refine HC.out.mono ?_; rintro e w5 ⟨r, hr, rfl, hb5⟩; have HR := Lib.hid hr; have hr8 : r ≤ 8000 := hr.1; clear hr))
      have HI5 := Lib.hid ((HI.out.drewN 1).below hb5)
      clear a0 a1 a2 a3 a4 d1 d2 d3 hb5 HC
      by_cases hrT : r ≤ T
      · have HY := Lib.hid (show rfits L ns = true by
          unfold rfits
          rw [List.any_eq_true]
          exact ⟨_, HME.out, by rw [HHK.out, decide_eq_true_iff]; exact (HR.out.2.1 T (by omega)).1 hrT⟩)
        go_wp2_with fail
        go_ret
        exact ⟨by rw [HY.out]; rfl, HI5.out.bel⟩
      · have HY := Lib.hid (show handKnows L ns (L.hands[i]) = false by
          rw [HHK.out, decide_eq_false_iff_not]
          exact fun h => hrT ((HR.out.2.1 T (by omega)).2 h))
        go_wp2_with fail
        exact ⟨⟨i + 1, by omega, by go_num, Lib.hid (fun j hj hji => by
          rcases Nat.lt_or_ge j i with h1 | h1
          · exact HNO.out j hj h1
          · obtain rfl : j = i := by omega
            exact HY.out), HI5⟩, by simp [intOf]; omega⟩
    · obtain rfl : i = n := by omega
      have HY := Lib.hid (show rfits L ns = false by
        unfold rfits
        rw [List.any_eq_false]
        intro H hH
        obtain ⟨j, hj, rfl⟩ := List.getElem_of_mem hH
        rw [HNO.out j hj (by rw [HN.out]; exact hj)]
        exact Bool.false_ne_true)
      go_wp2_with fail
      go_ret
      exact ⟨by rw [HY.out]; rfl, HI.out.bel⟩
end
end Go.Proofs.Ythhajbgddifenaa
