/- slices.IndexFunc and ContainsFunc over matrices. · Cut. -/
import Derived.Test.YtcbdcdpoackplaaLx
import Derived.Test.YtcbdcdpoackplaaEa
import Derived.Test.YtcbdcdpoackplaaEb
import Derived.Laws.EntriesVeiled
namespace Go.Proofs.Ytcbdcdpoackplaa
section
open Go.RowKit Dt

attribute [local go_sem ↓] ld_b st_b
/-- What a closure that asks something of a matrix comes to. -/
def AsksAt (g : Nat) (caps : Array Value) (f : Mat → Bool) (M : Mat) (w : World) : Prop :=
  Calls Try.prog g (#[.agg (cellsM M).toArray] ++ caps) w fun e w' => e = .returned (.bool (f M)) ∧ Below w.heap.size w w'
theorem any_take (f : Mat → Bool) (l : List Mat) (k : Nat) (M : Mat) (h : l[k]? = some M) : (l.take (k + 1)).any f = ((l.take k).any f || f M) := by
  rw [List.take_add_one, h, List.any_append]
  simp
set_option maxRecDepth 100000 in
set_option maxHeartbeats 1000000 in
theorem indexFunc_any (gf : Nat) (caps : Array Value) (f : Mat → Bool) (l : List Mat) (hl : l.length ≤ 10000) (heg : ∀ args w, (callFunc gf args).run Try.prog w = .ok (.enter gf args) w) (B : Nat) (v : Value) (w : World) (hv : MatsAt w B v l)
    (hT : ∀ M ∈ l, ∀ w', Below w.heap.size w w' → AsksAt gf caps f M w') :
    Calls Try.prog 65 #[v, .func (.func gf) #[] caps] w fun e w' => ∃ i : Int, e = .returned (.int .i64 i) ∧ decide (0 ≤ i) = l.any f ∧ Below w.heap.size w w' := by
  obtain ⟨A, c, rfl, hcap, hA⟩ := hv
  obtain ⟨n, hn⟩ : ∃ n, n = l.length := ⟨_, rfl⟩
  rw [← hn] at hcap hA hl ⊢
  have HT := Lib.hid hT
  have HA := Lib.hid hA
  have HN := Lib.hid hn
  clear hn hT hA
  go_enter Try.func65, Try.ntmps65
  go_wp2_with fail
  go_loopw [8] (fun i wr => ∃ k : Nat, k ≤ n ∧ i = .int .i64 k ∧ (l.take k).any f = false ∧ Below w.heap.size w wr) (fun i _ => n - (intOf i).toNat)
  case atStart => exact ⟨0, by omega, rfl, rfl, Below.refl _ _⟩
  case round =>
    obtain ⟨k, hk, rfl, hno, hb⟩ := hrel
    by_cases hlt : k < n
    · obtain ⟨M, hM⟩ : ∃ M, l[k]? = some M := ⟨_, List.getElem?_eq_getElem (by rw [← HN.out]; exact hlt)⟩
      obtain ⟨g, rfl, -, hg, hR⟩ := HA.out (by omega)
      have hra := ra_below (hR k M hM) hb hg
      obtain ⟨b, hbv⟩ : ∃ b, b = f M := ⟨_, rfl⟩
      have hTM : ∀ w', Below w.heap.size w w' → Calls Try.prog gf (#[.agg (cellsM M).toArray] ++ caps) w' fun e w'' => e = .returned (.bool b) ∧ Below w'.heap.size w' w'' := by
        intro w' hb
        have := HT.out M (List.mem_of_getElem? hM) w' hb
        unfold AsksAt at this
        rwa [← hbv] at this
      have hnx := any_take f l k M hM
      rw [hno, ← hbv, Bool.false_or] at hnx
      have hal : b = true → l.any f = true := fun h => List.any_eq_true.2 ⟨M, List.mem_of_getElem? hM, by rw [← hbv]; exact h⟩
      have HTM := Lib.hid hTM
      have HNX := Lib.hid hnx
      have HAL := Lib.hid hal
      have HB := Lib.hid hb
      have hkn : (k : Int) < (n : Int) := by omega
      clear hM hR hTM hnx hal hbv hb hno
      go_wp2_with (rw [run_ldB _ _ _ M hra])
      clear hra
      refine (HTM.out _ HB.out).mono ?_
      rintro e w2 ⟨rfl, hb2⟩
      have HB2 := Lib.hid (HB.out.trans (hb2.mono HB.out.size))
      clear hb2
      cases b
      · go_wp2_with fail
        go_roundw
        case rel => exact ⟨k + 1, by omega, by go_num, HNX.out, HB2.out⟩
        case measure => simp [intOf]; omega
      · go_wp2_with fail
        go_ret
        exact ⟨_, rfl, by rw [HAL.out (by trivial)]; simp, HB2.out⟩
    · obtain rfl : n = k := by omega
      have hal : l.any f = false := by rwa [HN.out, List.take_length] at hno
      have HB := Lib.hid hb
      have HAL := Lib.hid hal
      clear hb hal hno
      go_wp2_with fail
      go_ret
      exact ⟨_, rfl, by rw [HAL.out]; rfl, HB.out⟩
set_option maxRecDepth 100000 in
set_option maxHeartbeats 1000000 in
theorem containsFunc_any (gf : Nat) (caps : Array Value) (f : Mat → Bool) (l : List Mat) (hl : l.length ≤ 10000) (heg : ∀ args w, (callFunc gf args).run Try.prog w = .ok (.enter gf args) w) (B : Nat) (v : Value) (w : World) (hv : MatsAt w B v l)
    (hT : ∀ M ∈ l, ∀ w', Below w.heap.size w w' → AsksAt gf caps f M w') :
    Calls Try.prog 47 #[v, .func (.func gf) #[] caps] w fun e w' => e = .returned (.bool (l.any f)) ∧ Below w.heap.size w w' := by
  have H := Lib.hid (indexFunc_any gf caps f l hl heg B v w hv hT)
  obtain ⟨A, c, rfl, -, -⟩ := hv
  clear hT
  go_enter Try.func47, Try.ntmps47
  go_wp2_with (go_at_call 65; (with_reducible refine (H.out).mono ?_); rintro e w1 hp; obtain ⟨i, rfl, h1, h2⟩ := hp; have HI := Lib.hid h1; have HB := Lib.hid h2; clear h1 h2)
  go_ret
  exact ⟨by rw [← HI.out]; first | rfl | simp, HB.out⟩
end
section
open Go.RowKit Dt

theorem mayAt_is (k : Nat) (y : Int) (l : List Mat) : l.any (mayAt k y) = l.any (fun M => decide (- M (1 + k) 0 ≤ y) && decide (y ≤ M 0 (1 + k))) := by
  congr 1
  funext M
  unfold mayAt outB spanIn
  rw [Bool.eq_iff_iff]
  simp
theorem pair_eq (q : Int × Int) (y : Int) : (decide (q.1 = y) && decide (q.2 = y)) = decide (q = (y, y)) := by
  rw [Bool.eq_iff_iff]
  simp [Prod.ext_iff]
set_option maxRecDepth 100000 in
set_option maxHeartbeats 1000000 in
theorem cut_yes (d : Dat) (hd : d.Ok) (hyes : d.all ≠ []) (a : Nat) (ha : a < d.stones) (y : Int) (hy : outB y (-3000) 3000 = false) (v : Value) (B0 : Nat) (w : World) (hB0 : B0 ≤ w.heap.size) (hv : DatAt w B0 v d) :
    Calls Try.prog 17 #[v, .int .i64 a, .int .i64 y] w fun e w' => e = .returned (.tuple #[.int .i64 (d.cutV (1 + a) y), .int .i64 0]) ∧ Below w.heap.size w w' := by
  have hs6 := hd.stones.2
  have HCK := Lib.hid (fun w' (hb : Below w.heap.size w w') => check_ok d hd v B0 w' (Nat.le_trans hB0 hb.size) (hv.keep (Same.of_below (hb.mono hB0)) (Nat.le_refl _)))
  have HAL := Lib.hid (fun w' (hb : Below w.heap.size w w') => allOf_any d hd v B0 w' (Nat.le_trans hB0 hb.size) (hv.keep (Same.of_below (hb.mono hB0)) (Nat.le_refl _)))
  have HO1 := Lib.hid (fun w => outside_is (outB_no (n := (a : Int)) (lo := 0) (hi := (d.stones : Int) - 1) (by omega) (by omega)) w)
  have hiy : ∀ w, Calls Try.prog 40 #[.int .i64 y] w fun e w' => e = .returned (.bool true) ∧ w = w' := fun w => by
    have := isYear_any y w
    rwa [hy] at this
  have HIY := Lib.hid hiy
  have HYES := Lib.hid hyes
  have HD := Lib.hid hd
  obtain ⟨ve, vn, rfl, -, -⟩ := hv
  clear hyes hiy hy
  go_enter Try.func17, Try.ntmps17
  go_wp2_with fail
  obtain ⟨W, hW⟩ : ∃ W, W = ((w.alloc (.cells #[.int .i64 d.stones, ve, vn] 28)).alloc (.cells #[.int .i64 a] 3)).alloc (.cells #[.int .i64 y] 3) := ⟨_, rfl⟩
  have b0 : Below w.heap.size w W := by rw [hW]; exact (((Below.refl _ w).alloc (Nat.le_refl _) _).alloc (by simp) _).alloc (by simp; omega) _
  have k0 : Blok W w.heap.size 28 [.int .i64 d.stones, ve, vn] := by rw [hW]; exact ((Blok.new w _ _).alloc _).alloc _
  have k1 : Blok W (w.heap.size + 1) 3 [.int .i64 a] := by
    rw [hW]
    have := (Blok.new (w.alloc (.cells #[.int .i64 d.stones, ve, vn] 28)) 3 [.int .i64 a]).alloc (.cells #[.int .i64 y] 3)
    simpa only [World.size_alloc] using this
  have k2 : Blok W (w.heap.size + 1 + 1) 3 [.int .i64 y] := by
    rw [hW]
    have := Blok.new ((w.alloc (.cells #[.int .i64 d.stones, ve, vn] 28)).alloc (.cells #[.int .i64 a] 3)) 3 [.int .i64 y]
    simpa only [World.size_alloc] using this
  rw [← hW]
  clear hW
  refine (HCK.out _ b0).mono ?_
  rintro e w1 ⟨rfl, hb1⟩
  have b1 := b0.trans (hb1.mono b0.size)
  have k0 := k0.below hb1 k0.size
  have k1 := k1.below hb1 k1.size
  have k2 := k2.below hb1 k2.size
  have c0 := k0.cell 0
  have c1 := k0.cell 1
  have c2 := k0.cell 2
  have c3 := k1.cell 0
  have c4 := k2.cell 0
  simp at c0 c1 c2 c3 c4
  have HB1 := Lib.hid b1
  have HK1 := Lib.hid k1
  have HK2 := Lib.hid k2
  clear b0 b1 hb1 k0 k1 k2
  go_wp2_with (first
    | (go_at_call 39; (with_reducible refine (HO1.out _).mono ?_); rintro e w1 ⟨rfl, rfl⟩)
    | (go_at_call 40; (with_reducible refine (HIY.out _).mono ?_); rintro e w1 ⟨rfl, rfl⟩)
    | (go_at_call 41; (with_reducible refine (HAL.out _ HB1.out).mono ?_); rintro e w2 hp; obtain ⟨v9, rfl, hm, hb2⟩ := hp; obtain ⟨A9, c9, rfl, hle, hA⟩ := hm; obtain ⟨n, hn⟩ : ∃ n, n = d.all.length := ⟨_, rfl⟩; have n0 : 0 < n := (by rw [hn]; exact List.length_pos_iff.2 HYES.out); have HM : Hid (MatsAt w2 w1.heap.size (.slice A9 n c9) d.all) := Lib.hid ⟨A9, c9, by rw [hn], hle, hA⟩; rw [← hn]; have d21 : ((n : Int) == 0) = false := (by simp; omega); have HB2 := Lib.hid hb2; clear hle hA hn hb2 c0 c1 c2 c3 c4))
  have z1 := HB1.out.size
  have z2 := HB2.out.size
  have z12 := HK2.out.size
  obtain ⟨W3, hW3⟩ : ∃ W3, W3 = w2.alloc (.cells #[.func (.func 42) #[] #[.pointer (some ⟨w.heap.size + 1, 0, none⟩)]] 78) := ⟨_, rfl⟩
  have b3 : Below w2.heap.size w2 W3 := by rw [hW3]; exact (Below.refl _ w2).alloc (Nat.le_refl _) _
  have k3 : Blok W3 w2.heap.size 78 [.func (.func 42) #[] #[.pointer (some ⟨w.heap.size + 1, 0, none⟩)]] := by rw [hW3]; exact Blok.new w2 _ _
  have zz3 : W3.heap.size = w2.heap.size + 1 := by rw [hW3]; simp
  rw [← hW3]
  clear hW3
  have k1 := (HK1.out.below HB2.out HK1.out.size).below b3 (by omega)
  have k2 := (HK2.out.below HB2.out HK2.out.size).below b3 (by omega)
  have hbW := (HB1.out.trans (HB2.out.mono HB1.out.size)).trans (b3.mono (by omega))
  have hm3 := HM.out.keep b3
  obtain ⟨q, hq⟩ : ∃ q, q = joined (spanIn 0 (1 + a)) d.all := ⟨_, rfl⟩
  obtain ⟨r, hr⟩ : ∃ r, r = d.all.any (mayAt a y) := ⟨_, rfl⟩
  have hj : Calls Try.prog 46 #[.slice A9 n c9, .func (.func 42) #[] #[.pointer (some ⟨w.heap.size + 1, 0, none⟩)]] W3.drew fun e w' => e = .returned (.agg #[.int .i64 q.1, .int .i64 q.2]) ∧ Below W3.heap.size W3 w' := by
    refine (joined_any 42 #[.pointer (some ⟨w.heap.size + 1, 0, none⟩)] (spanIn 0 (1 + a)) d.all HYES.out (all_len HD.out) (enters_of Try.func42 (by kernel_rfl) rfl) w1.heap.size (.slice A9 n c9) W3.drew hm3
      (fun M hM w' hb' => tells_cut M (all_fine HD.out M hM).1 (all_fine HD.out M hM).2 a (by omega) _ w' ((show Blok W3.drew _ _ _ from k1).below hb' (show w.heap.size + 1 < W3.heap.size from k1.size)))).mono ?_
    rintro e w' ⟨rfl, hb⟩
    exact ⟨by rw [← hq]; rfl, ⟨hb.os, hb.tape, hb.output, hb.size, hb.block⟩⟩
  have hc : ∀ w', Below W3.heap.size W3 w' → Calls Try.prog 47 #[.slice A9 n c9, .func (.func 44) #[] #[.pointer (some ⟨w.heap.size + 1 + 1, 0, none⟩), .pointer (some ⟨w2.heap.size, 0, none⟩)]] w' fun e w'' => e = .returned (.bool r) ∧ Below w'.heap.size w' w'' := by
    intro w' hb
    rw [hr]
    exact containsFunc_any 44 #[.pointer (some ⟨w.heap.size + 1 + 1, 0, none⟩), .pointer (some ⟨w2.heap.size, 0, none⟩)] (mayAt a y) d.all (all_len HD.out) (enters_of Try.func44 (by kernel_rfl) rfl) w1.heap.size (.slice A9 n c9) w' (hm3.keep hb)
      (fun M hM w'' hb' => mayAt_any M (all_fine HD.out M hM).1 (all_fine HD.out M hM).2 a (by omega) y _ _ _ w'' ((k2.below hb k2.size).below hb' (Nat.lt_of_lt_of_le k2.size hb.size)) ((k1.below hb k1.size).below hb' (Nat.lt_of_lt_of_le k1.size hb.size)) ((k3.below hb k3.size).below hb' (Nat.lt_of_lt_of_le k3.size hb.size)))
  have c0 := k2.cell 0
  have c1 := k3.cell 0
  simp at c0 c1
  have zk2 := k2.size
  have zk3 := k3.size
  have HJ := Lib.hid hj
  have HC := Lib.hid hc
  have HBW := Lib.hid hbW
  have HQ := Lib.hid hq
  have HR := Lib.hid hr
  clear hj hc hbW hq hr k1 k2 k3 hm3 b3
  by_cases e1 : q.1 = y <;> by_cases e2 : q.2 = y <;> cases r
  all_goals
    go_region_held3 (fun w' => w'.cell? ⟨w.heap.size + 1 + 1, 0, none⟩ = some (.int .i64 y) ∧ w'.cell? ⟨w2.heap.size, 0, none⟩ = some (.func (.func 42) #[] #[.pointer (some ⟨w.heap.size + 1, 0, none⟩)]))
      (first
        | exact ⟨c0, c1⟩
        | exact ⟨cj0, cj1⟩
        | exact ⟨cl0, cl1⟩)
      (first
        | (go_at_call 46; refine HJ.out.mono ?_; rintro e wj ⟨rfl, hbj⟩; have cj0 := (hbj.cell (p := ⟨w.heap.size + 1 + 1, 0, none⟩) zk2).trans c0; have cj1 := (hbj.cell (p := ⟨w2.heap.size, 0, none⟩) zk3).trans c1; have HBJ := Lib.hid hbj; clear hbj)
        | (go_at_call 47; refine (HC.out _ HBJ.out).mono ?_; rintro e wl ⟨rfl, hbl⟩; have cl0 := (hbl.cell (p := ⟨w.heap.size + 1 + 1, 0, none⟩) (Nat.lt_of_lt_of_le zk2 HBJ.out.size)).trans cj0; have cl1 := (hbl.cell (p := ⟨w2.heap.size, 0, none⟩) (Nat.lt_of_lt_of_le zk3 HBJ.out.size)).trans cj1; have HBL := Lib.hid (HBJ.out.trans (hbl.mono HBJ.out.size)); clear hbl)
        | (go_at_call 45; refine (verdict_any _ _ _).mono ?_; rintro e wv ⟨rfl, rfl⟩))
    all_goals
      clear c0 c1
      try clear cj0 cj1 cl0 cl1
      go_wp2_with fail
      go_ret2
      refine ⟨ret_pair ?_, HBW.out.trans (HBL.out.mono HBW.out.size)⟩
      have hq := HQ.out
      have hr := HR.out
      rw [mayAt_is] at hr
      unfold Dat.cutV Dat.span
      rw [← hq, ← hr]
      first
        | (rw [if_pos (Prod.ext e1 e2)]; rfl)
        | (rw [if_neg (fun h => absurd (congrArg Prod.fst h) e1)]; rfl)
        | (rw [if_neg (fun h => absurd (congrArg Prod.snd h) e2)]; rfl)
end
end Go.Proofs.Ytcbdcdpoackplaa
