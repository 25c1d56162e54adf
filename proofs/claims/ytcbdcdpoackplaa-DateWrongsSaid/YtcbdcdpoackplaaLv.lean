/- Valid notes and datings are let pass. · Check lets valid datings pass. -/
import Derived.Test.YtcbdcdpoackplaaLn
namespace Go.Proofs.Ytcbdcdpoackplaa
section
open Go.RowKit Dt

theorem outB_no {n lo hi : Int} (h1 : lo ≤ n) (h2 : n ≤ hi) : outB n lo hi = false := by
  simp [outB]
  omega
theorem spanE_ok {a b : Int} (h : SpanOk a b) : spanE a b (-3000) 3000 = 0 := by
  obtain ⟨h1, h2, h3⟩ := h
  simp [spanE, outB]
  omega
theorem bcell2 {W w1 : World} (hb : Below W.heap.size W w1) : (∀ b o, b < W.heap.size → w1.cell? ⟨b, o, none⟩ = W.cell? ⟨b, o, none⟩) ∧ (∀ b o, b < W.heap.size → w1.frozen? ⟨b, o, none⟩ = W.frozen? ⟨b, o, none⟩) :=
  ⟨fun b o h => hb.cell (p := ⟨b, o, none⟩) h, fun b o h => hb.frozen (p := ⟨b, o, none⟩) h⟩
def OkPost (w : World) (e : Ending) (w' : World) : Prop := e = .returned (.int .i64 0) ∧ Below w.heap.size w w'
theorem years_ok {a b : Int} (h : SpanOk a b) (w : World) : Calls Try.prog 59 #[.agg #[.int .i64 a, .int .i64 b]] w (OkPost w) := by
  have := yearsE_any a b w
  rwa [spanE_ok h] at this
theorem count_ok {n lo hi : Int} (h1 : lo ≤ n) (h2 : n ≤ hi) (w : World) : Calls Try.prog 58 #[.int .i64 n, .int .i64 lo, .int .i64 hi] w fun e w' => e = .returned (.int .i64 0) ∧ w = w' := by
  have := count_any n lo hi w
  rwa [show countE n lo hi = 0 by simp [countE]; omega] at this
set_option maxRecDepth 100000 in
set_option maxHeartbeats 1000000 in
theorem check_within (x : Nt) (d : Dat) (hx : x.Ok d) (hk : x.kind = 2) (vy : Value) (hvy : ∃ A c, vy = .slice A x.years.length c) (ve vn : Value) (w : World) :
    Calls Try.prog 124 #[.agg (ntL x vy).toArray, .agg #[.int .i64 d.stones, ve, vn]] w (OkPost w) := by
  obtain ⟨A, c, rfl⟩ := hvy
  obtain ⟨hy, hsp⟩ := hx.span (by omega)
  have ho := hx.within hk
  unfold ntL
  rw [hy, ho]
  have HY := Lib.hid (fun w => years_ok hsp w)
  clear hy ho hsp hk
  go_enter Try.func124, Try.ntmps124
  go_wp2_with (go_at_call 59; (with_reducible refine (HY.out _).mono ?_); rintro e w1 ⟨rfl, hb⟩; have HB := Lib.hid hb; clear hb)
  go_ret
  exact ⟨rfl, (((Below.refl _ w).alloc (Nat.le_refl _) _).alloc (by simp) _).trans (HB.out.mono (by simp; omega))⟩
set_option maxRecDepth 100000 in
set_option maxHeartbeats 1000000 in
theorem check_era (x : Nt) (d : Dat) (hd : d.Ok) (hx : x.Ok d) (hk : x.kind = 3) (vy : Value) (hvy : ∃ A c, vy = .slice A x.years.length c) (A : Option Addr) (c : Nat) (vn : Value) (w : World) :
    Calls Try.prog 128 #[.agg (ntL x vy).toArray, .agg #[.int .i64 d.stones, .slice A d.eras.length c, vn]] w (OkPost w) := by
  obtain ⟨A', c', rfl⟩ := hvy
  obtain ⟨hy, hsp⟩ := hx.span (by omega)
  obtain ⟨ho, hlo⟩ := hx.era hk
  have h3 := hd.eras.1
  obtain ⟨n, hn⟩ : ∃ n, n = d.eras.length := ⟨_, rfl⟩
  rw [← hn] at ho h3 ⊢
  unfold ntL
  rw [hy]
  have HO := Lib.hid (fun w => outside_is (outB_no (n := (x.other : Int)) (lo := 0) (hi := (n : Int) - 1) (by omega) (by omega)) w)
  have HY := Lib.hid (fun w => years_ok hsp w)
  clear hy ho hk hn hsp
  go_enter Try.func128, Try.ntmps128
  go_wp2_with (first
    | (go_at_call 39; (with_reducible refine (HO.out _).mono ?_); rintro e w1 ⟨rfl, rfl⟩)
    | (go_at_call 59; (with_reducible refine (HY.out _).mono ?_); rintro e w1 ⟨rfl, hb⟩; obtain ⟨hbc, -⟩ := bcell2 hb; have HB := Lib.hid hb; clear hb))
  go_ret
  exact ⟨rfl, (((Below.refl _ w).alloc (Nat.le_refl _) _).alloc (by simp) _).trans (HB.out.mono (by simp; omega))⟩
set_option maxRecDepth 100000 in
set_option maxHeartbeats 1000000 in
theorem check_after (x : Nt) (d : Dat) (hd : d.Ok) (hx : x.Ok d) (hk : x.kind = 4) (vy : Value) (hvy : ∃ A c, vy = .slice A x.years.length c) (ve vn : Value) (w : World) :
    Calls Try.prog 130 #[.agg (ntL x vy).toArray, .agg #[.int .i64 d.stones, ve, vn]] w (OkPost w) := by
  obtain ⟨A', c', rfl⟩ := hvy
  obtain ⟨hy, hsp⟩ := hx.span (by omega)
  obtain ⟨ho, hne⟩ := hx.after hk
  have h6 := hd.stones.2
  have hst := hx.stone
  obtain ⟨n, hn⟩ : ∃ n, n = d.stones := ⟨_, rfl⟩
  rw [← hn] at ho h6 hst ⊢
  unfold ntL
  rw [hy]
  have HO := Lib.hid (fun w => outside_is (outB_no (n := (x.other : Int)) (lo := 0) (hi := (n : Int) - 1) (by omega) (by omega)) w)
  have HY := Lib.hid (fun w => years_ok hsp w)
  have hne2 : ((x.other : Int) == (x.stone : Int)) = false := by simp; omega
  clear hy ho hk hn hsp hst hne
  go_enter Try.func130, Try.ntmps130
  go_wp2_with (first
    | (go_at_call 39; (with_reducible refine (HO.out _).mono ?_); rintro e w1 ⟨rfl, rfl⟩)
    | (go_at_call 59; (with_reducible refine (HY.out _).mono ?_); rintro e w1 ⟨rfl, hb⟩; have HB := Lib.hid hb; clear hb))
  go_ret
  exact ⟨rfl, (((Below.refl _ w).alloc (Nat.le_refl _) _).alloc (by simp) _).trans (HB.out.mono (by simp; omega))⟩
set_option maxRecDepth 100000 in
set_option maxHeartbeats 1000000 in
theorem check_years (x : Nt) (d : Dat) (hx : x.Ok d) (hk : x.kind = 1) (vy : Value) (B : Nat) (w : World) (hB : B ≤ w.heap.size) (hvy : Ints w B vy x.years) (ve vn : Value) :
    Calls Try.prog 120 #[.agg (ntL x vy).toArray, .agg #[.int .i64 d.stones, ve, vn]] w (OkPost w) := by
  obtain ⟨A, c, rfl, hA⟩ := hvy
  obtain ⟨h1, h2, h3, h4, h5, h6, h7⟩ := hx.years hk
  obtain ⟨n, hn⟩ : ∃ n, n = x.years.length := ⟨_, rfl⟩
  rw [← hn] at hA h4 h5 ⊢
  have HN := Lib.hid hn
  have HB := Lib.hid h6
  have HP := Lib.hid h7
  have HC := Lib.hid (fun w => count_ok (n := (n : Int)) (lo := 1) (hi := 3) (by omega) (by omega) w)
  obtain ⟨b, o, rfl, hb, hR⟩ := hA (by omega)
  unfold ntL
  rw [h1, h2, h3]
  clear h1 h2 h3 h6 h7 hn hk
  have HBL := Lib.hid (((Below.refl w.heap.size w).alloc (Nat.le_refl _) (.cells #[.int .i64 x.kind, .int .i64 x.stone, .int .i64 ((0 : Nat) : Int), .slice (some ⟨b, o, none⟩) n c, .int .i64 0, .int .i64 0] 120)).alloc (by simp) (.cells #[.int .i64 d.stones, ve, vn] 28))
  go_enter Try.func120, Try.ntmps120
  go_wp2_with (go_at_call 58; (with_reducible refine (HC.out _).mono ?_); rintro e w1 ⟨rfl, rfl⟩)
  go_loop [27] (fun i => ∃ k : Nat, k ≤ n ∧ i = .int .i64 k) (fun i => n - (intOf i).toNat)
  case atStart => exact ⟨0, by omega, rfl⟩
  case round =>
    obtain ⟨k, hkn, rfl⟩ := hrel
    by_cases hlt : k < n
    · obtain ⟨y, hy⟩ : ∃ y, x.years[k]? = some y := ⟨_, List.getElem?_eq_getElem (by rw [← HN.out]; exact hlt)⟩
      obtain ⟨y1, y2⟩ := HB.out y (List.mem_of_getElem? hy)
      have hcy := hR k y hy
      have hiy : ∀ w, Calls Try.prog 40 #[.int .i64 y] w fun e w' => e = .returned (.bool true) ∧ w = w' := fun w => by
        have := isYear_any y w
        rwa [outB_no y1 y2] at this
      have HI := Lib.hid hiy
      clear hiy
      have hbz : b < w.heap.size := by omega
      have hbz1 : b < w.heap.size + 1 := by omega
      by_cases hk0 : k = 0
      · subst hk0
        simp at hcy
        clear hy y1 y2
        go_wp2_with (go_at_call 40; (with_reducible refine (HI.out _).mono ?_); rintro e w1 ⟨rfl, rfl⟩)
        go_round
        case rel => exact ⟨1, by omega, by go_num⟩
        case measure => simp [intOf]; omega
      · obtain ⟨z, hz⟩ : ∃ z, x.years[k - 1]? = some z := ⟨_, List.getElem?_eq_getElem (by rw [← HN.out]; omega)⟩
        have hcz := hR (k - 1) z hz
        have hzy : z < y := by
          have h1 := List.getElem?_eq_some_iff.1 hz
          have h2 := List.getElem?_eq_some_iff.1 hy
          obtain ⟨l1, e1⟩ := h1
          obtain ⟨l2, e2⟩ := h2
          have := List.pairwise_iff_getElem.1 HP.out (k - 1) k l1 l2 (by omega)
          rw [e1, e2] at this
          exact this
        have hle : (y ≤ z) = False := by simp; omega
        have hkk : ((k : Int) - 1).toNat = k - 1 := by omega
        clear hy y1 y2 hz
        go_wp2_with (go_at_call 40; (with_reducible refine (HI.out _).mono ?_); rintro e w1 ⟨rfl, rfl⟩)
        go_round
        case rel => exact ⟨k + 1, by omega, by go_num⟩
        case measure => simp [intOf]; omega
    · obtain rfl : k = n := by omega
      go_wp2_with fail
      go_ret
      exact ⟨rfl, HBL.out⟩
/-- Which function checks a note. -/
def checkF (x : Nt) : FuncId := if x.kind = 1 then 120 else if x.kind = 2 then 124 else if x.kind = 3 then 128 else 130
theorem run_checkM (x : Nt) (u : Value) (w : World) : (method 268 (noteT x) u "cippus/date.check").run Try.prog w = .ok (checkF x, u) w := by
  unfold noteT checkF
  split
  · kernel_rfl
  · split
    · kernel_rfl
    · split
      · kernel_rfl
      · kernel_rfl
theorem run_checkC (x : Nt) (u u' : Value) (w : World) : (callFunc (checkF x) #[u, u']).run Try.prog w = .ok (.enter (checkF x) #[u, u']) w := by
  unfold checkF
  split
  · kernel_rfl
  · split
    · kernel_rfl
    · split
      · kernel_rfl
      · kernel_rfl
theorem check_any (x : Nt) (d : Dat) (hd : d.Ok) (hx : x.Ok d) (vy : Value) (B : Nat) (w : World) (hB : B ≤ w.heap.size) (hvy : Ints w B vy x.years) (A : Option Addr) (c : Nat) (vn : Value) :
    Calls Try.prog (checkF x) #[.agg (ntL x vy).toArray, .agg #[.int .i64 d.stones, .slice A d.eras.length c, vn]] w (OkPost w) := by
  have hsl : ∃ A c, vy = .slice A x.years.length c := by obtain ⟨A, c, h, -⟩ := hvy; exact ⟨A, c, h⟩
  unfold checkF
  split
  · rename_i h
    exact check_years x d hx h vy B w hB hvy _ _
  · split
    · rename_i h
      exact check_within x d hx h vy hsl _ _ w
    · split
      · rename_i h
        exact check_era x d hd hx h vy hsl A c vn w
      · rename_i h1 h2 h3
        exact check_after x d hd hx (by have := hx.kind; omega) vy hsl _ _ w
set_option maxRecDepth 100000 in
set_option maxHeartbeats 1000000 in
theorem checkNote_ok (x : Nt) (d : Dat) (hd : d.Ok) (hx : x.Ok d) (vy : Value) (B : Nat) (w : World) (hB : B ≤ w.heap.size) (hvy : Ints w B vy x.years) (A : Option Addr) (c : Nat) (vn : Value) :
    Calls Try.prog 60 #[.agg #[.int .i64 d.stones, .slice A d.eras.length c, vn], .agg (ntL x vy).toArray] w (OkPost w) := by
  have hk := hx.kind
  have hs := hx.stone
  have h6 := hd.stones.2
  have HCA := Lib.hid (fun w' (hb : Below w.heap.size w w') => check_any x d hd hx vy B w' (Nat.le_trans hB hb.size) (hvy.keep (Same.of_below (hb.mono hB)) (Nat.le_refl _)) A c vn)
  have HO1 := Lib.hid (fun w => outside_is (outB_no (n := (x.kind : Int)) (lo := 1) (hi := 4) (by omega) (by omega)) w)
  have HO2 := Lib.hid (fun w => outside_is (outB_no (n := (x.stone : Int)) (lo := 0) (hi := (d.stones : Int) - 1) (by omega) (by omega)) w)
  obtain ⟨Ay, cy, rfl, -⟩ := hvy
  obtain ⟨n, hn⟩ : ∃ n, n = d.eras.length := ⟨_, rfl⟩
  rw [← hn] at HCA ⊢
  have HNO : Hid (∀ w, Calls Try.prog 71 #[.agg #[.int .i64 x.kind, .int .i64 x.stone, .int .i64 x.other, .slice Ay x.years.length cy, .int .i64 x.lo, .int .i64 x.hi]] w fun e w' => e = .returned (.iface (noteT x) (.agg #[.int .i64 x.kind, .int .i64 x.stone, .int .i64 x.other, .slice Ay x.years.length cy, .int .i64 x.lo, .int .i64 x.hi])) ∧ w' = w.alloc (.cells (ntL x (.slice Ay x.years.length cy)).toArray 51)) := Lib.hid fun w => noteOf_any x _ w
  have hrm := run_checkM x (.agg (ntL x (.slice Ay x.years.length cy)).toArray)
  have hrc := run_checkC x (.agg (ntL x (.slice Ay x.years.length cy)).toArray) (.agg #[.int .i64 d.stones, .slice A n c, vn])
  clear hn hk hs
  unfold ntL at HCA hrm hrc ⊢
  go_enter Try.func60, Try.ntmps60
  go_wp2_with (first
    | (go_at_call 39; (with_reducible refine (HO1.out _).mono ?_); rintro e w1 ⟨rfl, rfl⟩)
    | (go_at_call 39; (with_reducible refine (HO2.out _).mono ?_); rintro e w1 ⟨rfl, rfl⟩))
  obtain ⟨W, hW⟩ : ∃ W, W = (w.alloc (.cells #[.int .i64 d.stones, .slice A n c, vn] 28)).alloc (.cells #[.int .i64 x.kind, .int .i64 x.stone, .int .i64 x.other, .slice Ay x.years.length cy, .int .i64 x.lo, .int .i64 x.hi] 51) := ⟨_, rfl⟩
  have b1 : Below w.heap.size w W := by rw [hW]; exact ((Below.refl _ w).alloc (Nat.le_refl _) _).alloc (by simp) _
  have k0 : Blok W w.heap.size 28 [.int .i64 d.stones, .slice A n c, vn] := by rw [hW]; exact (Blok.new w _ _).alloc _
  have k1 : Blok W (w.heap.size + 1) 51 [.int .i64 x.kind, .int .i64 x.stone, .int .i64 x.other, .slice Ay x.years.length cy, .int .i64 x.lo, .int .i64 x.hi] := by
    rw [hW]
    have := Blok.new (w.alloc (.cells #[.int .i64 d.stones, .slice A n c, vn] 28)) 51 [.int .i64 x.kind, .int .i64 x.stone, .int .i64 x.other, .slice Ay x.years.length cy, .int .i64 x.lo, .int .i64 x.hi]
    simpa only [World.size_alloc] using this
  have z1 : W.heap.size = w.heap.size + 1 + 1 := by rw [hW]; simp
  rw [← hW]
  clear hW
  have a0 := k0.cell 0
  have a1 := k0.cell 1
  have a2 := k0.cell 2
  have n0 := k1.cell 0
  have n1 := k1.cell 1
  have n2 := k1.cell 2
  have n3 := k1.cell 3
  have n4 := k1.cell 4
  have n5 := k1.cell 5
  simp at a0 a1 a2 n0 n1 n2 n3 n4 n5
  have HB1 := Lib.hid b1
  have HZ := Lib.hid z1
  have hz1 : w.heap.size < W.heap.size := by omega
  have hca2 : ∀ o : Obj, w.heap.size ≤ W.heap.size → Calls Try.prog (checkF x) #[.agg #[.int .i64 x.kind, .int .i64 x.stone, .int .i64 x.other, .slice Ay x.years.length cy, .int .i64 x.lo, .int .i64 x.hi], .agg #[.int .i64 d.stones, .slice A n c, vn]] (W.alloc o).drew fun e w' => e = .returned (.int .i64 0) ∧ Below w.heap.size w w' := fun o hle => by
    have hb := (b1.alloc hle o).drew
    refine (HCA.out _ hb).mono ?_
    rintro e w' ⟨h1, h2⟩
    exact ⟨h1, hb.trans (h2.mono hb.size)⟩
  have HCA2 := Lib.hid hca2
  clear b1 k0 k1 z1 hca2
  go_region_with (first
    | (go_at_call 71; refine (HNO.out _).mono ?_; rintro e w2 ⟨rfl, rfl⟩)
    | (refine (HCA2.out _ ?_).mono ?_; exact Nat.le_of_lt hz1; rintro e w3 ⟨rfl, hb3⟩; have HB3 := Lib.hid hb3; clear hb3))
  all_goals
    go_wp2_with fail
    go_ret
    exact ⟨rfl, HB3.out⟩
end
section
open Go.RowKit Dt

set_option maxRecDepth 100000 in
set_option maxHeartbeats 1000000 in
theorem check_ok (d : Dat) (hd : d.Ok) (v : Value) (B0 : Nat) (w : World) (hB0 : B0 ≤ w.heap.size) (hv : DatAt w B0 v d) :
    Calls Try.prog 38 #[v] w (OkPost w) := by
  obtain ⟨ve, vn, rfl, hve, hvn⟩ := hv
  obtain ⟨Ae, ce, rfl, hE⟩ := hve
  obtain ⟨An, cn, rfl, hN⟩ := hvn
  obtain ⟨n, hn⟩ : ∃ n, n = d.eras.length := ⟨_, rfl⟩
  obtain ⟨m, hm⟩ : ∃ m, m = d.notes.length := ⟨_, rfl⟩
  have n3 : n ≤ 3 := by rw [hn]; exact hd.eras.1
  have m8 : m ≤ 8 := by rw [hm]; exact hd.notes.1
  have hC := count_ok (n := (d.stones : Int)) (lo := 1) (hi := 6) (by have := hd.stones; omega) (by have := hd.stones; omega)
  rw [← hn] at hE ⊢
  rw [← hm] at hN ⊢
  have HC := Lib.hid hC
  have HN := Lib.hid hn
  have HM := Lib.hid hm
  have HD := Lib.hid hd
  clear hn hm hC hd
  go_enter Try.func38, Try.ntmps38
  go_wp2_with (go_at_call 58; (with_reducible refine (HC.out _).mono ?_); rintro e w1 ⟨rfl, rfl⟩)
  go_loopw [23] (fun i wr => ∃ k : Nat, k ≤ n ∧ i = .int .i64 k ∧ Below w.heap.size w wr ∧ Blok wr w.heap.size 28 [.int .i64 d.stones, .slice Ae n ce, .slice An m cn]) (fun i _ => n - (intOf i).toNat)
  case atStart => exact ⟨0, by omega, rfl, (Below.refl _ w).alloc (Nat.le_refl _) _, Blok.new w _ _⟩
  case round =>
    obtain ⟨k, hk, rfl, hb, hbl⟩ := hrel
    by_cases hlt : k < n
    · obtain ⟨b, o, rfl, hbB, hR⟩ := hE (by omega)
      obtain ⟨x, hx⟩ : ∃ x, d.eras[k]? = some x := ⟨_, List.getElem?_eq_getElem (by rw [← HN.out]; exact hlt)⟩
      have hsp := HD.out.eras.2 x (List.mem_of_getElem? hx)
      obtain ⟨q0, q1⟩ := hR k x hx
      have c0 := bcell hb (by omega) q0
      have c1 := bcell hb (by omega) q1
      have HY := Lib.hid (fun w => years_ok hsp w)
      have HB := Lib.hid hb
      have HBL := Lib.hid hbl
      have hz := hb.size
      clear q0 q1 hR hx hsp hb hbl
      go_wp2_with (go_at_call 59; (with_reducible refine (HY.out _).mono ?_); rintro e w1 ⟨rfl, hb1⟩; have HB1 := Lib.hid hb1; clear hb1)
      go_roundw
      case rel => exact ⟨k + 1, by omega, by go_num, (HB.out.alloc hz _).trans (HB1.out.mono (by simp; omega)), (HBL.out.alloc _).below HB1.out (by simp; have := HBL.out.size; omega)⟩
      case measure => simp [intOf]; omega
    · obtain rfl : k = n := by omega
      have a2 := hbl.cell 2
      simp at a2
      have HBL := Lib.hid hbl
      have HB := Lib.hid hb
      clear hbl hb
      go_wp2_with fail
      clear a2
      go_loopw [40] (fun i wr => ∃ j : Nat, j ≤ m ∧ i = .int .i64 j ∧ Below w.heap.size w wr ∧ Blok wr w.heap.size 28 [.int .i64 d.stones, .slice Ae k ce, .slice An m cn]) (fun i _ => m - (intOf i).toNat)
      case atStart => exact ⟨0, by omega, rfl, HB.out, HBL.out⟩
      case round =>
        obtain ⟨j, hj, rfl, hb, hbl⟩ := hrel
        by_cases hlj : j < m
        · obtain ⟨b, o, rfl, hbB, hR⟩ := hN (by omega)
          obtain ⟨x, hx⟩ : ∃ x, d.notes[j]? = some x := ⟨_, List.getElem?_eq_getElem (by rw [← HM.out]; exact hlj)⟩
          have hxo := HD.out.notes.2 x (List.mem_of_getElem? hx)
          obtain ⟨q0, q1, q2, ⟨vy, q3, hy⟩, q4, q5⟩ := hR j x hx
          have c0 := bcell hb (by omega) q0
          have c1 := bcell hb (by omega) q1
          have c2 := bcell hb (by omega) q2
          have c3 := bcell hb (by omega) q3
          have c4 := bcell hb (by omega) q4
          have c5 := bcell hb (by omega) q5
          have a0 := hbl.cell 0
          have a1 := hbl.cell 1
          have a2 := hbl.cell 2
          simp at a0 a1 a2
          have hbs : w.heap.size < wr.heap.size := hbl.size
          have hck : ∀ wq, Below w.heap.size w wq → Calls Try.prog 60 #[.agg #[.int .i64 d.stones, .slice Ae k ce, .slice (some ⟨b, o, none⟩) m cn], .agg (ntL x vy).toArray] wq (OkPost wq) := fun wq hbq => by
            have := checkNote_ok x d HD.out hxo vy B0 wq (Nat.le_trans hB0 hbq.size) (hy.keep (Same.of_below (hbq.mono hB0)) (Nat.le_refl _)) Ae ce (.slice (some ⟨b, o, none⟩) m cn)
            rwa [← HN.out] at this
          obtain ⟨Ay, cy, rfl, -⟩ := hy
          unfold ntL at hck
          have HCK := Lib.hid hck
          have HB := Lib.hid hb
          have HBL := Lib.hid hbl
          clear q0 q1 q2 q3 q4 q5 hR hx hxo hb hbl hck
          go_wp2_with (go_at_call 60; (with_reducible refine (HCK.out _ ?_).mono ?_); exact HB.out.alloc (Nat.le_of_lt hbs) _; rintro e w1 ⟨rfl, hb1⟩; have HB1 := Lib.hid hb1; clear hb1)
          go_roundw
          case rel => exact ⟨j + 1, by omega, by go_num, (HB.out.alloc (Nat.le_of_lt hbs) _).trans (HB1.out.mono (by simp; omega)), (HBL.out.alloc _).below HB1.out (by simp; omega)⟩
          case measure => simp [intOf]; omega
        · obtain rfl : j = m := by omega
          have HB := Lib.hid hb
          clear hb hbl
          go_wp2_with fail
          go_ret
          exact ⟨rfl, HB.out⟩
end
end Go.Proofs.Ytcbdcdpoackplaa
