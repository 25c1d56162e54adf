/- The ways of notes, as iterators that lie in memory; notes by their kinds. -/
import Derived.Test.YtcbdcdpoackplaaLf
import Derived.Test.YtcbdcdpoackplaaRl
namespace Go.Proofs.Ytcbdcdpoackplaa
open Go.RowKit Dt

def wayL (w : Dt.Way) : List Value := [.int .i64 w.1.a, .int .i64 w.1.b, .int .i64 w.1.y, .int .i64 w.2.a, .int .i64 w.2.b, .int .i64 w.2.y]
def wayV (w : Dt.Way) : Value := .agg (wayL w).toArray
def ntL (x : Nt) (vy : Value) : List Value := [.int .i64 x.kind, .int .i64 x.stone, .int .i64 x.other, vy, .int .i64 x.lo, .int .i64 x.hi]
/-- A note as a value: its years lie in memory below B. -/
def NtV (w : World) (B : Nat) (x : Nt) (v : Value) : Prop := ∃ vy, v = .agg (ntL x vy).toArray ∧ Ints w B vy x.years
set_option maxRecDepth 100000 in
set_option maxHeartbeats 1000000 in
theorem apart_any (a b : Nat) (lo hi : Int) (h1 : -10000 ≤ lo) (h2 : lo ≤ 10000) (w : World) :
    Calls Try.prog 123 #[.int .i64 a, .int .i64 b, .agg #[.int .i64 lo, .int .i64 hi]] w fun e w' => e = .returned (wayV (apart a b lo hi)) ∧ Below w.heap.size w w' := by
  go_enter Try.func123, Try.ntmps123
  go_wp2_with fail
  refine bodyPost_ret (v := wayV (apart a b lo hi)) ?_ rfl ⟨rfl, ?_⟩
  · exact results_cell_row Try.results123 _ _ (w.heap.size + 1) 130 (wayL (apart a b lo hi)).toArray (0, 0) _ rfl (by
      have := Blok.new (w.alloc (.cells #[.int .i64 lo, .int .i64 hi] 39)) 130 (wayL (apart a b lo hi))
      rwa [World.size_alloc] at this) Try.underlying130 rfl (by kernel_rfl)
  · exact ((Below.refl _ w).alloc (Nat.le_refl _) _).alloc (by simp) _
theorem apart_is {a b : Nat} {ia ib : Int} (ha : ia = a) (hb : ib = b) (lo hi : Int) (h1 : -10000 ≤ lo) (h2 : lo ≤ 10000) (w : World) :
    Calls Try.prog 123 #[.int .i64 ia, .int .i64 ib, .agg #[.int .i64 lo, .int .i64 hi]] w fun e w' => e = .returned (wayV (apart a b lo hi)) ∧ Below w.heap.size w w' := by
  subst ha hb
  exact apart_any a b lo hi h1 h2 w
set_option maxRecDepth 100000 in
theorem just_any (wy : Dt.Way) (w : World) :
    Calls Try.prog 126 #[wayV wy] w fun e w' => e = .returned (.func (.func 127) #[] #[.pointer (some ⟨w.heap.size, 0, none⟩)]) ∧ w' = w.alloc (.cells (wayL wy).toArray 130) := by
  unfold wayV
  go_enter Try.func126, Try.ntmps126
  go_wp2_with fail
  go_ret
  exact ⟨rfl, rfl⟩
/-- What an iterator of ways has captured, in block c. -/
def WayBox (B : Nat) (x : Nt) (gf c : Nat) (w : World) : Prop :=
  (x.kind = 1 ∧ gf = 122 ∧ ∃ vy, Blok w c 120 (ntL x vy) ∧ Ints w B vy x.years) ∨
  (x.kind ≠ 1 ∧ gf = 127 ∧ ∃ wy, x.ways = [wy] ∧ Blok w c 130 (wayL wy))
def WaysPost (B : Nat) (x : Nt) (w : World) (e : Ending) (w' : World) : Prop :=
  Below w.heap.size w w' ∧ ∃ gf c, e = .returned (.func (.func gf) #[] #[.pointer (some ⟨c, 0, none⟩)]) ∧ w.heap.size ≤ c ∧ c < w'.heap.size ∧ WayBox B x gf c w'
set_option maxRecDepth 100000 in
set_option maxHeartbeats 1000000 in
theorem ways_years (d : Dat) (x : Nt) (hx : x.Ok d) (hk : x.kind = 1) (B : Nat) (v : Value) (w : World) (hB : B ≤ w.heap.size) (hv : NtV w B x v) :
    Calls Try.prog 121 #[v] w (WaysPost B x w) := by
  obtain ⟨vy, rfl, hy⟩ := hv
  have HK := Lib.hid hk
  have HY := Lib.hid (hy.keep (Same.of_below (((Below.refl w.heap.size w).alloc (Nat.le_refl _) (.cells (ntL x vy).toArray 120)).mono hB)) (Nat.le_refl _))
  clear hk hy
  go_enter Try.func121, Try.ntmps121
  go_wp2_with fail
  go_ret
  exact ⟨(Below.refl _ w).alloc (Nat.le_refl _) _, _, w.heap.size, rfl, Nat.le_refl _, by simp, .inl ⟨HK.out, rfl, vy, Blok.new w _ _, HY.out⟩⟩
set_option maxRecDepth 100000 in
set_option maxHeartbeats 1000000 in
theorem ways_within (d : Dat) (hd : d.Ok) (x : Nt) (hx : x.Ok d) (hk : x.kind = 2) (B : Nat) (v : Value) (w : World) (hv : NtV w B x v) :
    Calls Try.prog 125 #[v] w (WaysPost B x w) := by
  obtain ⟨vy, rfl, -⟩ := hv
  have hs := hx.stone
  have h6 := hd.stones.2
  have h3 := hd.eras.1
  obtain ⟨-, b1, b2, b3⟩ := hx.span (by omega)
  have HK := Lib.hid hk
  have HW := Lib.hid (show x.ways = [apart 0 (1 + x.stone) x.lo x.hi] by simp [Nt.ways, hk])
  have HA := Lib.hid (fun w => apart_is (ia := 0) (ib := 1 + (x.stone : Int)) (show _ = ((0 : Nat) : Int) by simp) (show _ = ((1 + x.stone : Nat) : Int) by simp) (x.lo) (x.hi) (by omega) (by omega) w)
  have HJ := Lib.hid (fun w => just_any (apart 0 (1 + x.stone) x.lo x.hi) w)
  have hs1 : (x.stone : Int) ≤ 6 := by omega
  clear hk h6 hs h3
  unfold ntL
  go_enter Try.func125, Try.ntmps125
  go_wp2_with (first
    | (go_at_call 123; (with_reducible refine (HA.out _).mono ?_); rintro e w1 ⟨rfl, hb⟩; have HB := Lib.hid hb; clear hb)
    | (go_at_call 126; (with_reducible refine (HJ.out _).mono ?_); rintro e w2 ⟨rfl, rfl⟩))
  go_ret
  have hb := ((Below.refl _ w).alloc (Nat.le_refl _) (.cells (ntL x vy).toArray 121)).trans (HB.out.mono (by simp))
  exact ⟨hb.alloc hb.size _, _, w1.heap.size, rfl, hb.size, by simp, .inr ⟨by have := HK.out; omega, rfl, _, HW.out, Blok.new w1 _ _⟩⟩
set_option maxRecDepth 100000 in
set_option maxHeartbeats 1000000 in
theorem ways_era (d : Dat) (hd : d.Ok) (x : Nt) (hx : x.Ok d) (hk : x.kind = 3) (B : Nat) (v : Value) (w : World) (hv : NtV w B x v) :
    Calls Try.prog 129 #[v] w (WaysPost B x w) := by
  obtain ⟨vy, rfl, -⟩ := hv
  have hs := hx.stone
  have h6 := hd.stones.2
  have h3 := hd.eras.1
  have ho := (hx.era hk).1
  obtain ⟨-, b1, b2, b3⟩ := hx.span (by omega)
  have HK := Lib.hid hk
  have HW := Lib.hid (show x.ways = [apart (7 + x.other) (1 + x.stone) (x.lo - 1) (x.hi - 1)] by simp [Nt.ways, hk])
  have HA := Lib.hid (fun w => apart_is (ia := 7 + (x.other : Int)) (ib := 1 + (x.stone : Int)) (show _ = ((7 + x.other : Nat) : Int) by simp) (show _ = ((1 + x.stone : Nat) : Int) by simp) (x.lo - 1) (x.hi - 1) (by omega) (by omega) w)
  have HJ := Lib.hid (fun w => just_any (apart (7 + x.other) (1 + x.stone) (x.lo - 1) (x.hi - 1)) w)
  have hs1 : (x.stone : Int) ≤ 6 := by omega
  have ho1 : (x.other : Int) ≤ 6 := by omega
  clear ho
  clear hk h6 hs h3
  unfold ntL
  go_enter Try.func129, Try.ntmps129
  go_wp2_with (first
    | (go_at_call 123; (with_reducible refine (HA.out _).mono ?_); rintro e w1 ⟨rfl, hb⟩; have HB := Lib.hid hb; clear hb)
    | (go_at_call 126; (with_reducible refine (HJ.out _).mono ?_); rintro e w2 ⟨rfl, rfl⟩))
  go_ret
  have hb := ((Below.refl _ w).alloc (Nat.le_refl _) (.cells (ntL x vy).toArray 122)).trans (HB.out.mono (by simp))
  exact ⟨hb.alloc hb.size _, _, w1.heap.size, rfl, hb.size, by simp, .inr ⟨by have := HK.out; omega, rfl, _, HW.out, Blok.new w1 _ _⟩⟩
set_option maxRecDepth 100000 in
set_option maxHeartbeats 1000000 in
theorem ways_after (d : Dat) (hd : d.Ok) (x : Nt) (hx : x.Ok d) (hk : x.kind = 4) (B : Nat) (v : Value) (w : World) (hv : NtV w B x v) :
    Calls Try.prog 131 #[v] w (WaysPost B x w) := by
  obtain ⟨vy, rfl, -⟩ := hv
  have hs := hx.stone
  have h6 := hd.stones.2
  have h3 := hd.eras.1
  have ho := (hx.after hk).1
  obtain ⟨-, b1, b2, b3⟩ := hx.span (by omega)
  have HK := Lib.hid hk
  have HW := Lib.hid (show x.ways = [apart (1 + x.other) (1 + x.stone) x.lo x.hi] by simp [Nt.ways, hk])
  have HA := Lib.hid (fun w => apart_is (ia := 1 + (x.other : Int)) (ib := 1 + (x.stone : Int)) (show _ = ((1 + x.other : Nat) : Int) by simp) (show _ = ((1 + x.stone : Nat) : Int) by simp) (x.lo) (x.hi) (by omega) (by omega) w)
  have HJ := Lib.hid (fun w => just_any (apart (1 + x.other) (1 + x.stone) x.lo x.hi) w)
  have hs1 : (x.stone : Int) ≤ 6 := by omega
  have ho1 : (x.other : Int) ≤ 6 := by omega
  clear ho
  clear hk h6 hs h3
  unfold ntL
  go_enter Try.func131, Try.ntmps131
  go_wp2_with (first
    | (go_at_call 123; (with_reducible refine (HA.out _).mono ?_); rintro e w1 ⟨rfl, hb⟩; have HB := Lib.hid hb; clear hb)
    | (go_at_call 126; (with_reducible refine (HJ.out _).mono ?_); rintro e w2 ⟨rfl, rfl⟩))
  go_ret
  have hb := ((Below.refl _ w).alloc (Nat.le_refl _) (.cells (ntL x vy).toArray 123)).trans (HB.out.mono (by simp))
  exact ⟨hb.alloc hb.size _, _, w1.heap.size, rfl, hb.size, by simp, .inr ⟨by have := HK.out; omega, rfl, _, HW.out, Blok.new w1 _ _⟩⟩
end Go.Proofs.Ytcbdcdpoackplaa
