/- The urn: each of its calls draws some number, and writes the urn alone. -/
import Derived.Test.YthhajbgddifenaaFr
namespace Go.Proofs.Ythhajbgddifenaa
open Go.RowKit Go.Shelf

/-- The urn's own step. -/
def TurnPost (g : Nat) (w : World) (e : Ending) (w' : World) : Prop := ∃ t : Nat, e = .returned (.int .u64 t) ∧ t < 18446744073709551616 ∧ UrnAt w' g ∧ Kg g w w'
theorem wrap_u64_nat (x : Int) : ∃ t : Nat, IntKind.u64.wrap x = t ∧ t < 18446744073709551616 := by
  refine ⟨(IntKind.u64.wrap x).toNat, ?_, ?_⟩ <;> rw [IntKind.wrap_u64] <;> omega
set_option maxHeartbeats 1000000 in
theorem turn_any (g : Nat) (w : World) (hu : UrnAt w g) : Calls Try.prog 53 #[.pointer (some ⟨g, 0, none⟩)] w (TurnPost g w) := by
  obtain ⟨x, y, hb⟩ := hu
  have c0 : w.cell? ⟨g, 0, none⟩ = some (.int .u64 x) := hb.cell 0
  have c1 : w.cell? ⟨g, 1, none⟩ = some (.int .u64 y) := hb.cell 1
  have f0 := hb.free 0
  have f1 := hb.free 1
  have hz := hb.size
  go_enter Try.func53, Try.ntmps53
  go_wp2
  go_quiet (fail)
  go_wp2
  generalize bits .xor .u64 (bits .xor .u64 (bits .xor .u64 (bits .xor .u64 x (IntKind.u64.wrap (x * 8388608))) y) (bits .xor .u64 x (IntKind.u64.wrap (x * 8388608)) / 131072)) (y / 67108864) = z
  generalize bits .xor .u64 x (IntKind.u64.wrap (x * 8388608)) = x'
  have hk1 : Kg g w (((w.drewN nq).setCell ⟨g, 0, none⟩ (.int .u64 y)).setCell ⟨g, 1, none⟩ (.int .u64 z)) := (((Kg.refl g w).drewN nq).put 0 _).put 1 _
  have hb1 : Blok (((w.drewN nq).setCell ⟨g, 0, none⟩ (.int .u64 y)).setCell ⟨g, 1, none⟩ (.int .u64 z)) g 91 [.int .u64 y, .int .u64 z] := ((hb.drewN nq).put 0 _).put 1 _
  obtain ⟨W, hW⟩ : ∃ W, W = ((w.drewN nq).setCell ⟨g, 0, none⟩ (.int .u64 y)).setCell ⟨g, 1, none⟩ (.int .u64 z) := ⟨_, rfl⟩
  rw [← hW] at hk1 hb1 ⊢
  have HK := Lib.hid hk1
  have HB := Lib.hid hb1
  clear hW c0 c1 f0 f1 hz hk1 hb
  have c0 : W.cell? ⟨g, 0, none⟩ = some (.int .u64 y) := hb1.cell 0
  have c1 : W.cell? ⟨g, 1, none⟩ = some (.int .u64 z) := hb1.cell 1
  have f1 := hb1.free 1
  clear hb1
  by_cases h0 : (bits .or .u64 y z == 0) = true
  · go_quiet (fail)
    have e1 : (((W.drewN nq).setCell ⟨g, 1, none⟩ (.int .u64 1))).cell? ⟨g, 1, none⟩ = some (.int .u64 1) := ((HB.out.drewN _).put 1 _).cell 1
    go_wp2
    obtain ⟨t, ht, hlt⟩ := wrap_u64_nat (1 + y)
    rw [ht]
    go_ret
    exact ⟨t, rfl, hlt, ⟨_, _, (HB.out.drewN _).put 1 _⟩, (HK.out.drewN _).put 1 _⟩
  · have h0' : (bits .or .u64 y z == 0) = false := by simpa using h0
    clear h0
    go_quiet (fail)
    go_wp2
    obtain ⟨t, ht, hlt⟩ := wrap_u64_nat (z + y)
    rw [ht]
    go_ret
    exact ⟨t, rfl, hlt, ⟨_, _, HB.out.drewN _⟩, HK.out.drewN _⟩
theorem up_val (t m : Nat) (hm : m ≤ 9223372036854775807) (h1 : 0 < m) : wrap64 ((t : Int) / 2048 % (m : Int)) = ((t / 2048 % m : Nat) : Int) := by
  have h : t / 2048 % m < m := Nat.mod_lt _ h1
  have e : (t : Int) / 2048 % (m : Int) = ((t / 2048 % m : Nat) : Int) := by simp
  rw [e]
  unfold wrap64
  omega
/-- Up: a number below n, or 0. -/
def UpPost (g : Nat) (n : Int) (w : World) (e : Ending) (w' : World) : Prop := ∃ r : Nat, e = .returned (.int .i64 r) ∧ (r : Int) < max n 1 ∧ UrnAt w' g ∧ Kg g w w'
set_option maxHeartbeats 1000000 in
theorem up_any (g : Nat) (n : Int) (w : World) (hn : n ≤ 9223372036854775807) (hu : UrnAt w g) : Calls Try.prog 42 #[.pointer (some ⟨g, 0, none⟩), .int .i64 n] w (UpPost g n w) := by
  by_cases h2 : n < 2
  · have HU := Lib.hid hu
    clear hu
    have hfin : UpPost g n w (.returned (.int .i64 0)) w := ⟨0, rfl, by omega, HU.out, Kg.refl _ _⟩
    have HF := Lib.hid hfin
    clear hfin
    go_enter Try.func42, Try.ntmps42
    go_wp2
    go_ret
    exact HF.out
  · obtain ⟨m, rfl⟩ := Int.eq_ofNat_of_zero_le (show 0 ≤ n by omega)
    have HU := Lib.hid hu
    clear hu
    go_enter Try.func42, Try.ntmps42
    go_wp2_with (go_at_call 53; refine (turn_any _ _ HU.out).mono ?_; rintro e w1 ⟨t, rfl, ht, hu1, hk1⟩; have HU1 := Lib.hid hu1; have HK1 := Lib.hid hk1; clear hu1 hk1)
    go_ret
    have hm : t / 2048 % m < m := Nat.mod_lt _ (by omega)
    refine ⟨t / 2048 % m, ret_int (up_val t m (by omega) (by omega)), by omega, HU1.out, HK1.out⟩
/-- From: a number from low to high. -/
def FromPost (g : Nat) (lo hi : Int) (w : World) (e : Ending) (w' : World) : Prop := ∃ r : Int, e = .returned (.int .i64 r) ∧ lo ≤ r ∧ r ≤ max lo hi ∧ UrnAt w' g ∧ Kg g w w'
set_option maxHeartbeats 1000000 in
theorem from_any (g : Nat) (lo hi : Int) (w : World) (h1 : -100000 ≤ lo) (h2 : lo ≤ 100000) (h3 : -100000 ≤ hi) (h4 : hi ≤ 100000) (hu : UrnAt w g) : Calls Try.prog 50 #[.pointer (some ⟨g, 0, none⟩), .int .i64 lo, .int .i64 hi] w (FromPost g lo hi w) := by
  have HU := Lib.hid hu
  clear hu
  go_enter Try.func50, Try.ntmps50
  go_wp2_with (go_at_call 42; refine (up_any _ _ _ (by omega) HU.out).mono ?_; rintro e w1 ⟨r, rfl, hr, hu1, hk1⟩; have HU1 := Lib.hid hu1; have HK1 := Lib.hid hk1; clear hu1 hk1; have hr2 : (r : Int) ≤ 200000 := by omega)
  go_ret
  exact ⟨lo + r, rfl, by omega, by omega, HU1.out, HK1.out⟩
def OddsPost (g : Nat) (w : World) (e : Ending) (w' : World) : Prop := ∃ b : Bool, e = .returned (.bool b) ∧ UrnAt w' g ∧ Kg g w w'
set_option maxHeartbeats 1000000 in
theorem odds_any (g : Nat) (n m : Int) (w : World) (h4 : m ≤ 100000) (hu : UrnAt w g) : Calls Try.prog 46 #[.pointer (some ⟨g, 0, none⟩), .int .i64 n, .int .i64 m] w (OddsPost g w) := by
  have HU := Lib.hid hu
  clear hu
  go_enter Try.func46, Try.ntmps46
  go_wp2_with (go_at_call 42; refine (up_any _ _ _ (by omega) HU.out).mono ?_; rintro e w1 ⟨r, rfl, hr, hu1, hk1⟩; have HU1 := Lib.hid hu1; have HK1 := Lib.hid hk1; clear hu1 hk1)
  go_ret
  exact ⟨_, rfl, HU1.out, HK1.out⟩
def AnyPost (g : Nat) (l : List Int) (w : World) (e : Ending) (w' : World) : Prop := ∃ x : Int, e = .returned (.int .i64 x) ∧ x ∈ l ∧ UrnAt w' g ∧ Kg g w w'
set_option maxHeartbeats 1000000 in
theorem any_any (g b n c : Nat) (t : TypeId) (l : List Int) (w : World) (hn : n = l.length) (h1 : 1 ≤ l.length) (h2 : l.length ≤ 100) (hb : Blok w b t (l.map fun x => Value.int .i64 x)) (hne : b ≠ g) (hu : UrnAt w g) :
    Calls Try.prog 52 #[.pointer (some ⟨g, 0, none⟩), .slice (some ⟨b, 0, none⟩) n c] w (AnyPost g l w) := by
  have HU := Lib.hid hu
  have HB := Lib.hid hb
  have HN := Lib.hid hn
  have hn1 : 1 ≤ n := by omega
  have hn2 : n ≤ 100 := by omega
  have h0 : ((n : Int) == 0) = false := by simp; omega
  clear hu hb hn
  go_enter Try.func52, Try.ntmps52
  go_wp2_with (go_at_call 42; refine (up_any _ _ _ (by omega) HU.out).mono ?_; rintro e w1 ⟨r, rfl, hr, hu1, hk1⟩; have hr1 : r < n := (by omega); have hrl : r < l.length := (by rw [← HN.out]; exact hr1); have hc : w1.cell? ⟨b, r, none⟩ = some (.int .i64 l[r]) := (by rw [(HB.out.kg hk1 hne).cell]; simp [hrl]); have HU1 := Lib.hid hu1; have HK1 := Lib.hid hk1; clear hu1 hk1 hr)
  go_ret
  exact ⟨_, rfl, List.getElem_mem hrl, HU1.out, HK1.out⟩
end Go.Proofs.Ythhajbgddifenaa
