/- The leaves of package date: numbers within bounds, spans of years, verdicts. -/
import Derived.Test.YtcbdcdpoackplaaProg
import Derived.Test.YtcbdcdpoackplaaMa
import Derived.WalkKit
import Derived.WalkSpells
import Derived.WalkLawsBesides
import Derived.Deep.QuietTactic
import Derived.BigQuiet
import Derived.Lib.Hide
namespace Go.Proofs.Ytcbdcdpoackplaa
open Go.RowKit

theorem ret_int {k : IntKind} {a b : Int} (h : a = b) : Ending.returned (.int k a) = .returned (.int k b) := by rw [h]
theorem ret_bool {a b : Bool} (h : a = b) : Ending.returned (.bool a) = .returned (.bool b) := by rw [h]
def outB (n lo hi : Int) : Bool := decide (n < lo) || decide (hi < n)

set_option maxRecDepth 100000 in
set_option maxHeartbeats 400000 in
theorem outside_any (n lo hi : Int) (w : World) :
    Calls Try.prog 39 #[.int .i64 n, .int .i64 lo, .int .i64 hi] w fun e w' => e = .returned (.bool (outB n lo hi)) ∧ w = w' := by
  by_cases h : n < lo
  · rw [show outB n lo hi = true by simp [outB, h]]
    go_enter Try.func39, Try.ntmps39
    go_wp2
    go_ret
    exact ⟨rfl, rfl⟩
  · rw [show outB n lo hi = decide (hi < n) by simp [outB, h]]
    go_enter Try.func39, Try.ntmps39
    go_wp2
    go_ret
    exact ⟨rfl, rfl⟩

/-- The error of a number of things. -/
def countE (n lo hi : Int) : Int := if n < lo then 7 else if hi < n then 6 else 0
set_option maxRecDepth 100000 in
set_option maxHeartbeats 400000 in
theorem count_any (n lo hi : Int) (w : World) :
    Calls Try.prog 58 #[.int .i64 n, .int .i64 lo, .int .i64 hi] w fun e w' => e = .returned (.int .i64 (countE n lo hi)) ∧ w = w' := by
  by_cases h : n < lo
  · rw [show countE n lo hi = 7 by simp [countE, h]]
    go_enter Try.func58, Try.ntmps58
    go_wp2
    go_ret
    exact ⟨rfl, rfl⟩
  · by_cases h2 : hi < n
    · rw [show countE n lo hi = 6 by simp [countE, h, h2]]
      go_enter Try.func58, Try.ntmps58
      go_wp2
      go_ret
      exact ⟨rfl, rfl⟩
    · rw [show countE n lo hi = 0 by simp [countE, h, h2]]
      go_enter Try.func58, Try.ntmps58
      go_wp2
      go_ret
      exact ⟨rfl, rfl⟩
theorem outside_is {n lo hi : Int} {b : Bool} (h : outB n lo hi = b) (w : World) :
    Calls Try.prog 39 #[.int .i64 n, .int .i64 lo, .int .i64 hi] w fun e w' => e = .returned (.bool b) ∧ w = w' := by
  have := outside_any n lo hi w
  rwa [h] at this
/-- What basics.Span answers. -/
def spanE (a b lo hi : Int) : Int := if outB a lo hi || outB b lo hi then 1 else if b < a then 5 else 0
set_option maxRecDepth 100000 in
set_option maxHeartbeats 1000000 in
theorem span_any (a b lo hi : Int) (w : World) :
    Calls Try.prog 70 #[.agg #[.int .i64 a, .int .i64 b], .int .i64 lo, .int .i64 hi] w fun e w' => e = .returned (.int .i64 (spanE a b lo hi)) ∧ Below w.heap.size w w' := by
  obtain ⟨r, hr⟩ : ∃ r, r = spanE a b lo hi := ⟨_, rfl⟩
  have HR := Lib.hid hr
  rw [← hr]
  clear hr
  obtain ⟨x, hx⟩ : ∃ x, outB a lo hi = x := ⟨_, rfl⟩
  obtain ⟨y, hy⟩ : ∃ y, outB b lo hi = y := ⟨_, rfl⟩
  have HA := Lib.hid (fun w => outside_is hx w)
  have HB := Lib.hid (fun w => outside_is hy w)
  have HX := Lib.hid hx
  have HY := Lib.hid hy
  clear hx hy
  have HW := Lib.hid ((Below.refl w.heap.size w).alloc (Nat.le_refl _) (.cells #[.int .i64 a, .int .i64 b] 39))
  by_cases h3 : b < a
  all_goals
    cases x <;> cases y
    all_goals
      go_enter Try.func70, Try.ntmps70
      go_wp2_with (first
        | (go_at_call 39; (with_reducible refine (HA.out _).mono ?_); rintro e w' ⟨rfl, rfl⟩)
        | (go_at_call 39; (with_reducible refine (HB.out _).mono ?_); rintro e w' ⟨rfl, rfl⟩))
      go_ret
      refine ⟨?_, HW.out⟩
      rw [HR.out, spanE, HX.out, HY.out]
      simp [h3]
set_option maxRecDepth 100000 in
theorem isYear_any (n : Int) (w : World) : Calls Try.prog 40 #[.int .i64 n] w fun e w' => e = .returned (.bool (!outB n (-3000) 3000)) ∧ w = w' := by
  have HO := Lib.hid (fun w => outside_any n (-3000) 3000 w)
  go_enter Try.func40, Try.ntmps40
  go_wp2_with (go_at_call 39; refine (HO.out _).mono ?_; rintro e w' ⟨rfl, rfl⟩)
  go_ret
  exact ⟨rfl, rfl⟩
set_option maxRecDepth 100000 in
theorem yearsE_any (a b : Int) (w : World) : Calls Try.prog 59 #[.agg #[.int .i64 a, .int .i64 b]] w fun e w' => e = .returned (.int .i64 (spanE a b (-3000) 3000)) ∧ Below w.heap.size w w' := by
  go_enter Try.func59, Try.ntmps59
  go_wp2_with (go_at_call 70; refine (span_any a b (-3000) 3000 _).mono ?_; rintro e w' ⟨rfl, hb⟩; have HB := Lib.hid hb; clear hb)
  go_ret
  exact ⟨rfl, ((Below.refl _ _).alloc (Nat.le_refl _) _).trans (HB.out.mono (by simp))⟩
set_option maxRecDepth 100000 in
theorem verdict_any (a b : Bool) (w : World) : Calls Try.prog 45 #[.bool a, .bool b] w fun e w' => e = .returned (.int .i64 (if a then 1 else if b then 3 else 2)) ∧ w = w' := by
  cases a <;> cases b <;>
  · go_enter Try.func45, Try.ntmps45
    go_wp2
    go_ret
    exact ⟨rfl, rfl⟩
end Go.Proofs.Ytcbdcdpoackplaa
