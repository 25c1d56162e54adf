/- The leaves of package sight: what each of them returns. -/
import Derived.Test.YtcemefojpaicoaaDoorProg
import Derived.Test.YtcemefojpaicoaaDoorS
import Derived.WalkKit
import Derived.WalkSpells
import Derived.WalkLawsBesides
import Derived.Deep.QuietTactic
import Derived.BigQuiet
import Derived.Lib.BitFns
import Derived.Laws.BitsLemmas
import Derived.Lib.EndianBits
import Derived.Lib.Hide
namespace Go.Proofs.YtcemefojpaicoaaDoor
open Go.RowKit

def tab : ByteArray := ⟨((([0, 1, 1, 2, 1, 2, 2, 3, 1, 2, 2, 3, 2, 3, 3, 4, 1, 2, 2, 3, 2, 3, 3, 4, 2, 3, 3, 4, 3, 4, 4, 5, 1, 2, 2, 3, 2, 3, 3, 4, 2, 3, 3, 4, 3, 4, 4, 5, 2, 3, 3, 4, 3, 4, 4, 5, 3, 4, 4, 5, 4, 5, 5, 6].append [1, 2, 2, 3, 2, 3, 3, 4, 2, 3, 3, 4, 3, 4, 4, 5, 2, 3, 3, 4, 3, 4, 4, 5, 3, 4, 4, 5, 4, 5, 5, 6, 2, 3, 3, 4, 3, 4, 4, 5, 3, 4, 4, 5, 4, 5, 5, 6, 3, 4, 4, 5, 4, 5, 5, 6, 4, 5, 5, 6, 5, 6, 6, 7]).append ([1, 2, 2, 3, 2, 3, 3, 4, 2, 3, 3, 4, 3, 4, 4, 5, 2, 3, 3, 4, 3, 4, 4, 5, 3, 4, 4, 5, 4, 5, 5, 6, 2, 3, 3, 4, 3, 4, 4, 5, 3, 4, 4, 5, 4, 5, 5, 6, 3, 4, 4, 5, 4, 5, 5, 6, 4, 5, 5, 6, 5, 6, 6, 7].append [2, 3, 3, 4, 3, 4, 4, 5, 3, 4, 4, 5, 4, 5, 5, 6, 3, 4, 4, 5, 4, 5, 5, 6, 4, 5, 5, 6, 5, 6, 6, 7, 3, 4, 4, 5, 4, 5, 5, 6, 4, 5, 5, 6, 5, 6, 6, 7, 4, 5, 5, 6, 5, 6, 6, 7, 5, 6, 6, 7, 6, 7, 7, 8])).toArray)⟩
theorem tab_size : tab.size = 256 := by decide +kernel
theorem tab_get (n : Nat) (h : n < tab.size) : (tab[n]'h).toNat = Lib.onesCount n := by
  have key : ∀ n : Fin 256, (tab[n.val]'(by rw [tab_size]; exact n.isLt)).toNat = Lib.onesCount n.val := by decide +kernel
  exact key ⟨n, by rw [← tab_size]; exact h⟩
theorem run_tab {P : Program} (t : TypeId) (k : IntKind) (i : Int) (h : P.underlying t = some .string) (h0 : 0 ≤ i) (h1 : i < 256) (w : World) :
    (Instr.index t (.string tab) (.int k i)).run P w = .ok (.int .u8 (Lib.onesCount i.toNat)) w := by
  have hs : 0 ≤ i ∧ i < tab.size := ⟨h0, by rw [tab_size]; exact h1⟩
  rw [run_index_string _ _ _ _ _ h, dif_pos hs, tab_get]

theorem ret_int {k : IntKind} {a b : Int} (h : a = b) : Ending.returned (.int k a) = .returned (.int k b) := by rw [h]
theorem ret_bool {a b : Bool} (h : a = b) : Ending.returned (.bool a) = .returned (.bool b) := by rw [h]
theorem and16 (a b : Nat) (ha : a < 65536) (hb : b < 65536) : bits .and .u16 a b = ((a &&& b : Nat) : Int) := (bits_nat .u16 16 (by decide) wraps_u16 a b ha hb).1
theorem andNot_nat (k : IntKind) (j : Nat) (hj : j ≤ k.bits) (hk : ∀ n : Int, 0 ≤ n → n < 2 ^ j → k.wrap n = n) (a b : Nat) (ha : a < 2 ^ j) : bits .andNot k a b = (diff a b : Nat) := by
  have ha' : a < 2 ^ k.bits := Nat.lt_of_lt_of_le ha (Nat.pow_le_pow_right (by decide) hj)
  have h : (BitVec.ofInt k.bits (a : Int) &&& ~~~ BitVec.ofInt k.bits (b : Int)).toNat = diff a b := by
    apply Nat.eq_of_testBit_eq
    intro i
    unfold diff
    rw [BitVec.testBit_toNat]
    simp only [BitVec.ofInt_natCast, BitVec.getLsbD_and, BitVec.getLsbD_not, BitVec.getLsbD_ofNat, Nat.testBit_xor, Nat.testBit_and]
    by_cases hi : i < k.bits
    · simp only [hi, decide_true, Bool.true_and]
      cases a.testBit i <;> cases b.testBit i <;> rfl
    · have h0 : a.testBit i = false := Nat.testBit_lt_two_pow (Nat.lt_of_lt_of_le ha' (Nat.pow_le_pow_right (by decide) (by omega)))
      simp [hi, h0]
  have hd : diff a b < 2 ^ j := by
    unfold diff
    exact Nat.xor_lt_two_pow ha (Nat.lt_of_le_of_lt Nat.and_le_left ha)
  have e : bits .andNot k a b = k.wrap ((BitVec.ofInt k.bits (a : Int) &&& ~~~ BitVec.ofInt k.bits (b : Int)).toNat : Int) := rfl
  rw [e, h]
  exact hk _ (by omega) (by exact_mod_cast hd)
theorem andNot16 (a b : Nat) (ha : a < 65536) : bits .andNot .u16 a b = (diff a b : Nat) := andNot_nat .u16 16 (by decide) wraps_u16 a b ha
theorem or16 (a b : Nat) (ha : a < 65536) (hb : b < 65536) : bits .or .u16 a b = ((a ||| b : Nat) : Int) := (bits_nat .u16 16 (by decide) wraps_u16 a b ha hb).2

set_option maxHeartbeats 400000 in
set_option maxRecDepth 100000 in
/-- bits.OnesCount16: how many strokes a set has. -/
theorem ones_any (n : Nat) (h1 : n < 65536) (w : World) :
    Calls Tryd.prog 47 #[.int .u16 n] w fun e w' => e = .returned (.int .i64 (pc n)) ∧ ∃ k, w' = w.drewN k := by
  unfold pc
  have a1 : (0 : Int) ≤ (n : Int) / 256 := by omega
  have a2 : (n : Int) / 256 < 256 := by omega
  have a3 : (0 : Int) ≤ (n : Int) % 256 := by omega
  have a4 : (n : Int) % 256 < 256 := by omega
  have e1 : bits .and .u16 (n : Int) 255 = (n : Int) % 256 := bits_mask .u16 16 (by decide) wraps_u16 8 (by decide) n (by omega) (by omega)
  have b1 := ones_le (n / 256) (by omega)
  have b2 := ones_le (n % 256) (by omega)
  have c1 : ((n : Int) / 256).toNat = n / 256 := by omega
  have c2 : ((n : Int) % 256).toNat = n % 256 := by omega
  go_enter Tryd.func47, Tryd.ntmps47
  go_wp2
  refine wp_region_quiet_lit (by kernel_rfl) (by kernel_rfl) ?_
  iterate 2 (go_big_quiet_step (fail))
  refine BigFrame.wpQuiet_want rfl fun K hK => ⟨.int .u8 (Lib.onesCount (n/256)), fun w _ => ?_, hK _ ?_⟩
  · unfold Oper.quietAt
    show Oper.quietUpon _ _ _ _ ((do pure (.value (← Instr.index 9 (.string tab) (.int .u16 ((n : Int)/256)))) : Sem Next).run Tryd.prog w)
    simp [run_tab _ _ _ (show Tryd.prog.underlying 9 = some .string by kernel_rfl) a1 a2, c1, Oper.quietUpon]
  · show wpQuiet _ _ _ _ _ { tmps := #[.int .u16 n, undef, .int .i64 0, .int .u16 n, .int .u16 ((n : Int)/256), .int .u8 (Lib.onesCount (n/256)), undef, undef, undef, undef, undef], defers := [] }
    iterate 2 (go_big_quiet_step (fail))

    refine BigFrame.wpQuiet_want rfl fun K hK => ⟨.int .u8 (Lib.onesCount (n%256)), fun w _ => ?_, hK _ ?_⟩
    · unfold Oper.quietAt
      show Oper.quietUpon _ _ _ _ ((do pure (.value (← Instr.index 9 (.string tab) (.int .u16 ((n : Int)%256)))) : Sem Next).run Tryd.prog w)
      simp [run_tab _ _ _ (show Tryd.prog.underlying 9 = some .string by kernel_rfl) a3 a4, c2, Oper.quietUpon]
    · show wpQuiet _ _ _ _ _ { tmps := #[.int .u16 n, undef, .int .i64 0, .int .u16 n, .int .u16 ((n : Int)/256), .int .u8 (Lib.onesCount (n/256)), .int .u16 n, .int .u16 ((n : Int)%256), .int .u8 (Lib.onesCount (n%256)), undef, undef], defers := [] }
      clear a1 a2 a3 a4 e1 c1 c2
      obtain ⟨p, hp⟩ : ∃ p, p = Lib.onesCount (n / 256) := ⟨_, rfl⟩
      obtain ⟨q, hq⟩ : ∃ q, q = Lib.onesCount (n % 256) := ⟨_, rfl⟩
      rw [← hp] at b1 ⊢
      rw [← hq] at b2 ⊢
      have HP := Lib.hid hp
      have HQ := Lib.hid hq
      clear hp hq
      iterate 3 (go_big_quiet_step (fail))
      refine wpQuiet_nil ?_
      rintro w' ⟨k, rfl⟩
      go_wp2
      go_ret
      exact ⟨ret_int (by rw [HP.out, HQ.out]; omega), k, rfl⟩

set_option maxHeartbeats 400000 in
/-- How many strokes two sets share. -/
theorem common_any (a b : Nat) (ha : a < 65536) (hb : b < 65536) (w : World) :
    Calls Tryd.prog 40 #[.int .u16 a, .int .u16 b] w fun e w' => e = .returned (.int .i64 (pc (a &&& b))) ∧ ∃ k, w' = w.drewN k := by
  have e1 := and16 a b ha hb
  have l1 : a &&& b < 65536 := Nat.and_lt_two_pow a (n := 16) hb
  go_enter Tryd.func40, Tryd.ntmps40
  go_wp2_with (go_at_call 47; refine (ones_any _ l1 _).mono ?_; rintro e w' ⟨rfl, k, rfl⟩)
  go_ret
  exact ⟨rfl, k, rfl⟩
set_option maxHeartbeats 400000 in
/-- How many strokes a set has that another one does not have. -/
theorem beyond_any (a b : Nat) (ha : a < 65536) (w : World) :
    Calls Tryd.prog 41 #[.int .u16 a, .int .u16 b] w fun e w' => e = .returned (.int .i64 (pc (diff a b))) ∧ ∃ k, w' = w.drewN k := by
  have e1 := andNot16 a b ha
  have l1 : diff a b < 65536 := diff_lt a b 16 ha
  go_enter Tryd.func41, Tryd.ntmps41
  go_wp2_with (go_at_call 47; refine (ones_any _ l1 _).mono ?_; rintro e w' ⟨rfl, k, rfl⟩)
  go_ret
  exact ⟨rfl, k, rfl⟩

/-- Whether a number lies outside of two others. -/
def outB (n lo hi : Int) : Bool := decide (n < lo) || decide (hi < n)

set_option maxHeartbeats 400000 in
theorem outside_any (n lo hi : Int) (w : World) :
    Calls Tryd.prog 20 #[.int .i64 n, .int .i64 lo, .int .i64 hi] w fun e w' => e = .returned (.bool (outB n lo hi)) ∧ w = w' := by
  by_cases h : n < lo
  · rw [show outB n lo hi = true by simp [outB, h]]
    go_enter Tryd.func20, Tryd.ntmps20
    go_wp2
    go_ret
    exact ⟨rfl, rfl⟩
  · rw [show outB n lo hi = decide (hi < n) by simp [outB, h]]
    go_enter Tryd.func20, Tryd.ntmps20
    go_wp2
    go_ret
    exact ⟨rfl, rfl⟩

/-- The error of a number of things. -/
def countE (n lo hi : Int) : Int := if n < lo then 7 else if hi < n then 6 else 0
set_option maxHeartbeats 400000 in
theorem count_any (n lo hi : Int) (w : World) :
    Calls Tryd.prog 18 #[.int .i64 n, .int .i64 lo, .int .i64 hi] w fun e w' => e = .returned (.int .i64 (countE n lo hi)) ∧ w = w' := by
  by_cases h : n < lo
  · rw [show countE n lo hi = 7 by simp [countE, h]]
    go_enter Tryd.func18, Tryd.ntmps18
    go_wp2
    go_ret
    exact ⟨rfl, rfl⟩
  · by_cases h2 : hi < n
    · rw [show countE n lo hi = 6 by simp [countE, h, h2]]
      go_enter Tryd.func18, Tryd.ntmps18
      go_wp2
      go_ret
      exact ⟨rfl, rfl⟩
    · rw [show countE n lo hi = 0 by simp [countE, h, h2]]
      go_enter Tryd.func18, Tryd.ntmps18
      go_wp2
      go_ret
      exact ⟨rfl, rfl⟩
end Go.Proofs.YtcemefojpaicoaaDoor
