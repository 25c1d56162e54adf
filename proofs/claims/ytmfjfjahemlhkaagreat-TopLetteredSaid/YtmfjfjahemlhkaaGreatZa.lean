/- What package sight computes, said of plain lists and numbers: no memory, no program. · The leaves of package sight: what each of them returns. · How lines lie in memory: slices of lights, shapes, hands and squares that read as plain lists. · What lights tell of a square; the least of some numbers; what each letter needs. · What each letter of a hand needs in each square. · Small laws on aggregates that are built of parts whose cells are a variable. · All hands' letters with what they need. · The iterators of package sight: the letters that may be in a square. · The iterator of the hands that fit. · A line that may be is found to be one: Check answers OK. · The hands that fit a line. · Years: from the first to the last year of the hands that fit. · Years of a line. -/
import Derived.Lib.BitFns
import Derived.Test.YtmfjfjahemlhkaaGreatProg
import Derived.WalkKit
import Derived.WalkSpells
import Derived.WalkLawsBesides
import Derived.Deep.QuietTactic
import Derived.BigQuiet
import Derived.Laws.BitsLemmas
import Derived.Lib.EndianBits
import Derived.Lib.Hide
import Derived.Below
import Derived.Deep.Draws
import Derived.Laws.OwnMore
import Derived.WalkSmall
import Derived.Deep.MidRow
import Derived.Deep.LoopGhost
import Derived.Laws.Tables
import Derived.Deep.RegionHeld3
import Derived.Deep.AppendLies
import Derived.RangeFuncNested
import Derived.RangeFuncBound
import Derived.RangeFuncCalls
import Derived.RangeFuncLeaves
import Derived.Shelf.Abstract
import Derived.Shelf.RegionOpen
import Derived.OwnWalkIn
import Derived.TacticsInMore
import Derived.LoopNIn
import Derived.LoopIn
import Derived.Sort.QuietIn
import Derived.Sort.LoopGhostIn
import Derived.WalkMore
import Derived.Deep.WholeRow
import Derived.RangeFuncWrites
import Derived.RangeFuncBox
import Derived.OneCell
import Derived.Deep.RegionLaw
namespace Go.Proofs.YtmfjfjahemlhkaaGreat.Sg
section

/-- How many strokes a set below 65536 has, as the table of bytes says it. -/
def pc (x : Nat) : Nat := Lib.onesCount (x / 256) + Lib.onesCount (x % 256)
theorem ones_le (n : Nat) (h : n < 256) : Lib.onesCount n ≤ 8 := by
  have key : ∀ n : Fin 256, Lib.onesCount n.val ≤ 8 := by decide +kernel
  exact key ⟨n, h⟩
theorem pc_le (x : Nat) (h : x < 65536) : pc x ≤ 16 := by
  have a := ones_le (x / 256) (by omega)
  have b := ones_le (x % 256) (by omega)
  unfold pc
  omega
/-- What a set has and another one does not have. -/
def diff (a b : Nat) : Nat := a ^^^ (a &&& b)
theorem diff_lt (a b j : Nat) (ha : a < 2 ^ j) : diff a b < 2 ^ j := Nat.xor_lt_two_pow ha (Nat.lt_of_le_of_lt Nat.and_le_left ha)

structure Shape where
  letter : Nat
  strokes : Nat
structure Hand where
  low : Int
  high : Int
  shapes : List Shape
structure Light where
  shows : Nat
  seen : Nat
structure Line where
  hands : List Hand
  worn : Nat
  scr : Nat
  total : Nat
  squares : List (List Light)

/-- Bounds of what a light, a shape, a hand and a line hold. -/
def Light.ok (x : Light) : Prop := x.shows < 1024 ∧ x.seen < 1024 ∧ diff x.seen x.shows = 0
def Shape.ok (s : Shape) : Prop := 65 ≤ s.letter ∧ s.letter ≤ 90 ∧ 1 ≤ s.strokes ∧ s.strokes < 1024
def Hand.ok (h : Hand) : Prop :=
  -3000 ≤ h.low ∧ h.low ≤ h.high ∧ h.high ≤ 3000 ∧ 1 ≤ h.shapes.length ∧ h.shapes.length ≤ 8 ∧ (∀ s ∈ h.shapes, s.ok) ∧ h.shapes.Pairwise fun a b => a.letter < b.letter
def Line.ok (L : Line) : Prop :=
  1 ≤ L.hands.length ∧ L.hands.length ≤ 4 ∧ (∀ h ∈ L.hands, h.ok) ∧ L.worn ≤ 10 ∧ L.scr ≤ 10 ∧ L.total ≤ 40 ∧ 1 ≤ L.squares.length ∧ L.squares.length ≤ 8 ∧
    ∀ q ∈ L.squares, q.length ≤ 4 ∧ ∀ x ∈ q, x.ok

/-- What was seen in some light, and what was not seen in a light that shows it. -/
def vis (q : List Light) : Nat := q.foldl (fun a x => a ||| x.seen) 0
def hidn (q : List Light) : Nat := q.foldl (fun a x => a ||| diff x.shows x.seen) 0
theorem vis_snoc (q : List Light) (x : Light) : vis (q ++ [x]) = vis q ||| x.seen := by simp [vis]
theorem hidn_snoc (q : List Light) (x : Light) : hidn (q ++ [x]) = hidn q ||| diff x.shows x.seen := by simp [hidn]
theorem vis_lt (q : List Light) (h : ∀ x ∈ q, x.seen < 1024) : vis q < 1024 := by
  have key : ∀ (q : List Light) (a : Nat), a < 1024 → (∀ x ∈ q, x.seen < 1024) → q.foldl (fun a x => a ||| x.seen) a < 1024 := by
    intro q
    induction q with
    | nil => intro a ha _; exact ha
    | cons x q ih =>
      intro a ha hq
      exact ih _ (Nat.or_lt_two_pow (n := 10) ha (hq x (by simp))) fun y hy => hq y (by simp [hy])
  exact key q 0 (by omega) h
theorem hidn_lt (q : List Light) (h : ∀ x ∈ q, x.shows < 1024) : hidn q < 1024 := by
  have key : ∀ (q : List Light) (a : Nat), a < 1024 → (∀ x ∈ q, x.shows < 1024) → q.foldl (fun a x => a ||| diff x.shows x.seen) a < 1024 := by
    intro q
    induction q with
    | nil => intro a ha _; exact ha
    | cons x q ih =>
      intro a ha hq
      exact ih _ (Nat.or_lt_two_pow (n := 10) ha (diff_lt _ _ 10 (hq x (by simp)))) fun y hy => hq y (by simp [hy])
  exact key q 0 (by omega) h

/-- How many marks a letter with some strokes needs in a square at least; 81 if it cannot be there. -/
def cost (wn sc : Nat) (q : List Light) (s : Nat) : Nat :=
  if 0 < pc (vis q &&& hidn q) ∨ sc < pc (diff (vis q) s) ∨ wn < pc (hidn q &&& s) then 81 else pc (diff (vis q) s) + pc (hidn q &&& s)
theorem cost_le (wn sc : Nat) (q : List Light) (s : Nat) (hv : vis q < 1024) (hh : hidn q < 1024) : cost wn sc q s ≤ 81 := by
  have a := pc_le (diff (vis q) s) (Nat.lt_trans (diff_lt _ _ 10 hv) (by decide))
  have b := pc_le (hidn q &&& s) (Nat.lt_of_le_of_lt Nat.and_le_left (by omega))
  unfold cost
  split <;> omega

theorem cost_con {wn sc : Nat} {q : List Light} {s : Nat} (h : 0 < pc (vis q &&& hidn q)) : cost wn sc q s = 81 := by unfold cost; rw [if_pos (.inl h)]
theorem cost_scr {wn sc : Nat} {q : List Light} {s : Nat} (h : sc < pc (diff (vis q) s)) : cost wn sc q s = 81 := by unfold cost; rw [if_pos (.inr (.inl h))]
theorem cost_worn {wn sc : Nat} {q : List Light} {s : Nat} (h : wn < pc (hidn q &&& s)) : cost wn sc q s = 81 := by unfold cost; rw [if_pos (.inr (.inr h))]
theorem cost_sum {wn sc : Nat} {q : List Light} {s : Nat} (h0 : ¬ 0 < pc (vis q &&& hidn q)) (h1 : ¬ sc < pc (diff (vis q) s)) (h2 : ¬ wn < pc (hidn q &&& s)) : cost wn sc q s = pc (diff (vis q) s) + pc (hidn q &&& s) := by
  unfold cost
  rw [if_neg (by omega)]

/-- The least of some numbers. -/
def leastOf (a : Nat) (l : List Nat) : Nat := l.foldl min a
theorem leastOf_le (l : List Nat) (a : Nat) : leastOf a l ≤ a := by
  unfold leastOf
  induction l generalizing a with
  | nil => exact Nat.le_refl _
  | cons x l ih => exact Nat.le_trans (ih _) (Nat.min_le_left _ _)
theorem leastOf_snoc (a : Nat) (l : List Nat) (x : Nat) : leastOf a (l ++ [x]) = min (leastOf a l) x := by simp [leastOf]

/-- A hand's letters, and what each needs in each square. -/
structure Cutter where
  shapes : List Shape
  need : Nat → Nat → Nat
def Cutter.ok (c : Cutter) : Prop := 1 ≤ c.shapes.length ∧ c.shapes.length ≤ 8 ∧ (∀ s ∈ c.shapes, s.ok) ∧ ∀ q i, c.need q i ≤ 81
def Cutter.row (c : Cutter) (q : Nat) : List Nat := (List.range c.shapes.length).map (c.need q)
def Cutter.fewest (c : Cutter) (q : Nat) : Nat := leastOf 81 (c.row q)
theorem Cutter.fewest_le (c : Cutter) (q : Nat) : c.fewest q ≤ 81 := leastOf_le _ _
/-- The cutter of a hand's letters on a line. -/
def cutterOf (L : Line) (S : List Shape) : Cutter := ⟨S, fun q i => cost L.worn L.scr (L.squares.getD q []) (S.getD i ⟨0, 0⟩).strokes⟩
theorem cutterOf_need (L : Line) (S : List Shape) (q i : Nat) : (cutterOf L S).need q i = cost L.worn L.scr (L.squares.getD q []) (S.getD i ⟨0, 0⟩).strokes := by
  simp only [cutterOf]
theorem need_le (L : Line) (hL : L.ok) (S : List Shape) (q i : Nat) : (cutterOf L S).need q i ≤ 81 := by
  rw [cutterOf_need]
  generalize (S.getD i ⟨0, 0⟩).strokes = s
  rcases Nat.lt_or_ge q L.squares.length with hq | hq
  · rw [show L.squares.getD q [] = L.squares[q] by simp [List.getD, hq]]
    have h := (hL.2.2.2.2.2.2.2.2 L.squares[q] (List.getElem_mem hq)).2
    exact cost_le _ _ _ s (vis_lt _ fun x hx => (h x hx).2.1) (hidn_lt _ fun x hx => (h x hx).1)
  · rw [show L.squares.getD q [] = [] by simp [List.getD, hq]]
    exact cost_le _ _ _ s (by simp [vis]) (by simp [hidn])
theorem cutterOf_ok (L : Line) (hL : L.ok) : ∀ c ∈ L.hands.map fun h => cutterOf L h.shapes, c.ok := by
  intro c hc
  obtain ⟨h, hh, rfl⟩ := List.mem_map.1 hc
  have ho := hL.2.2.1 h hh
  exact ⟨ho.2.2.2.1, ho.2.2.2.2.1, ho.2.2.2.2.2.1, fun q i => need_le L hL h.shapes q i⟩
def cuttersOf (L : Line) : List Cutter := L.hands.map fun h => cutterOf L h.shapes
theorem cuttersOf_snoc (L : Line) (k : Nat) (h : Hand) (hh : L.hands[k]? = some h) : (cuttersOf L).take (k + 1) = (cuttersOf L).take k ++ [cutterOf L h.shapes] := by
  obtain ⟨hk, e⟩ := List.getElem?_eq_some_iff.1 hh
  unfold cuttersOf
  rw [List.take_succ_eq_append_getElem (by simpa using hk)]
  simp [e]
end
section
open Go.RowKit

def tab : ByteArray := ⟨((([0, 1, 1, 2, 1, 2, 2, 3, 1, 2, 2, 3, 2, 3, 3, 4, 1, 2, 2, 3, 2, 3, 3, 4, 2, 3, 3, 4, 3, 4, 4, 5, 1, 2, 2, 3, 2, 3, 3, 4, 2, 3, 3, 4, 3, 4, 4, 5, 2, 3, 3, 4, 3, 4, 4, 5, 3, 4, 4, 5, 4, 5, 5, 6].append [1, 2, 2, 3, 2, 3, 3, 4, 2, 3, 3, 4, 3, 4, 4, 5, 2, 3, 3, 4, 3, 4, 4, 5, 3, 4, 4, 5, 4, 5, 5, 6, 2, 3, 3, 4, 3, 4, 4, 5, 3, 4, 4, 5, 4, 5, 5, 6, 3, 4, 4, 5, 4, 5, 5, 6, 4, 5, 5, 6, 5, 6, 6, 7]).append ([1, 2, 2, 3, 2, 3, 3, 4, 2, 3, 3, 4, 3, 4, 4, 5, 2, 3, 3, 4, 3, 4, 4, 5, 3, 4, 4, 5, 4, 5, 5, 6, 2, 3, 3, 4, 3, 4, 4, 5, 3, 4, 4, 5, 4, 5, 5, 6, 3, 4, 4, 5, 4, 5, 5, 6, 4, 5, 5, 6, 5, 6, 6, 7].append [2, 3, 3, 4, 3, 4, 4, 5, 3, 4, 4, 5, 4, 5, 5, 6, 3, 4, 4, 5, 4, 5, 5, 6, 4, 5, 5, 6, 5, 6, 6, 7, 3, 4, 4, 5, 4, 5, 5, 6, 4, 5, 5, 6, 5, 6, 6, 7, 4, 5, 5, 6, 5, 6, 6, 7, 5, 6, 6, 7, 6, 7, 7, 8])).toArray)⟩
theorem tab_size : tab.size = 256 := by decide +kernel
theorem tab_get (n : Nat) (h : n < tab.size) : (tab[n]'h).toNat = Lib.onesCount n := by
  have key : ∀ n : Fin 256, (tab[n.val]'(by rw [tab_size]; exact n.isLt)).toNat = Lib.onesCount n.val := by decide +kernel
  exact key ⟨n, by rw [← tab_size]; exact h⟩
theorem run_tab {P : Program} (t : TypeId) (k : IntKind) (i : Int) (h : P.underlying t = some .string) (h0 : 0 ≤ i) (h1 : i < 256) (w : World) :
    (Instr.index t (.string tab) (.int k i)).run P w = .ok (.int .u8 (Lib.onesCount i.toNat)) w := by
  have hs : 0 ≤ i ∧ i < tab.size := ⟨h0, by rw [tab_size]; exact h1⟩
  rw [run_index_string _ _ _ _ _ h, dif_pos hs, tab_get]

theorem ret_int {k : IntKind} {a b : Int} (h : a = b) : Ending.returned (.int k a) = .returned (.int k b) := by rw [h]
theorem ret_bool {a b : Bool} (h : a = b) : Ending.returned (.bool a) = .returned (.bool b) := by rw [h]
theorem and16 (a b : Nat) (ha : a < 65536) (hb : b < 65536) : bits .and .u16 a b = ((a &&& b : Nat) : Int) := (bits_nat .u16 16 (by decide) wraps_u16 a b ha hb).1
theorem andNot_nat (k : IntKind) (j : Nat) (hj : j ≤ k.bits) (hk : ∀ n : Int, 0 ≤ n → n < 2 ^ j → k.wrap n = n) (a b : Nat) (ha : a < 2 ^ j) : bits .andNot k a b = (diff a b : Nat) := by
  have ha' : a < 2 ^ k.bits := Nat.lt_of_lt_of_le ha (Nat.pow_le_pow_right (by decide) hj)
  have h : (BitVec.ofInt k.bits (a : Int) &&& ~~~ BitVec.ofInt k.bits (b : Int)).toNat = diff a b := by
    apply Nat.eq_of_testBit_eq
    intro i
    unfold diff
    rw [BitVec.testBit_toNat]
    simp only [BitVec.ofInt_natCast, BitVec.getLsbD_and, BitVec.getLsbD_not, BitVec.getLsbD_ofNat, Nat.testBit_xor, Nat.testBit_and]
    by_cases hi : i < k.bits
    · simp only [hi, decide_true, Bool.true_and]
      cases a.testBit i <;> cases b.testBit i <;> rfl
    · have h0 : a.testBit i = false := Nat.testBit_lt_two_pow (Nat.lt_of_lt_of_le ha' (Nat.pow_le_pow_right (by decide) (by omega)))
      simp [hi, h0]
  have hd : diff a b < 2 ^ j := by
    unfold diff
    exact Nat.xor_lt_two_pow ha (Nat.lt_of_le_of_lt Nat.and_le_left ha)
  have e : bits .andNot k a b = k.wrap ((BitVec.ofInt k.bits (a : Int) &&& ~~~ BitVec.ofInt k.bits (b : Int)).toNat : Int) := rfl
  rw [e, h]
  exact hk _ (by omega) (by exact_mod_cast hd)
theorem andNot16 (a b : Nat) (ha : a < 65536) : bits .andNot .u16 a b = (diff a b : Nat) := andNot_nat .u16 16 (by decide) wraps_u16 a b ha
theorem or16 (a b : Nat) (ha : a < 65536) (hb : b < 65536) : bits .or .u16 a b = ((a ||| b : Nat) : Int) := (bits_nat .u16 16 (by decide) wraps_u16 a b ha hb).2

set_option maxHeartbeats 400000 in
set_option maxRecDepth 100000 in
/-- bits.OnesCount16: how many strokes a set has. -/
theorem ones_any (n : Nat) (h1 : n < 65536) (w : World) :
    Calls Tryz.prog 106 #[.int .u16 n] w fun e w' => e = .returned (.int .i64 (pc n)) ∧ ∃ k, w' = w.drewN k := by
  unfold pc
  have a1 : (0 : Int) ≤ (n : Int) / 256 := by omega
  have a2 : (n : Int) / 256 < 256 := by omega
  have a3 : (0 : Int) ≤ (n : Int) % 256 := by omega
  have a4 : (n : Int) % 256 < 256 := by omega
  have e1 : bits .and .u16 (n : Int) 255 = (n : Int) % 256 := bits_mask .u16 16 (by decide) wraps_u16 8 (by decide) n (by omega) (by omega)
  have b1 := ones_le (n / 256) (by omega)
  have b2 := ones_le (n % 256) (by omega)
  have c1 : ((n : Int) / 256).toNat = n / 256 := by omega
  have c2 : ((n : Int) % 256).toNat = n % 256 := by omega
  go_enter Tryz.func106, Tryz.ntmps106
  go_wp2
  refine wp_region_quiet_lit (by kernel_rfl) (by kernel_rfl) ?_
  iterate 2 (go_big_quiet_step (fail))
  refine BigFrame.wpQuiet_want rfl fun K hK => ⟨.int .u8 (Lib.onesCount (n/256)), fun w _ => ?_, hK _ ?_⟩
  · unfold Oper.quietAt
    show Oper.quietUpon _ _ _ _ ((do pure (.value (← Instr.index 9 (.string tab) (.int .u16 ((n : Int)/256)))) : Sem Next).run Tryz.prog w)
    simp [run_tab _ _ _ (show Tryz.prog.underlying 9 = some .string by kernel_rfl) a1 a2, c1, Oper.quietUpon]
  · show wpQuiet _ _ _ _ _ { tmps := #[.int .u16 n, undef, .int .i64 0, .int .u16 n, .int .u16 ((n : Int)/256), .int .u8 (Lib.onesCount (n/256)), undef, undef, undef, undef, undef], defers := [] }
    iterate 2 (go_big_quiet_step (fail))

    refine BigFrame.wpQuiet_want rfl fun K hK => ⟨.int .u8 (Lib.onesCount (n%256)), fun w _ => ?_, hK _ ?_⟩
    · unfold Oper.quietAt
      show Oper.quietUpon _ _ _ _ ((do pure (.value (← Instr.index 9 (.string tab) (.int .u16 ((n : Int)%256)))) : Sem Next).run Tryz.prog w)
      simp [run_tab _ _ _ (show Tryz.prog.underlying 9 = some .string by kernel_rfl) a3 a4, c2, Oper.quietUpon]
    · show wpQuiet _ _ _ _ _ { tmps := #[.int .u16 n, undef, .int .i64 0, .int .u16 n, .int .u16 ((n : Int)/256), .int .u8 (Lib.onesCount (n/256)), .int .u16 n, .int .u16 ((n : Int)%256), .int .u8 (Lib.onesCount (n%256)), undef, undef], defers := [] }
      clear a1 a2 a3 a4 e1 c1 c2
      obtain ⟨p, hp⟩ : ∃ p, p = Lib.onesCount (n / 256) := ⟨_, rfl⟩
      obtain ⟨q, hq⟩ : ∃ q, q = Lib.onesCount (n % 256) := ⟨_, rfl⟩
      rw [← hp] at b1 ⊢
      rw [← hq] at b2 ⊢
      have HP := Lib.hid hp
      have HQ := Lib.hid hq
      clear hp hq
      iterate 3 (go_big_quiet_step (fail))
      refine wpQuiet_nil ?_
      rintro w' ⟨k, rfl⟩
      go_wp2
      go_ret
      exact ⟨ret_int (by rw [HP.out, HQ.out]; omega), k, rfl⟩

set_option maxHeartbeats 400000 in
/-- How many strokes two sets share. -/
theorem common_any (a b : Nat) (ha : a < 65536) (hb : b < 65536) (w : World) :
    Calls Tryz.prog 94 #[.int .u16 a, .int .u16 b] w fun e w' => e = .returned (.int .i64 (pc (a &&& b))) ∧ ∃ k, w' = w.drewN k := by
  have e1 := and16 a b ha hb
  have l1 : a &&& b < 65536 := Nat.and_lt_two_pow a (n := 16) hb
  go_enter Tryz.func94, Tryz.ntmps94
  go_wp2_with (go_at_call 106; refine (ones_any _ l1 _).mono ?_; rintro e w' ⟨rfl, k, rfl⟩)
  go_ret
  exact ⟨rfl, k, rfl⟩
set_option maxHeartbeats 400000 in
/-- How many strokes a set has that another one does not have. -/
theorem beyond_any (a b : Nat) (ha : a < 65536) (w : World) :
    Calls Tryz.prog 95 #[.int .u16 a, .int .u16 b] w fun e w' => e = .returned (.int .i64 (pc (diff a b))) ∧ ∃ k, w' = w.drewN k := by
  have e1 := andNot16 a b ha
  have l1 : diff a b < 65536 := diff_lt a b 16 ha
  go_enter Tryz.func95, Tryz.ntmps95
  go_wp2_with (go_at_call 106; refine (ones_any _ l1 _).mono ?_; rintro e w' ⟨rfl, k, rfl⟩)
  go_ret
  exact ⟨rfl, k, rfl⟩

/-- Whether a number lies outside of two others. -/
def outB (n lo hi : Int) : Bool := decide (n < lo) || decide (hi < n)

set_option maxHeartbeats 400000 in
theorem outside_any (n lo hi : Int) (w : World) :
    Calls Tryz.prog 38 #[.int .i64 n, .int .i64 lo, .int .i64 hi] w fun e w' => e = .returned (.bool (outB n lo hi)) ∧ w = w' := by
  by_cases h : n < lo
  · rw [show outB n lo hi = true by simp [outB, h]]
    go_enter Tryz.func38, Tryz.ntmps38
    go_wp2
    go_ret
    exact ⟨rfl, rfl⟩
  · rw [show outB n lo hi = decide (hi < n) by simp [outB, h]]
    go_enter Tryz.func38, Tryz.ntmps38
    go_wp2
    go_ret
    exact ⟨rfl, rfl⟩

/-- The error of a number of things. -/
def countE (n lo hi : Int) : Int := if n < lo then 7 else if hi < n then 6 else 0
set_option maxHeartbeats 400000 in
theorem count_any (n lo hi : Int) (w : World) :
    Calls Tryz.prog 58 #[.int .i64 n, .int .i64 lo, .int .i64 hi] w fun e w' => e = .returned (.int .i64 (countE n lo hi)) ∧ w = w' := by
  by_cases h : n < lo
  · rw [show countE n lo hi = 7 by simp [countE, h]]
    go_enter Tryz.func58, Tryz.ntmps58
    go_wp2
    go_ret
    exact ⟨rfl, rfl⟩
  · by_cases h2 : hi < n
    · rw [show countE n lo hi = 6 by simp [countE, h, h2]]
      go_enter Tryz.func58, Tryz.ntmps58
      go_wp2
      go_ret
      exact ⟨rfl, rfl⟩
    · rw [show countE n lo hi = 0 by simp [countE, h, h2]]
      go_enter Tryz.func58, Tryz.ntmps58
      go_wp2
      go_ret
      exact ⟨rfl, rfl⟩
end
section
open Go.RowKit

/-- A slice value of n elements; where there is an element it starts at cell o of block b, b below B, and R holds of b and o. -/
def Sl (B : Nat) (v : Value) (n : Nat) (R : Nat → Nat → Prop) : Prop :=
  ∃ A c, v = .slice A n c ∧ (0 < n → ∃ b o, A = some ⟨b, o, none⟩ ∧ b < B ∧ R b o)
theorem Sl.mono {B B' : Nat} {v : Value} {n : Nat} {R R' : Nat → Nat → Prop} (h : Sl B v n R) (hB : B ≤ B') (hR : ∀ b o, b < B → R b o → R' b o) : Sl B' v n R' := by
  obtain ⟨A, c, rfl, h⟩ := h
  exact ⟨A, c, rfl, fun hn => by obtain ⟨b, o, rfl, hb, hr⟩ := h hn; exact ⟨b, o, rfl, by omega, hR b o hb hr⟩⟩

/-- What lies below block B is as it was. -/
def Same (B : Nat) (w w' : World) : Prop := ∀ b o, b < B → w'.cell? ⟨b, o, none⟩ = w.cell? ⟨b, o, none⟩
theorem Same.of_below {B : Nat} {w w' : World} (h : Below B w w') : Same B w w' := fun _ _ hb => h.cell (p := ⟨_, _, none⟩) hb
theorem Same.mono {B B' : Nat} {w w' : World} (h : Same B w w') (hB : B' ≤ B) : Same B' w w' := fun b o hb => h b o (by omega)
theorem Same.trans {B : Nat} {w w' w'' : World} (h : Same B w w') (h' : Same B w' w'') : Same B w w'' := fun b o hb => (h' b o hb).trans (h b o hb)
theorem Same.refl (B : Nat) (w : World) : Same B w w := fun _ _ _ => rfl

theorem Same.of_two {B : Nat} {a w w' : World} (h : Below B a w) (h' : Below B a w') : Same B w w' := fun _ _ hb => (h'.cell (p := ⟨_, _, none⟩) hb).trans (h.cell (p := ⟨_, _, none⟩) hb).symm

def lightsR (w : World) (q : List Light) (b o : Nat) : Prop :=
  ∀ k x, q[k]? = some x → w.cell? ⟨b, o + k * 2, none⟩ = some (.int .i64 x.shows) ∧ w.cell? ⟨b, o + k * 2 + 1, none⟩ = some (.int .i64 x.seen)
def Lights (w : World) (B : Nat) (v : Value) (q : List Light) : Prop := Sl B v q.length (lightsR w q)
def shapesR (w : World) (s : List Shape) (b o : Nat) : Prop :=
  ∀ k x, s[k]? = some x → w.cell? ⟨b, o + k * 2, none⟩ = some (.int .u8 x.letter) ∧ w.cell? ⟨b, o + k * 2 + 1, none⟩ = some (.int .i64 x.strokes)
def Shapes (w : World) (B : Nat) (v : Value) (s : List Shape) : Prop := Sl B v s.length (shapesR w s)
def handsR (w : World) (B : Nat) (s : List Hand) (b o : Nat) : Prop :=
  ∀ k x, s[k]? = some x → w.cell? ⟨b, o + k * 3, none⟩ = some (.int .i64 x.low) ∧ w.cell? ⟨b, o + k * 3 + 1, none⟩ = some (.int .i64 x.high) ∧
    ∃ v, w.cell? ⟨b, o + k * 3 + 2, none⟩ = some v ∧ Shapes w B v x.shapes
def Hands (w : World) (B : Nat) (v : Value) (s : List Hand) : Prop := Sl B v s.length (handsR w B s)
def squaresR (w : World) (B : Nat) (s : List (List Light)) (b o : Nat) : Prop :=
  ∀ k x, s[k]? = some x → ∃ v, w.cell? ⟨b, o + k, none⟩ = some v ∧ Lights w B v x
def Squares (w : World) (B : Nat) (v : Value) (s : List (List Light)) : Prop := Sl B v s.length (squaresR w B s)
/-- A line, as a value over memory below B. -/
def LineAt (w : World) (B : Nat) (v : Value) (L : Line) : Prop :=
  ∃ vh vs, v = .agg #[vh, .int .i64 L.worn, .int .i64 L.scr, .int .i64 L.total, vs] ∧ Hands w B vh L.hands ∧ Squares w B vs L.squares

section
variable {w w' : World} {B B' : Nat} {v : Value}
theorem Lights.keep {q : List Light} (h : Lights w B v q) (hs : Same B w w') (hB : B ≤ B') : Lights w' B' v q :=
  Sl.mono h hB fun _ _ hb hr k x hx => ⟨(hs _ _ hb).trans (hr k x hx).1, (hs _ _ hb).trans (hr k x hx).2⟩
theorem Shapes.keep {q : List Shape} (h : Shapes w B v q) (hs : Same B w w') (hB : B ≤ B') : Shapes w' B' v q :=
  Sl.mono h hB fun _ _ hb hr k x hx => ⟨(hs _ _ hb).trans (hr k x hx).1, (hs _ _ hb).trans (hr k x hx).2⟩
theorem Hands.keep {q : List Hand} (h : Hands w B v q) (hs : Same B w w') (hB : B ≤ B') : Hands w' B' v q :=
  Sl.mono h hB fun _ _ hb hr k x hx => by
    obtain ⟨h1, h2, u, h3, h4⟩ := hr k x hx
    exact ⟨(hs _ _ hb).trans h1, (hs _ _ hb).trans h2, u, (hs _ _ hb).trans h3, h4.keep hs hB⟩
theorem Squares.keep {q : List (List Light)} (h : Squares w B v q) (hs : Same B w w') (hB : B ≤ B') : Squares w' B' v q :=
  Sl.mono h hB fun _ _ hb hr k x hx => by
    obtain ⟨u, h3, h4⟩ := hr k x hx
    exact ⟨u, (hs _ _ hb).trans h3, h4.keep hs hB⟩
theorem LineAt.keep {L : Line} (h : LineAt w B v L) (hs : Same B w w') (hB : B ≤ B') : LineAt w' B' v L := by
  obtain ⟨vh, vs, rfl, h1, h2⟩ := h
  exact ⟨vh, vs, rfl, h1.keep hs hB, h2.keep hs hB⟩
end

theorem below_setRow {B g : Nat} {w w' : World} (h : Below B w w') (hg : B ≤ g) (cs : Array Value) : Below B w (w'.setRow g cs) :=
  ⟨h.os, h.tape, h.output, by simp; exact h.size, fun i hi => (setRow_other w' g i cs (by omega)).trans (h.block i hi)⟩

/-- Block g is just these cells, of element type t, and may be written. -/
def Blok (w : World) (g : Nat) (t : TypeId) (cs : List Value) : Prop := w.heap[g]? = some (.cells cs.toArray t (0, 0))
section
variable {w w' : World} {g : Nat} {t : TypeId} {cs : List Value}
theorem Blok.size (h : Blok w g t cs) : g < w.heap.size := (Array.getElem?_eq_some_iff.1 h).1
theorem Blok.cell (h : Blok w g t cs) (i : Nat) : w.cell? ⟨g, i, none⟩ = cs[i]? := by
  rw [cell_of_row w g i cs.toArray t (0, 0) h]; simp
theorem Blok.free (h : Blok w g t cs) (i : Nat) : w.frozen? ⟨g, i, none⟩ = false := frozen_of_row w g i cs.toArray t h
theorem Blok.new (w : World) (t : TypeId) (cs : List Value) : Blok (w.alloc (.cells cs.toArray t)) w.heap.size t cs := heap_alloc_new w _
theorem Blok.drewN (h : Blok w g t cs) (n : Nat) : Blok (w.drewN n) g t cs := h
theorem Blok.alloc (h : Blok w g t cs) (o : Obj) : Blok (w.alloc o) g t cs := (Below.heap_alloc w o g h.size).trans h
theorem Blok.below {B : Nat} (h : Blok w g t cs) (hb : Below B w w') (hg : g < B) : Blok w' g t cs := (hb.block g hg).trans h
theorem Blok.far (h : Blok w g t cs) {p : Addr} (hp : g ≠ p.block) (u : Value) : Blok (w.setCell p u) g t cs := (heap_setCell_other w p g u hp).trans h
theorem Blok.put (h : Blok w g t cs) (i : Nat) (u : Value) : Blok (w.setCell ⟨g, i, none⟩ u) g t (cs.set i u) := by
  have := heap_setCell_same w g i cs.toArray t u h
  unfold Blok
  rw [this]
  congr 2
  simp
theorem Blok.setRow (h : Blok w g t cs) (cs' : List Value) : Blok (w.setRow g cs'.toArray) g t cs' := setRow_heap w g _ _ t _ h
theorem Blok.setRow_far (h : Blok w g t cs) {k : Nat} (hk : g ≠ k) (cs' : Array Value) : Blok (w.setRow k cs') g t cs := (setRow_other w k g cs' hk).trans h
end

theorem own_below {w w' : World} {base B : Nat} {e : TypeId} {size n : Nat} {v : Value} {xs : List Value} (h : w.ownsRow base e size v n xs) (hb : Below B w w') (hB : w.heap.size ≤ B) : w'.ownsRow base e size v n xs := by
  refine ⟨h.1, ?_⟩
  rcases h.2 with h2 | ⟨g, cap, cur, hv, hg, hh, r⟩
  · exact .inl h2
  · exact .inr ⟨g, cap, cur, hv, hg, (hb.block g (by have := (Array.getElem?_eq_some_iff.1 hh).1; omega)).trans hh, r⟩

/-- 64 needs in a cutter: those of m squares and of the letters that there are. -/
def NeedCells (c : Cutter) (m : Nat) (N : List Value) : Prop :=
  N.length = 64 ∧ (∀ u ∈ N, u.oneCell' = true) ∧ ∀ q i : Nat, q < m → i < c.shapes.length → N[q * 8 + i]? = some (.int .i64 (c.need q i))
/-- As Sl, the block meeting a condition. -/
def SlP (P : Nat → Prop) (v : Value) (n : Nat) (R : Nat → Nat → Prop) : Prop :=
  ∃ A c, v = .slice A n c ∧ (0 < n → ∃ b o, A = some ⟨b, o, none⟩ ∧ P b ∧ R b o)
theorem Sl.toP {B : Nat} {P : Nat → Prop} {v : Value} {n : Nat} {R : Nat → Nat → Prop} (h : Sl B v n R) (hP : ∀ b, b < B → P b) : SlP P v n R := by
  obtain ⟨A, c, rfl, h⟩ := h
  exact ⟨A, c, rfl, fun hn => by obtain ⟨b, o, rfl, hb, hr⟩ := h hn; exact ⟨b, o, rfl, hP b hb, hr⟩⟩
theorem SlP.mono {P P' : Nat → Prop} {v : Value} {n : Nat} {R R' : Nat → Nat → Prop} (h : SlP P v n R) (hP : ∀ b, P b → P' b) (hR : ∀ b o, P b → R b o → R' b o) : SlP P' v n R' := by
  obtain ⟨A, c, rfl, h⟩ := h
  exact ⟨A, c, rfl, fun hn => by obtain ⟨b, o, rfl, hb, hr⟩ := h hn; exact ⟨b, o, rfl, hP b hb, hR b o hb hr⟩⟩
/-- The blocks that meet P are as they were. -/
def SameP (P : Nat → Prop) (w w' : World) : Prop := ∀ b o, P b → w'.cell? ⟨b, o, none⟩ = w.cell? ⟨b, o, none⟩
def ShapesP (w : World) (P : Nat → Prop) (v : Value) (s : List Shape) : Prop := SlP P v s.length (shapesR w s)
theorem ShapesP.keep {w w' : World} {P P' : Nat → Prop} {v : Value} {s : List Shape} (h : ShapesP w P v s) (hs : SameP P w w') (hP : ∀ b, P b → P' b) : ShapesP w' P' v s :=
  SlP.mono h hP fun _ _ hb hr k x hx => ⟨(hs _ _ hb).trans (hr k x hx).1, (hs _ _ hb).trans (hr k x hx).2⟩
theorem ShapesP.one {w : World} {P : Nat → Prop} {v : Value} {s : List Shape} (h : ShapesP w P v s) : v.oneCell' = true := by
  obtain ⟨A, c, rfl, _⟩ := h
  rfl
def cutsR (w : World) (P : Nat → Prop) (m : Nat) (cs : List Cutter) (b o : Nat) : Prop :=
  ∀ (k : Nat) (c : Cutter), cs[k]? = some c → ∃ sv N, w.rangeAt b (o + k * 65) (sv :: N) ∧ sv.oneCell' = true ∧ ShapesP w P sv c.shapes ∧ NeedCells c m N
/-- A slice of cutters in memory whose blocks meet P. -/
def Cuts (w : World) (P : Nat → Prop) (m : Nat) (v : Value) (cs : List Cutter) : Prop := SlP P v cs.length (cutsR w P m cs)
theorem Cuts.keep {w w' : World} {P P' : Nat → Prop} {m : Nat} {v : Value} {cs : List Cutter} (h : Cuts w P m v cs) (hs : SameP P w w') (hP : ∀ b, P b → P' b) : Cuts w' P' m v cs :=
  SlP.mono h hP fun _ _ hb hr k x hx => by
    obtain ⟨sv, N, h1, h2, h3, h4⟩ := hr k x hx
    exact ⟨sv, N, fun j u hu => (hs _ _ hb).trans (h1 j u hu), h2, h3.keep hs hP, h4⟩
theorem Shapes.one {w : World} {B : Nat} {v : Value} {s : List Shape} (h : Shapes w B v s) : v.oneCell' = true := by
  obtain ⟨A, c, rfl, _⟩ := h
  rfl

/-- The cells of some cutters, one after the other. -/
def CutCells (w : World) (B m : Nat) (cs : List Cutter) (xs : List Value) : Prop :=
  ∃ ps : List (List Value), xs = ps.flatten ∧ ps.length = cs.length ∧ (∀ p ∈ ps, p.length = 65) ∧
    ∀ (k : Nat) (c : Cutter) (p : List Value), cs[k]? = some c → ps[k]? = some p → ∃ sv N, p = sv :: N ∧ sv.oneCell' = true ∧ Shapes w B sv c.shapes ∧ NeedCells c m N
theorem flatten_at (L : Nat) : ∀ (ps : List (List Value)) (k j : Nat) (p : List Value), (∀ p ∈ ps, p.length = L) → ps[k]? = some p → j < L → ps.flatten[k * L + j]? = p[j]? := by
  intro ps
  induction ps with
  | nil => intro k j p _ h; simp at h
  | cons a ps ih =>
    intro k j p hl h hj
    have ha : a.length = L := hl a (by simp)
    rw [List.flatten_cons]
    cases k with
    | zero =>
      obtain rfl : a = p := by simpa using h
      rw [List.getElem?_append_left (by omega), Nat.zero_mul, Nat.zero_add]
    | succ k =>
      rw [List.getElem?_append_right (by rw [ha, Nat.succ_mul]; omega), ha, show (k + 1) * L + j - L = k * L + j by rw [Nat.succ_mul]; omega]
      exact ih k j p (fun p hp => hl p (by simp [hp])) (by simpa using h) hj
theorem CutCells.keep {w w' : World} {B B' m : Nat} {cs : List Cutter} {xs : List Value} (h : CutCells w B m cs xs) (hs : Same B w w') (hB : B ≤ B') : CutCells w' B' m cs xs := by
  obtain ⟨ps, h1, h2, h3, h4⟩ := h
  exact ⟨ps, h1, h2, h3, fun k c p hc hp => by
    obtain ⟨sv, N, e, h5, h6, h7⟩ := h4 k c p hc hp
    exact ⟨sv, N, e, h5, h6.keep hs hB, h7⟩⟩
theorem CutCells.nil (w : World) (B m : Nat) : CutCells w B m [] [] := ⟨[], rfl, rfl, by simp, by simp⟩
theorem CutCells.snoc {w : World} {B m : Nat} {cs : List Cutter} {xs : List Value} (h : CutCells w B m cs xs) {c : Cutter} {sv : Value} {N : List Value} (h1 : sv.oneCell' = true) (h2 : Shapes w B sv c.shapes) (h3 : NeedCells c m N) :
    CutCells w B m (cs ++ [c]) (xs ++ sv :: N) := by
  obtain ⟨ps, rfl, e2, e3, e4⟩ := h
  refine ⟨ps ++ [sv :: N], by simp, by simp [e2], ?_, ?_⟩
  · intro p hp
    rcases List.mem_append.1 hp with hp | hp
    · exact e3 p hp
    · obtain rfl : p = sv :: N := by simpa using hp
      simp [h3.1]
  · intro k c' p hc hp
    by_cases hk : k < cs.length
    · rw [List.getElem?_append_left hk] at hc
      rw [List.getElem?_append_left (by omega)] at hp
      exact e4 k c' p hc hp
    · have hk' : k = cs.length := by
        have := (List.getElem?_eq_some_iff.1 hc).1
        simp at this
        omega
      subst hk'
      rw [List.getElem?_append_right (Nat.le_refl _)] at hc
      rw [List.getElem?_append_right (by omega)] at hp
      obtain rfl : c = c' := by simpa using hc
      obtain rfl : sv :: N = p := by simpa [e2] using hp
      exact ⟨sv, N, rfl, h1, h2, h3⟩
theorem Cuts.of_own {w : World} {B base m : Nat} {t : TypeId} {v : Value} {cs : List Cutter} {xs : List Value} (h : w.ownsRow base t 65 v cs.length xs) (hc : CutCells w B m cs xs) :
    Cuts w (fun k => k < B ∨ base ≤ k ∧ k < w.heap.size) m v cs := by
  obtain ⟨ps, rfl, e2, e3, e4⟩ := hc
  rcases h.2 with ⟨rfl, hn⟩ | ⟨g, cap, cur, rfl, hbg, hg, hcap, _, hsz, htake⟩
  · exact ⟨none, 0, by rw [hn], fun h0 => by omega⟩
  · refine ⟨_, _, rfl, fun _ => ⟨g, 0, rfl, .inr ⟨hbg, (Array.getElem?_eq_some_iff.1 hg).1⟩, fun k c hk => ?_⟩⟩
    have hkl : k < ps.length := by rw [e2]; exact (List.getElem?_eq_some_iff.1 hk).1
    obtain ⟨sv, N, e, h5, h6, h7⟩ := e4 k c ps[k] hk (List.getElem?_eq_getElem hkl)
    refine ⟨sv, N, fun j u hu => ?_, h5, Sl.toP h6 fun _ hb => .inl hb, h7⟩
    have hj : j < 65 := by
      have := (List.getElem?_eq_some_iff.1 hu).1
      simp [h7.1] at this
      exact this
    rw [cell_of_row w g _ cur t (0, 0) hg]
    have h8 := flatten_at 65 ps k j ps[k] e3 (List.getElem?_eq_getElem hkl) hj
    rw [← htake, e, hu, List.getElem?_take, if_pos (by omega)] at h8
    rw [show 0 + k * 65 + j = k * 65 + j by omega]
    simpa using h8
end
section
open Go.RowKit

/-- A callee that draws nothing, met in a region that draws. -/
theorem quietL {P : Program} {f : FuncId} {args : Array Value} {w : World} {n : Nat} {v : Value}
    (h : Calls P f args (w.drewN n) fun e w' => e = .returned v ∧ w.drewN n = w') : Calls P f args (w.drewN n) fun e w'' => e = .returned v ∧ ∃ m, w'' = w.drewN m :=
  h.mono fun _ _ ⟨he, hm⟩ => ⟨he, n, hm.symm⟩
theorem bcell {B : Nat} {w w1 : World} (hb : Below B w w1) {b o : Nat} {v : Value} (h : b < B) (hc : w.cell? ⟨b, o, none⟩ = some v) : w1.cell? ⟨b, o, none⟩ = some v := (hb.cell (p := ⟨b, o, none⟩) h).trans hc
theorem wraps_i64 (n : Int) (h₀ : 0 ≤ n) (h₁ : n < 2 ^ 63) : IntKind.i64.wrap n = n := by rw [IntKind.wrap_i64]; omega
theorem andNot64 (a b : Nat) (ha : a < 2 ^ 63) : bits .andNot .i64 a b = (diff a b : Nat) := andNot_nat .i64 63 (by decide) wraps_i64 a b ha
theorem wrap16 (a : Nat) (ha : a < 65536) : IntKind.u16.wrap (a : Int) = a := wraps_u16 _ (by omega) (by omega)

set_option maxHeartbeats 400000 in
/-- sight.evidence: what was seen, and what was hidden. -/
theorem evidence_any (v : Value) (q : List Light) (w : World) (hq : q.length ≤ 4) (hok : ∀ x ∈ q, x.ok) (hl : Lights w w.heap.size v q) :
    Calls Tryz.prog 93 #[v] w fun e w' => e = .returned (.tuple #[.int .u16 (vis q), .int .u16 (hidn q)]) ∧ Below w.heap.size w w' := by
  obtain ⟨A, c, rfl, hA⟩ := hl
  obtain ⟨n, hn⟩ : ∃ n, n = q.length := ⟨_, rfl⟩
  rw [← hn] at hA hq ⊢
  have HN := Lib.hid hn
  clear hn
  go_enter Tryz.func93, Tryz.ntmps93
  go_wp2
  go_loopw [2, 3, 8] (fun v h i wr => ∃ k : Nat, k ≤ n ∧ i = .int .i64 k ∧ v = .int .u16 (vis (q.take k)) ∧ h = .int .u16 (hidn (q.take k)) ∧ Below w.heap.size w wr) (fun _ _ i _ => n - (intOf i).toNat)
  case atStart => exact ⟨0, by omega, rfl, rfl, rfl, Below.refl _ _⟩
  case round =>
    obtain ⟨k, hk, rfl, rfl, rfl, hb⟩ := hrel
    by_cases hlt : k < n
    · obtain ⟨b, o, rfl, hB, hc⟩ := hA (by omega)
      have hkq : k < q.length := by rw [← HN.out]; exact hlt
      have hx := hok q[k] (List.getElem_mem hkq)
      obtain ⟨c1, c2⟩ := hc k q[k] (List.getElem?_eq_getElem hkq)
      have d1 := bcell hb hB c1
      have d2 := bcell hb hB c2
      have hvk : vis (q.take k) < 1024 := vis_lt _ fun x hx => (hok x (List.mem_of_mem_take hx)).2.1
      have hhk : hidn (q.take k) < 1024 := hidn_lt _ fun x hx => (hok x (List.mem_of_mem_take hx)).1
      have ht : q.take (k + 1) = q.take k ++ [q[k]] := by rw [List.take_succ_eq_append_getElem hkq]
      have E1 : vis (q.take (k + 1)) = vis (q.take k) ||| q[k].seen := by rw [ht, vis_snoc]
      have E2 : hidn (q.take (k + 1)) = hidn (q.take k) ||| diff q[k].shows q[k].seen := by rw [ht, hidn_snoc]
      have x1 := hx.1
      have x2 := hx.2.1
      generalize q[k].shows = a at *
      generalize q[k].seen = s at *
      generalize vis (q.take k) = V at *
      generalize hidn (q.take k) = H at *
      have hd : diff a s < 1024 := diff_lt a s 10 x1
      have o1 := or16 V s (by omega) (by omega)
      have o2 := or16 H (diff a s) (by omega) (by omega)
      have o3 := andNot64 a s (by omega)
      have o4 := wrap16 (diff a s) (by omega)
      have H1 := Lib.hid E1
      have H2 := Lib.hid E2
      clear E1 E2 hc hA hx hok c1 c2 ht
      go_wp2
      go_roundw
      case rel => exact ⟨k + 1, by omega, by go_num, by rw [H1.out], by rw [H2.out], hb.alloc hb.size _⟩
      case measure => simp [intOf]; omega
    · have E1 : vis (q.take k) = vis q := by rw [List.take_of_length_le (by rw [← HN.out]; omega)]
      have E2 : hidn (q.take k) = hidn q := by rw [List.take_of_length_le (by rw [← HN.out]; omega)]
      rw [E1, E2]
      clear E1 E2
      go_wp2
      go_ret2
      exact ⟨rfl, hb⟩

theorem val_int {k : IntKind} {a b : Int} (h : a = b) : Value.int k a = Value.int k b := by rw [h]
/-- Some numbers in a row in memory. -/
def intsR (w : World) (l : List Nat) (b o : Nat) : Prop := ∀ (k x : Nat), l[k]? = some x → w.cell? ⟨b, o + k, none⟩ = some (.int .i64 x)

set_option maxHeartbeats 400000 in
/-- sight.least at int: the least of some numbers. -/
theorem least_any (a : Nat) (v : Value) (l : List Nat) (w : World) (hq : l.length ≤ 100) (B : Nat) (hl : Sl B v l.length (intsR w l)) :
    Calls Tryz.prog 51 #[.int .i64 a, v] w fun e w' => e = .returned (.int .i64 (leastOf a l)) ∧ w = w' := by
  obtain ⟨A, c, rfl, hA⟩ := hl
  obtain ⟨n, hn⟩ : ∃ n, n = l.length := ⟨_, rfl⟩
  rw [← hn] at hA hq ⊢
  have HN := Lib.hid hn
  clear hn
  go_enter Tryz.func51, Tryz.ntmps51
  go_wp2
  go_loop [0, 9] (fun v i => ∃ k : Nat, k ≤ n ∧ i = .int .i64 k ∧ v = .int .i64 (leastOf a (l.take k))) (fun _ i => n - (intOf i).toNat)
  case atStart => exact ⟨0, by omega, rfl, rfl⟩
  case round =>
    obtain ⟨k, hk, rfl, rfl⟩ := hrel
    by_cases hlt : k < n
    · obtain ⟨b, o, rfl, hB, hc⟩ := hA (by omega)
      have hkq : k < l.length := by rw [← HN.out]; exact hlt
      have d1 := hc k l[k] (List.getElem?_eq_getElem hkq)
      have ht : l.take (k + 1) = l.take k ++ [l[k]] := by rw [List.take_succ_eq_append_getElem hkq]
      have E1 : leastOf a (l.take (k + 1)) = min (leastOf a (l.take k)) l[k] := by rw [ht, leastOf_snoc]
      generalize l[k] = s at *
      generalize leastOf a (l.take k) = V at *
      have H1 := Lib.hid E1
      clear E1 hc hA ht
      go_wp2
      go_round
      case rel => exact ⟨k + 1, by omega, by go_num, val_int (by rw [H1.out]; split <;> omega)⟩
      case measure => simp [intOf]; omega
    · have E1 : leastOf a (l.take k) = leastOf a l := by rw [List.take_of_length_le (by rw [← HN.out]; omega)]
      rw [E1]
      clear E1
      go_wp2
      go_ret
      exact ⟨rfl, rfl⟩

/-- A cutter as a value: the slice of its letters, and 64 needs. -/
def cutVal (sv : Value) (N : List Value) : Value := .agg ⟨sv :: N⟩

set_option maxHeartbeats 400000 in
/-- (cutter).fewest: how few marks a square needs. -/
theorem fewest_any (A : Option Addr) (c : Nat) (N : List Value) (q : Nat) (hq : q < 8) (l : List Nat) (hl : l.length ≤ 8)
    (hNl : ∀ (i x : Nat), l[i]? = some x → N[q * 8 + i]? = some (.int .i64 x)) (w : World) :
    Calls Tryz.prog 82 #[cutVal (.slice A l.length c) N, .int .i64 q] w fun e w' => e = .returned (.int .i64 (leastOf 81 l)) ∧ Below w.heap.size w w' := by
  unfold cutVal
  have q0 : (0 : Int) ≤ q := by omega
  have q1 : (q : Int) < 8 := by omega
  have l0 : (0 : Int) ≤ l.length := by omega
  have l1 : (l.length : Int) ≤ 8 := by omega
  have F : ∀ m, Sl (w.heap.size + 1) (.slice (some ⟨w.heap.size, 1 + q * 8, none⟩) l.length 8) l.length (intsR ((w.alloc (.cells ⟨.slice A l.length c :: N⟩ 146)).drewN m) l) := fun m =>
    ⟨_, _, rfl, fun _ => ⟨_, _, rfl, Nat.lt_succ_self _, fun k x hx => by
      show (w.alloc (.cells ⟨.slice A l.length c :: N⟩ 146)).cell? ⟨w.heap.size, 1 + q * 8 + k, none⟩ = _
      rw [cell_of_row _ _ _ _ _ _ (heap_alloc_new w _), show 1 + q * 8 + k = (q * 8 + k) + 1 by omega]
      simpa using hNl k x hx⟩⟩
  have c0 : (w.alloc (.cells ⟨.slice A l.length c :: N⟩ 146)).cell? ⟨w.heap.size, 0, none⟩ = some (.slice A l.length c) := by
    rw [cell_of_row _ _ _ _ _ _ (heap_alloc_new w _)]; rfl
  go_enter Tryz.func82, Tryz.ntmps82
  clear hNl
  go_wp2_with fail
  go_quiet ((go_at_call 51; exact quietL (least_any 81 _ l _ (by omega) _ (F _))))
  clear F c0
  go_wp2
  go_ret
  exact ⟨rfl, below_drewN ((Below.refl _ _).alloc (Nat.le_refl _) _) nq⟩
end
section
open Go.RowKit

/-- 64 needs: those of the squares and letters that there are, as 'cost' says; so far those of the squares below k, and of k those of the letters below j. -/
def NeedsTo (L : Line) (S : List Shape) (k j : Nat) (N : List Value) : Prop :=
  N.length = 64 ∧ (∀ u ∈ N, u.oneCell' = true) ∧ ∀ (q i : Nat) (ls : List Light) (s : Shape), (q < k ∨ q = k ∧ i < j) → L.squares[q]? = some ls → S[i]? = some s → N[q * 8 + i]? = some (.int .i64 (cost L.worn L.scr ls s.strokes))
def Needs (L : Line) (S : List Shape) (N : List Value) : Prop := NeedsTo L S L.squares.length 0 N
def NeededPost (L : Line) (S : List Shape) (w : World) (e : Ending) (w' : World) : Prop := ∃ N : List Value, e = .returned (.agg N.toArray) ∧ Needs L S N ∧ Below w.heap.size w w'

/-- What holds of the world within the loops of 'needed'. -/
def NeedI (w : World) (l : List Value) (L : Line) (S : List Shape) (k j : Nat) (wr : World) : Prop :=
  Below w.heap.size w wr ∧ Blok wr w.heap.size 51 l ∧ (∃ Z : List Value, Z.length = 64 ∧ Blok wr (w.heap.size + 1) 144 Z) ∧ ∃ N : List Value, Blok wr (w.heap.size + 1 + 1) 144 N ∧ NeedsTo L S k j N

theorem NeedsTo.next {L : Line} {S : List Shape} {k j : Nat} {N : List Value} (h : NeedsTo L S k j N) (hj : S.length ≤ j) : NeedsTo L S (k + 1) 0 N :=
  ⟨h.1, h.2.1, fun q i ls s hq hl hs => h.2.2 q i ls s (by
    have : i < S.length := (List.getElem?_eq_some_iff.1 hs).1
    omega) hl hs⟩
theorem NeedsTo.put {L : Line} {S : List Shape} {k j : Nat} {N : List Value} (h : NeedsTo L S k j N) (hk : k < 8) (hj : j < 8) (hS : S.length ≤ 8) {ls : List Light} {s : Shape} (hl : L.squares[k]? = some ls) (hs : S[j]? = some s) (x : Nat)
    (hx : x = cost L.worn L.scr ls s.strokes) : NeedsTo L S k (j + 1) (N.set (k * 8 + j) (.int .i64 x)) := by
  refine ⟨by simpa using h.1, fun u hu => ?_, fun q i ls' s' hq hl' hs' => ?_⟩
  · rcases List.mem_or_eq_of_mem_set hu with hu | rfl
    · exact h.2.1 u hu
    · rfl
  · have hi : i < S.length := (List.getElem?_eq_some_iff.1 hs').1
    by_cases e : q = k ∧ i = j
    · obtain ⟨rfl, rfl⟩ := e
      rw [hl] at hl'
      rw [hs] at hs'
      obtain rfl : ls = ls' := by injection hl'
      obtain rfl : s = s' := by injection hs'
      rw [List.getElem?_set_self (by rw [h.1]; omega), hx]
    · rw [List.getElem?_set_ne (by omega)]
      exact h.2.2 q i ls' s' (by omega) hl' hs'
theorem three (w : World) (a b c : List Value) (s t u : TypeId) : Blok (((w.alloc (.cells a.toArray s)).alloc (.cells b.toArray t)).alloc (.cells c.toArray u)) w.heap.size s a ∧
    Blok (((w.alloc (.cells a.toArray s)).alloc (.cells b.toArray t)).alloc (.cells c.toArray u)) (w.heap.size + 1) t b ∧
    Blok (((w.alloc (.cells a.toArray s)).alloc (.cells b.toArray t)).alloc (.cells c.toArray u)) (w.heap.size + 1 + 1) u c := by
  have h1 := ((Blok.new w s a).alloc (.cells b.toArray t)).alloc (.cells c.toArray u)
  have h2 := (Blok.new (w.alloc (.cells a.toArray s)) t b).alloc (.cells c.toArray u)
  have h3 := Blok.new ((w.alloc (.cells a.toArray s)).alloc (.cells b.toArray t)) u c
  simp only [World.size_alloc] at h2 h3
  exact ⟨h1, h2, h3⟩
def zeros : List Value := List.replicate 64 (.int .i64 0)
theorem NeedI.start (w : World) (l : List Value) (L : Line) (S : List Shape) : NeedI w l L S 0 0 (((w.alloc (.cells l.toArray 51)).alloc (.cells zeros.toArray 144)).alloc (.cells zeros.toArray 144)) := by
  obtain ⟨h1, h2, h3⟩ := three w l zeros zeros 51 144 144
  refine ⟨(((Below.refl _ _).alloc (Nat.le_refl _) _).alloc (by simp) _).alloc (by simp; omega) _, h1, ⟨zeros, rfl, h2⟩, zeros, h3, rfl, fun u hu => ?_, fun q i ls s h => by omega⟩
  rw [List.eq_of_mem_replicate hu]
  rfl

theorem NeedI.step {w wr : World} {l : List Value} {L : Line} {S : List Shape} {k j : Nat} (h : NeedI w l L S k j wr) (hk : k < 8) (hj : j < 8) (hS : S.length ≤ 8) {ls : List Light} {s : Shape} (hl : L.squares[k]? = some ls) (hs : S[j]? = some s)
    (ob : Obj) (nq : Nat) (v : Value) (hv : v = .int .i64 (cost L.worn L.scr ls s.strokes)) : NeedI w l L S k (j + 1) (((wr.alloc ob).drewN nq).setCell ⟨w.heap.size + 1 + 1, k * 8 + j, none⟩ v) := by
  obtain ⟨i1, i2, ⟨Z, z1, z2⟩, N, n1, n2⟩ := h
  subst hv
  exact ⟨(below_drewN (i1.alloc i1.size _) _).setCell (by simp; omega) _, ((i2.alloc ob).drewN nq).far (by simp; omega) _, ⟨Z, z1, ((z2.alloc ob).drewN nq).far (by simp) _⟩, _, ((n1.alloc ob).drewN nq).put _ _, n2.put hk hj hS hl hs _ rfl⟩
theorem NeedI.next {w wr : World} {l : List Value} {L : Line} {S : List Shape} {k j : Nat} (h : NeedI w l L S k j wr) (hj : S.length ≤ j) : NeedI w l L S (k + 1) 0 wr := by
  obtain ⟨i1, i2, z, N, n1, n2⟩ := h
  exact ⟨i1, i2, z, N, n1, n2.next hj⟩

set_option maxHeartbeats 2000000 in
set_option maxRecDepth 100000 in
theorem needed_any (v sv : Value) (L : Line) (S : List Shape) (w : World) (hL : L.ok) (hv : LineAt w w.heap.size v L) (hS : S.length ≤ 8) (hSok : ∀ s ∈ S, s.ok) (hs : Shapes w w.heap.size sv S) :
    Calls Tryz.prog 83 #[v, sv] w (NeededPost L S w) := by
  obtain ⟨vh, vs, rfl, -, hq⟩ := hv
  obtain ⟨AS, cS, rfl, hA⟩ := hs
  obtain ⟨AQ, cQ, rfl, hQ⟩ := hq
  obtain ⟨m, hm⟩ : ∃ m, m = L.squares.length := ⟨_, rfl⟩
  obtain ⟨n, hn⟩ : ∃ n, n = S.length := ⟨_, rfl⟩
  have m8 : m ≤ 8 := by rw [hm]; exact hL.2.2.2.2.2.2.2.1
  rw [← hm] at hQ ⊢
  rw [← hn] at hA hS ⊢
  have HM := Lib.hid hm
  have HN := Lib.hid hn
  have HL := Lib.hid hL
  clear hm hn hL
  go_enter Tryz.func83, Tryz.ntmps83
  go_wp2_with fail
  have hst := NeedI.start w [vh, .int .i64 L.worn, .int .i64 L.scr, .int .i64 L.total, .slice AQ m cQ] L S
  go_loopw [20] (fun i wr => ∃ k : Nat, k ≤ m ∧ i = .int .i64 k ∧ NeedI w [vh, .int .i64 L.worn, .int .i64 L.scr, .int .i64 L.total, .slice AQ m cQ] L S k 0 wr) (fun i _ => m - (intOf i).toNat)
  case atStart => exact ⟨0, by omega, rfl, hst⟩
  case round =>
    clear hst
    obtain ⟨k, hk, rfl, hI⟩ := hrel
    by_cases hlt : k < m
    · obtain ⟨b, o, rfl, hB, hc⟩ := hQ (by omega)
      have hkq : k < L.squares.length := by rw [← HM.out]; exact hlt
      obtain ⟨ls, hls⟩ : ∃ ls, L.squares[k]? = some ls := ⟨_, List.getElem?_eq_getElem hkq⟩
      have hlsm := HL.out.2.2.2.2.2.2.2.2 ls (List.mem_of_getElem? hls)
      obtain ⟨lv, d1, hlv⟩ := hc k ls hls
      have d1 := bcell hI.1 hB d1
      have hlv1 := hlv.keep (Same.of_below hI.1) hI.1.size
      have HX := Lib.hid hls
      clear hls hc
      have v1 : vis ls < 1024 := vis_lt ls fun x hx => (hlsm.2 x hx).2.1
      have v2 : hidn ls < 1024 := hidn_lt ls fun x hx => (hlsm.2 x hx).1
      go_wp2_with fail
      refine (evidence_any lv ls _ hlsm.1 hlsm.2 hlv1).mono ?_
      rintro e w1 ⟨rfl, hb1⟩
      go_wp2_with fail
      refine (common_any _ _ (by omega) (by omega) _).mono ?_
      rintro e w2 ⟨rfl, k2, rfl⟩
      have hI2 : NeedI w [vh, .int .i64 L.worn, .int .i64 L.scr, .int .i64 L.total, .slice (some ⟨b, o, none⟩) m cQ] L S k 0 (w1.drewN k2) := by
        obtain ⟨i1, i2, ⟨Z, z1, z2⟩, N, n1, n2⟩ := hI
        exact ⟨below_drewN (i1.trans (hb1.mono i1.size)) _, (i2.below hb1 i2.size).drewN k2, ⟨Z, z1, (z2.below hb1 z2.size).drewN k2⟩, N, (n1.below hb1 n1.size).drewN k2, n2⟩
      clear hI hb1 hlv1 d1 hlv hlsm
      obtain ⟨W, hW⟩ : ∃ W, W = w1.drewN k2 := ⟨_, rfl⟩
      rw [← hW] at hI2 ⊢
      clear hW
      by_cases hcon : 0 < pc (vis ls &&& hidn ls)
      · go_wp2_with fail
        go_loopw [40] (fun i wr => ∃ j : Nat, j ≤ n ∧ i = .int .i64 j ∧ NeedI w [vh, .int .i64 L.worn, .int .i64 L.scr, .int .i64 L.total, .slice (some ⟨b, o, none⟩) m cQ] L S k j wr) (fun i _ => n - (intOf i).toNat)
        case atStart => exact ⟨0, by omega, rfl, hI2⟩
        case round =>
          clear hI2
          obtain ⟨j, hj, rfl, hI⟩ := hrel
          by_cases hjn : j < n
          · obtain ⟨b', o', rfl, hB', hc'⟩ := hA (by omega)
            have hjS : j < S.length := by rw [← HN.out]; exact hjn
            obtain ⟨s, hsj⟩ : ∃ s, S[j]? = some s := ⟨_, List.getElem?_eq_getElem hjS⟩
            have hsok := hSok s (List.mem_of_getElem? hsj)
            have s1 : s.strokes < 1024 := hsok.2.2.2
            obtain ⟨e1, e2⟩ := hc' j s hsj
            have e1 := bcell hI.1 hB' e1
            have e2 := bcell hI.1 hB' e2
            have HI := Lib.hid hI
            obtain ⟨i1, i2, ⟨Z, z1, z2⟩, N, n1, n2⟩ := hI
            have f1 : wr.cell? ⟨w.heap.size, 1, none⟩ = some (.int .i64 L.worn) := i2.cell 1
            have f2 : wr.cell? ⟨w.heap.size, 2, none⟩ = some (.int .i64 L.scr) := i2.cell 2
            have f0 := i2.size
            have f3 := n1.cell (k * 8 + j)
            have f4 := n1.free (k * 8 + j)
            have f5 := n1.size
            have f6 : k * 8 + j < N.length := by rw [n2.1]; omega
            rw [List.getElem?_eq_getElem f6] at f3
            have w16 := wrap16 s.strokes (by omega)
            have HS := Lib.hid hsj
            clear hsj hc' hsok i1 i2 z1 z2 n1 n2
            have HC := Lib.hid (@cost_con L.worn L.scr ls s.strokes hcon)
            go_wp2_with fail
            go_quiet (first | (go_at_call 95; exact Calls.quiet_of (beyond_any _ _ (by omega) _)) | (go_at_call 94; exact Calls.quiet_of (common_any _ _ (by omega) (by omega) _)))
            go_wp2
            go_roundw
            case rel => exact ⟨j + 1, by omega, by go_num, HI.out.step (by omega) (by omega) (by rw [← HN.out]; omega) HX.out HS.out _ _ _ (val_int (by rw [HC.out]; first | rfl | (push_cast; rfl)))⟩
            case measure => simp [intOf]; omega
          · obtain rfl : j = n := by omega
            go_wp2_with fail
            go_roundw
            case rel => exact ⟨k + 1, by omega, by go_num, hI.next (by rw [← HN.out]; omega)⟩
            case measure => simp [intOf]; omega
      · go_wp2_with fail
        go_loopw [40] (fun i wr => ∃ j : Nat, j ≤ n ∧ i = .int .i64 j ∧ NeedI w [vh, .int .i64 L.worn, .int .i64 L.scr, .int .i64 L.total, .slice (some ⟨b, o, none⟩) m cQ] L S k j wr) (fun i _ => n - (intOf i).toNat)
        case atStart => exact ⟨0, by omega, rfl, hI2⟩
        case round =>
          clear hI2
          obtain ⟨j, hj, rfl, hI⟩ := hrel
          by_cases hjn : j < n
          · obtain ⟨b', o', rfl, hB', hc'⟩ := hA (by omega)
            have hjS : j < S.length := by rw [← HN.out]; exact hjn
            obtain ⟨s, hsj⟩ : ∃ s, S[j]? = some s := ⟨_, List.getElem?_eq_getElem hjS⟩
            have hsok := hSok s (List.mem_of_getElem? hsj)
            have s1 : s.strokes < 1024 := hsok.2.2.2
            obtain ⟨e1, e2⟩ := hc' j s hsj
            have e1 := bcell hI.1 hB' e1
            have e2 := bcell hI.1 hB' e2
            have HI := Lib.hid hI
            obtain ⟨i1, i2, ⟨Z, z1, z2⟩, N, n1, n2⟩ := hI
            have f1 : wr.cell? ⟨w.heap.size, 1, none⟩ = some (.int .i64 L.worn) := i2.cell 1
            have f2 : wr.cell? ⟨w.heap.size, 2, none⟩ = some (.int .i64 L.scr) := i2.cell 2
            have f0 := i2.size
            have f3 := n1.cell (k * 8 + j)
            have f4 := n1.free (k * 8 + j)
            have f5 := n1.size
            have f6 : k * 8 + j < N.length := by rw [n2.1]; omega
            rw [List.getElem?_eq_getElem f6] at f3
            have w16 := wrap16 s.strokes (by omega)
            have HS := Lib.hid hsj
            clear hsj hc' hsok i1 i2 z1 z2 n1 n2
            by_cases g1 : L.scr < pc (diff (vis ls) s.strokes)
            · have HC := Lib.hid (@cost_scr L.worn L.scr ls s.strokes g1)
              go_wp2_with fail
              go_quiet (first | (go_at_call 95; exact Calls.quiet_of (beyond_any _ _ (by omega) _)) | (go_at_call 94; exact Calls.quiet_of (common_any _ _ (by omega) (by omega) _)))
              go_wp2
              go_roundw
              case rel => exact ⟨j + 1, by omega, by go_num, HI.out.step (by omega) (by omega) (by rw [← HN.out]; omega) HX.out HS.out _ _ _ (val_int (by rw [HC.out]; first | rfl | (push_cast; rfl)))⟩
              case measure => simp [intOf]; omega
            · by_cases g2 : L.worn < pc (hidn ls &&& s.strokes)
              · have HC := Lib.hid (@cost_worn L.worn L.scr ls s.strokes g2)
                go_wp2_with fail
                go_quiet (first | (go_at_call 95; exact Calls.quiet_of (beyond_any _ _ (by omega) _)) | (go_at_call 94; exact Calls.quiet_of (common_any _ _ (by omega) (by omega) _)))
                go_wp2
                go_roundw
                case rel => exact ⟨j + 1, by omega, by go_num, HI.out.step (by omega) (by omega) (by rw [← HN.out]; omega) HX.out HS.out _ _ _ (val_int (by rw [HC.out]; first | rfl | (push_cast; rfl)))⟩
                case measure => simp [intOf]; omega
              · have HC := Lib.hid (@cost_sum L.worn L.scr ls s.strokes hcon g1 g2)
                have p1 := pc_le (diff (vis ls) s.strokes) (Nat.lt_trans (diff_lt _ _ 10 v1) (by decide))
                have p2 := pc_le (hidn ls &&& s.strokes) (Nat.lt_of_le_of_lt Nat.and_le_left (by omega))
                go_wp2_with fail
                go_quiet (first | (go_at_call 95; exact Calls.quiet_of (beyond_any _ _ (by omega) _)) | (go_at_call 94; exact Calls.quiet_of (common_any _ _ (by omega) (by omega) _)))
                go_wp2
                go_roundw
                case rel => exact ⟨j + 1, by omega, by go_num, HI.out.step (by omega) (by omega) (by rw [← HN.out]; omega) HX.out HS.out _ _ _ (val_int (by rw [HC.out]; first | rfl | (push_cast; rfl)))⟩
                case measure => simp [intOf]; omega
          · obtain rfl : j = n := by omega
            go_wp2_with fail
            go_roundw
            case rel => exact ⟨k + 1, by omega, by go_num, hI.next (by rw [← HN.out]; omega)⟩
            case measure => simp [intOf]; omega
    · obtain rfl : k = m := by omega
      obtain ⟨i1, i2, ⟨Z, z1, z2⟩, N, n1, n2⟩ := hI
      have hsz : (Tryz.prog.info? 144).map (·.size) = some N.toArray.size := by rw [List.size_toArray, n2.1]; kernel_rfl
      have hzn : Z.toArray.size = N.toArray.size := by rw [List.size_toArray, List.size_toArray, n2.1, z1]
      have hN : Needs L S N := by unfold Needs; rw [← HM.out]; exact n2
      have h1 := all_oneCell_toArray n2.2.1
      clear n2 z1 i2
      go_wp2_with (first
        | (refine wpList_load_row rfl 144 (.tmp 5) rfl (w.heap.size + 1 + 1) rfl 144 N.toArray (0, 0) (.array 8 142) n1 (by kernel_rfl) rfl hsz ?_)
        | (refine wpList_store_row rfl 144 (.tmp 4) (.tmp 81) rfl (w.heap.size + 1) N.toArray rfl rfl 144 Z.toArray z2 hsz hzn h1 ?_))
      have n3 := z2.setRow N
      refine bodyPost_ret (v := .agg N.toArray) ?_ ?_ ?_
      · exact results_cell_row Tryz.results83 _ _ (w.heap.size + 1) 144 N.toArray (0, 0) (.array 8 142) rfl n3 (by kernel_rfl) rfl hsz
      · rfl
      · exact ⟨N, rfl, hN, below_setRow i1 (by omega) _⟩
end
section
open Go.RowKit

theorem foldl_set (xs : List Value) : ∀ (k off : Nat) (A old B : List Value), old.length = xs.length → A.length = off + k →
    (xs.zipIdx k).foldl (fun (cs : Array Value) (x : Value × Nat) => cs.setIfInBounds (off + x.2) x.1) (A ++ old ++ B).toArray = (A ++ xs ++ B).toArray := by
  induction xs with
  | nil =>
    intro k off A old B h _
    obtain rfl : old = [] := List.eq_nil_of_length_eq_zero h
    rfl
  | cons x xs ih =>
    intro k off A old B h hA
    cases old with
    | nil => simp at h
    | cons y old =>
      rw [List.zipIdx_cons, List.foldl_cons]
      have e : (A ++ y :: old ++ B).toArray.setIfInBounds (off + k) x = ((A ++ [x]) ++ old ++ B).toArray := by
        rw [← hA]
        simp
      rw [e, ih (k + 1) off (A ++ [x]) old B (by simpa using h) (by simp [hA]; omega)]
      simp

/-- One part, which lies behind the cells A, fills its place. -/
theorem fill_part (place : Nat → Option (Nat × Nat)) (i : Nat) (v : Value) (xs : List Value) (hv : v.cells = xs.toArray) (A old B : List Value) (ho : old.length = xs.length) (hp : place i = some (A.length, xs.length)) (rest : List (Nat × Value)) :
    Instr.fill place (A ++ old ++ B).toArray ((i, v) :: rest) = Instr.fill place (A ++ xs ++ B).toArray rest := by
  have h2 : ¬ (v.cells.size ≠ xs.length ∨ A.length + v.cells.size > (A ++ old ++ B).toArray.size) := by
    rw [hv]
    simp
    omega
  have h3 : v.cells.zipIdx.foldl (fun (cs : Array Value) (x : Value × Nat) => cs.setIfInBounds (A.length + x.2) x.1) (A ++ old ++ B).toArray = (A ++ xs ++ B).toArray := by
    rw [hv]
    have h4 := foldl_set xs 0 A.length A old B ho rfl
    rw [← h4]
    simp
  rw [Instr.fill, hp]
  simp only []
  rw [if_neg (by simpa using h2)]
  exact congrArg (fun c => Instr.fill place c rest) h3

theorem built_struct {P : Program} {t : TypeId} {i : TypeInfo} {fields : Array Field} {places : List (Nat × Nat)} {z : Value} (h1 : P.info? t = some i) (h2 : P.underlying t = some (.struct fields)) (h3 : i.zero = some z)
    (h4 : fields.toList.mapM (fun f => (P.info? f.type).map fun i => (f.offset, i.size)) = some places) (parts : List (Nat × Value)) : P.built t parts = Instr.fill (places.toArray[·]?) z.cells parts := by
  simp [Program.built, h1, h2, h3, h4]

/-- A slice literal of one aggregate. -/
theorem run_buildSlice_one {P : Program} (w : World) (t e : TypeId) (i : TypeInfo) (z : Value) (cs : List Value) (ht : P.underlying t = some (.slice e)) (hi : P.info? e = some i) (hz : i.zero = some z) (hs : i.size = cs.length) (hzs : z.cells.size = cs.length) (hb : cs.length ≤ 1000) (h0 : 0 < cs.length) :
    (Instr.buildSlice t 1 #[(0, .agg cs.toArray)]).run P w = .ok (.slice (some ⟨w.heap.size, 0, none⟩) 1 1) (w.alloc (.cells cs.toArray e)) := by
  have hsz : (sizeOf e).run P w = .ok cs.length w := by simp [sizeOf, typeInfo, hi, hs]
  have hzv : (zeroValue e).run P w = .ok z w := by simp [zeroValue, typeInfo, hi, hz]
  have hf : Instr.fill (fun k => some (k * cs.length, cs.length)) ((Array.range (1 * cs.length)).map (z.cells[· % z.cells.size]!)) [(0, .agg cs.toArray)] = some cs.toArray := by
    obtain ⟨old, hold⟩ : ∃ old : List Value, ((Array.range (1 * cs.length)).map (z.cells[· % z.cells.size]!)) = old.toArray := ⟨_, (Array.toArray_toList).symm⟩
    have hl : old.length = cs.length := by
      have := congrArg Array.size hold
      simpa using this.symm
    rw [hold]
    have h5 := fill_part (fun k => some (k * cs.length, cs.length)) 0 (.agg cs.toArray) cs rfl [] old [] hl (by simp) []
    simp only [List.nil_append, List.append_nil] at h5
    rw [h5]
    rfl
  unfold Instr.buildSlice
  have hng : ¬ (1 * cs.length > 2 ^ 24) := by omega
  have hne : ¬ (1 * cs.length = 0) := by omega
  simp only [Sem.run_bind, run_underlying ht, Result.andThen_ok, hsz, if_neg hng, if_neg hne, Sem.run_pure, hzv, hf]
  simp [newRow, newObj]
  rfl
end
section
open Go.RowKit

theorem Needs.cells {L : Line} {S : List Shape} {N : List Value} (h : Needs L S N) : NeedCells (cutterOf L S) L.squares.length N :=
  ⟨h.1, h.2.1, fun q i hq hi => by
    have h1 : L.squares[q]? = some L.squares[q] := List.getElem?_eq_getElem hq
    have h2 : S[i]? = some (S[i]'hi) := List.getElem?_eq_getElem hi
    rw [h.2.2 q i _ _ (.inl hq) h1 h2]
    simp [cutterOf, List.getD, h1, h2]⟩

/-- What holds of the world within the loop of 'cutters'. -/
def CutsI (w : World) (B0 : Nat) (bx : List Value) (L : Line) (k : Nat) (v : Value) (wr : World) : Prop :=
  Below (w.heap.size + 1) (w.alloc (.cells bx.toArray 51)) wr ∧ ∃ xs, wr.ownsRow (w.heap.size + 1) 146 65 v k xs ∧ CutCells wr B0 L.squares.length ((cuttersOf L).take k) xs
def CuttersPost (L : Line) (B0 : Nat) (w : World) (e : Ending) (w' : World) : Prop := ∃ v, e = .returned v ∧ Cuts w' (fun k => k < B0 ∨ w.heap.size + 1 ≤ k ∧ k < w'.heap.size) L.squares.length v (cuttersOf L) ∧ Below w.heap.size w w'

theorem info_cutter : (Tryz.prog.info? 146).map (fun i => (i.zero, i.size, i.bytes)) = some (some (.agg (.slice none 0 0 :: List.replicate 64 (.int .i64 0)).toArray), 65, 536) := by kernel_rfl

theorem one_cons {v : Value} {N : List Value} (h : v.oneCell' = true) (hN : ∀ u ∈ N, u.oneCell' = true) : ∀ u ∈ v :: N, u.oneCell' = true := fun u hu => by
  rcases List.mem_cons.1 hu with rfl | hu
  · exact h
  · exact hN u hu
theorem built_cutter (A : Option Addr) (n c : Nat) (N : List Value) (hN : N.length = 64) :
    Tryz.prog.built 146 [(0, .slice A n c), (1, .agg N.toArray)] = some (.slice A n c :: N).toArray := by
  obtain ⟨i0, hi, hz0, hz1, hz2⟩ := info_parts info_cutter
  rw [built_struct (places := [(0, 1), (1, 64)]) hi Tryz.underlying146 hz0 (by kernel_rfl)]
  have h1 := fill_part ([(0, 1), (1, 64)].toArray[·]?) 0 (.slice A n c) [.slice A n c] rfl [] [.slice none 0 0] (List.replicate 64 (.int .i64 0)) rfl rfl [(1, .agg N.toArray)]
  have h2 := fill_part ([(0, 1), (1, 64)].toArray[·]?) 1 (.agg N.toArray) N rfl [.slice A n c] (List.replicate 64 (.int .i64 0)) [] (by simp [hN]) (by rw [hN]; rfl) []
  refine h1.trans ?_
  simp only [List.append_nil] at h2
  exact h2
theorem run_build_cutter (A : Option Addr) (n c : Nat) (N : List Value) (hN : N.length = 64) (w : World) :
    (Instr.build 146 #[(0, .slice A n c), (1, .agg N.toArray)]).run Tryz.prog w = .ok (.agg (.slice A n c :: N).toArray) w := run_build w _ _ _ (built_cutter A n c N hN)
theorem run_slice_cutter (A : Option Addr) (n c : Nat) (N : List Value) (hN : N.length = 64) (w : World) :
    (Instr.buildSlice 127 1 #[(0, .agg (.slice A n c :: N).toArray)]).run Tryz.prog w = .ok (.slice (some ⟨w.heap.size, 0, none⟩) 1 1) (w.alloc (.cells (.slice A n c :: N).toArray 146)) := by
  obtain ⟨i0, hi, hz0, hz1, hz2⟩ := info_parts info_cutter
  exact run_buildSlice_one w _ _ i0 _ _ (by kernel_rfl) hi hz0 (by rw [hz1]; simp [hN]) (by simp [Value.cells, hN]) (by simp [hN]) (by simp)
/-- A slice literal, under a name that the walk's simp does not open. -/
def mkSlice (t : TypeId) (n : Nat) (parts : Array (Nat × Value)) : Sem Value := Instr.buildSlice t n parts
theorem mk_cutter (parts : Array (Nat × Value)) : Instr.buildSlice 127 1 parts = mkSlice 127 1 parts := rfl
theorem run_mk_cutter (A : Option Addr) (n c : Nat) (N : List Value) (hN : N.length = 64) (w : World) :
    (mkSlice 127 1 #[(0, .agg (.slice A n c :: N).toArray)]).run Tryz.prog w = .ok (.slice (some ⟨w.heap.size, 0, none⟩) 1 1) (w.alloc (.cells (.slice A n c :: N).toArray 146)) := run_slice_cutter A n c N hN w
def mkAgg (t : TypeId) (parts : Array (Nat × Value)) : Sem Value := Instr.build t parts
theorem mk_agg (parts : Array (Nat × Value)) : Instr.build 146 parts = mkAgg 146 parts := rfl
theorem run_mk_agg (A : Option Addr) (n c : Nat) (N : List Value) (hN : N.length = 64) (w : World) :
    (mkAgg 146 #[(0, .slice A n c), (1, .agg N.toArray)]).run Tryz.prog w = .ok (.agg (.slice A n c :: N).toArray) w := run_build_cutter A n c N hN w
attribute [local go_sem ↓] mk_agg mk_cutter
attribute [local go_sem] run_mk_agg run_mk_cutter

set_option maxHeartbeats 1000000 in
set_option maxRecDepth 100000 in
theorem cutters_any (v : Value) (L : Line) (w : World) (B0 : Nat) (hB0 : B0 ≤ w.heap.size) (hL : L.ok) (hv : LineAt w B0 v L) :
    Calls Tryz.prog 68 #[v] w (CuttersPost L B0 w) := by
  have hv0 := hv.keep (Same.refl _ _) hB0
  obtain ⟨vh, vs, rfl, hh, hq⟩ := hv
  obtain ⟨A, c, rfl, hA⟩ := hh
  obtain ⟨n, hn⟩ : ∃ n, n = L.hands.length := ⟨_, rfl⟩
  have n4 : n ≤ 4 := by rw [hn]; exact hL.2.1
  rw [← hn] at hA hv0 ⊢
  have HN := Lib.hid hn
  have HL := Lib.hid hL
  have HV := Lib.hid hv0
  obtain ⟨i0, hi, hz0, hz1, hz2⟩ := info_parts info_cutter
  clear hn hL hv0
  go_enter Tryz.func68, Tryz.ntmps68
  go_wp2_with fail
  go_loopw [3, 9] (fun v i wr => ∃ k : Nat, k ≤ n ∧ i = .int .i64 k ∧ CutsI w B0 [.slice A n c, .int .i64 L.worn, .int .i64 L.scr, .int .i64 L.total, vs] L k v wr) (fun _ i _ => n - (intOf i).toNat)
  case atStart => exact ⟨0, by omega, rfl, Below.refl _ _, [], ⟨rfl, .inl ⟨rfl, rfl⟩⟩, CutCells.nil _ _ _⟩
  case round =>
    obtain ⟨k, hk, rfl, hI⟩ := hrel
    by_cases hlt : k < n
    · obtain ⟨b, o, rfl, hBB, hc⟩ := hA (by omega)
      have hB : b < w.heap.size := Nat.lt_of_lt_of_le hBB hB0
      have hkq : k < L.hands.length := by rw [← HN.out]; exact hlt
      obtain ⟨h, hh⟩ : ∃ h, L.hands[k]? = some h := ⟨_, List.getElem?_eq_getElem hkq⟩
      obtain ⟨d1, d2, sv, d3, hsv⟩ := hc k h hh
      obtain ⟨hb, xs, hown, hcut⟩ := hI
      have HSV := Lib.hid hsv
      obtain ⟨As, cs, rfl, -⟩ := hsv
      have hb0 : Below w.heap.size w wr := ((Below.refl _ _).alloc (Nat.le_refl _) _).trans (hb.mono (by omega))
      have d1 := bcell hb0 hB d1
      have d2 := bcell hb0 hB d2
      have d3 := bcell hb0 hB d3
      have bx := (Blok.new w 51 [.slice (some ⟨b, o, none⟩) n c, .int .i64 L.worn, .int .i64 L.scr, .int .i64 L.total, vs]).below hb (by omega)
      have s0 : w.heap.size < wr.heap.size := bx.size
      have l0 : wr.cell? ⟨w.heap.size, 0, none⟩ = some (.slice (some ⟨b, o, none⟩) n c) := bx.cell 0
      have l1 : wr.cell? ⟨w.heap.size, 1, none⟩ = some (.int .i64 L.worn) := bx.cell 1
      have l2 : wr.cell? ⟨w.heap.size, 2, none⟩ = some (.int .i64 L.scr) := bx.cell 2
      have l3 : wr.cell? ⟨w.heap.size, 3, none⟩ = some (.int .i64 L.total) := bx.cell 3
      have l4 : wr.cell? ⟨w.heap.size, 4, none⟩ = some vs := bx.cell 4
      have HH := Lib.hid hh
      have HOK := Lib.hid (HL.out.2.2.1 h (List.mem_of_getElem? hh))
      have HO := Lib.hid hown
      have HC := Lib.hid hcut
      have HB := Lib.hid hb
      have HB0 := Lib.hid hb0
      clear hc hA hh hown hcut hb bx hb0
      go_wp2_with fail
      go_region_held3 (fun w' => w'.cell? ⟨w.heap.size, 0, none⟩ = some (.slice (some ⟨b, o, none⟩) n c) ∧ w'.cell? ⟨w.heap.size, 1, none⟩ = some (.int .i64 L.worn) ∧ w'.cell? ⟨w.heap.size, 2, none⟩ = some (.int .i64 L.scr) ∧ w'.cell? ⟨w.heap.size, 3, none⟩ = some (.int .i64 L.total) ∧ w'.cell? ⟨w.heap.size, 4, none⟩ = some vs ∧ w'.cell? ⟨wr.heap.size, 2, none⟩ = some (.slice As h.shapes.length cs))
        (first
          | go_keep
          | (refine ⟨?_, ?_, ?_, ?_, ?_, ?_⟩ <;> (refine (hb1.cell (p := ⟨_, _, none⟩) (by simp; try omega)).trans ?_; simp [*]))
          | (go_split_ands; refine ⟨?_, ?_, ?_, ?_, ?_, ?_⟩ <;> (rw [hgrow.cell_far _ (by have := hb1.size; simp at this ⊢; omega) (by intro e; have := HO.out.lt _ e.symm; simp at this; try omega)]; assumption)))
        (first
          | (go_at_call 83; refine (needed_any _ _ L h.shapes _ HL.out (HV.out.keep (Same.of_below ((HB0.out.alloc HB0.out.size _).drew)) (by simp; omega)) (HOK.out.2.2.2.2.1) (HOK.out.2.2.2.2.2.1) (HSV.out.keep (Same.mono (Same.of_below ((HB0.out.alloc HB0.out.size _).drew)) hB0) (by simp; omega))).mono ?_; rintro e w1 ⟨N, rfl, hN, hb1⟩; have hN64 := hN.1; have hown1 := own_below (HO.out.alloc (.cells #[.int .i64 h.low, .int .i64 h.high, .slice As h.shapes.length cs] 59)).drew hb1 (Nat.le_refl _))
          | (refine step_append_lies _ (by rfl) (.tmp 13) (.tmp 21) 127 (by rfl) (w.heap.size + 1) 146 i0 _ 65 536 Tryz.underlying127 hi hz0 hz1 hz2 (by rfl) (by decide) u3 k xs (by rfl) (hown1.alloc _) _ 1 1 (.slice As h.shapes.length cs :: N) (by rfl) (by simp [hN64]) (World.news_of_block (heap_alloc_new w1 _)) (one_cons rfl hN.2.1) (by decide) (by unfold maxLen; omega) (by omega) (by have := hb1.size; simp at this ⊢; omega) (w1.heap.size + 1) (by simp) ?_; intro g cap w2 hown2 hgrow hat hlt2))
      have b2 : Below (w.heap.size + 1) (w.alloc (.cells #[.slice (some ⟨b, o, none⟩) n c, .int .i64 L.worn, .int .i64 L.scr, .int .i64 L.total, vs] 51)) w2 :=
        ((((HB.out.alloc (by omega) _).drew.trans (hb1.mono (by simp; omega))).alloc (by have := hb1.size; simp at this; omega) _).grown hgrow (by have := hb1.size; simp at this ⊢; omega) (fun j e => (HO.out.lt j e).1))
      have hc2 := (HC.out.keep (Same.mono (Same.of_two HB.out b2) (by omega)) (Nat.le_refl _)).snoc (c := cutterOf L h.shapes) rfl (HSV.out.keep (Same.mono (Same.of_below (((Below.refl _ _).alloc (Nat.le_refl _) _).trans (b2.mono (Nat.le_succ _)))) hB0) (Nat.le_refl _)) hN.cells
      rw [← cuttersOf_snoc L k h HH.out] at hc2
      clear l0 l1 l2 l3 l4 d1 d2 d3
      have HF : Hid (CutsI w B0 [.slice (some ⟨b, o, none⟩) n c, .int .i64 L.worn, .int .i64 L.scr, .int .i64 L.total, vs] L (k + 1) (.slice (some ⟨g, 0, none⟩) (k + 1) cap) w2) := Lib.hid ⟨b2, _, hown2, hc2⟩
      clear b2 hc2 hown2 hgrow hat
      go_wp2_with fail
      go_roundw
      case rel => exact ⟨k + 1, by omega, by go_num, HF.out⟩
      case measure => simp [intOf]; omega
    · obtain rfl : k = n := by omega
      obtain ⟨hb, xs, hown, hcut⟩ := hI
      have hlen : (cuttersOf L).length = k := by unfold cuttersOf; rw [List.length_map, ← HN.out]
      rw [List.take_of_length_le (by omega)] at hcut
      rw [← hlen] at hown
      have hcc := Cuts.of_own hown hcut
      go_wp2_with fail
      go_ret
      exact ⟨_, rfl, hcc, ((Below.refl _ _).alloc (Nat.le_refl _) _).trans (hb.mono (Nat.le_succ _))⟩
end
section
open Go.RowKit Go.Shelf

attribute [local go_sem] Oper.semAt_some

/-- Some blocks of the world are as they were. -/
structure Keep (p : Nat → Prop) (w w' : World) : Prop where
  os : w'.os = w.os
  tape : w'.tape = w.tape
  output : w'.output = w.output
  size : w.heap.size ≤ w'.heap.size
  block : ∀ k, p k → w'.heap[k]? = w.heap[k]?
theorem Keep.refl (p : Nat → Prop) (w : World) : Keep p w w := ⟨rfl, rfl, rfl, Nat.le_refl _, fun _ _ => rfl⟩
theorem Keep.trans {p : Nat → Prop} {a b c : World} (h : Keep p a b) (k : Keep p b c) : Keep p a c :=
  ⟨k.os.trans h.os, k.tape.trans h.tape, k.output.trans h.output, Nat.le_trans h.size k.size, fun i hi => (k.block i hi).trans (h.block i hi)⟩
theorem Keep.cell {p : Nat → Prop} {w w' : World} (h : Keep p w w') {b o : Nat} (hb : p b) : w'.cell? ⟨b, o, none⟩ = w.cell? ⟨b, o, none⟩ := by
  simp [World.cell?, h.block b hb]
theorem Keep.blok {p : Nat → Prop} {w w' : World} (h : Keep p w w') {g : Nat} {t : TypeId} {cs : List Value} (hb : Blok w g t cs) (hg : p g) : Blok w' g t cs := (h.block g hg).trans hb
theorem Keep.same {p : Nat → Prop} {w w' : World} (h : Keep p w w') {B : Nat} (hB : ∀ k, k < B → p k) : Same B w w' := fun _ _ hb => h.cell (hB _ hb)

theorem grown_box (w : World) (o : Obj) : w.grownBy (w.alloc o).drew none :=
  ⟨rfl, rfl, rfl, by show w.heap.size ≤ (w.heap.push o).size; simp, fun k hk _ => (Below.heap_alloc w o k hk)⟩
theorem grown_boxN (w : World) (o : Obj) (n : Nat) : w.grownBy ((w.alloc o).drewN n) none :=
  ⟨rfl, rfl, rfl, by show w.heap.size ≤ (w.heap.push o).size; simp, fun k hk _ => (Below.heap_alloc w o k hk)⟩
/-- A round has gone on, or has left. -/
def Went (b : Bool) (X Y : Prop) : Prop := (b = true ∧ X) ∨ (b = false ∧ Y)
theorem went_of {X Y : World → Prop} : ∀ (e : Ending) (W : World), ((e = .returned (.bool true) ∧ X W) ∨ (e = .returned (.bool false) ∧ Y W)) → ∃ bb : Bool, e = .returned (.bool bb) ∧ Went bb (X W) (Y W) := by
  rintro e W (⟨rfl, h⟩ | ⟨rfl, h⟩)
  · exact ⟨true, rfl, .inl ⟨rfl, h⟩⟩
  · exact ⟨false, rfl, .inr ⟨rfl, h⟩⟩
theorem Keep.sameP {p : Nat → Prop} {w w' : World} (h : Keep p w w') {P : Nat → Prop} (hP : ∀ k, P k → p k) : SameP P w w' := fun _ _ hb => h.cell (hP _ hb)
def letF (n : Nat) : Fin 256 := if h : n < 256 then ⟨n, h⟩ else 0
theorem letF_lt (n : Nat) (h : n < 256) : letF n = ⟨n, h⟩ := dif_pos h
/-- The letters that may be in a square with at most so many marks, as far as k letters of the hand were looked at. -/
def Cutter.upto (c : Cutter) (q most k : Nat) : List (Fin 256) := (List.range k).filterMap fun i => if c.need q i ≤ most then some (letF (c.shapes.getD i ⟨0, 0⟩).letter) else none
def Cutter.choices (c : Cutter) (q most : Nat) : List (Fin 256) := c.upto q most c.shapes.length
theorem Cutter.upto_yes (c : Cutter) (q most k : Nat) (s : Shape) (hs : c.shapes[k]? = some s) (h : c.need q k ≤ most) : c.upto q most (k + 1) = c.upto q most k ++ [letF s.letter] := by
  unfold Cutter.upto
  rw [List.range_succ, List.filterMap_append]
  simp [h, List.getD, hs]
theorem Cutter.upto_no (c : Cutter) (q most k : Nat) (h : ¬ c.need q k ≤ most) : c.upto q most (k + 1) = c.upto q most k := by
  unfold Cutter.upto
  rw [List.range_succ, List.filterMap_append]
  simp [h]
theorem Cutter.upto_len (c : Cutter) (q most k : Nat) : (c.upto q most k).length ≤ k := by
  have := List.length_filterMap_le (fun i => if c.need q i ≤ most then some (letF (c.shapes.getD i ⟨0, 0⟩).letter) else none) (List.range k)
  simpa [Cutter.upto] using this

theorem Cutter.upto_pre (c : Cutter) (q most : Nat) {j k : Nat} (h : j ≤ k) : c.upto q most j <+: c.upto q most k := by
  unfold Cutter.upto
  obtain ⟨r, hr⟩ : List.range j <+: List.range k := by
    refine ⟨(List.range k).drop j, ?_⟩
    have := List.take_append_drop j (List.range k)
    rwa [List.take_range, Nat.min_eq_left h] at this
  rw [← hr, List.filterMap_append]
  exact List.prefix_append _ _
theorem Keep.box (p : Nat → Prop) (w : World) (hp : ∀ k, p k → k < w.heap.size) (o : Obj) : Keep p w (w.alloc o).drew :=
  ⟨rfl, rfl, rfl, by show w.heap.size ≤ (w.heap.push o).size; simp, fun k hk => Below.heap_alloc w o k (hp k hk)⟩

theorem Keep.boxN (p : Nat → Prop) (w : World) (hp : ∀ k, p k → k < w.heap.size) (o : Obj) (n : Nat) : Keep p w ((w.alloc o).drewN n) :=
  ⟨rfl, rfl, rfl, by show w.heap.size ≤ (w.heap.push o).size; simp, fun k hk => Below.heap_alloc w o k (hp k hk)⟩

/-- What the iterator of a square's letters has captured. -/
structure ChoiceBox (w : World) (P : Nat → Prop) (m : Nat) (c : Cutter) (q most B : Nat) (sv : Value) (N : List Value) : Prop where
  cut : Blok w B 146 (sv :: N)
  shapes : ShapesP w P sv c.shapes
  need : NeedCells c m N
  square : Blok w (B + 1) 3 [.int .i64 q]
  most : Blok w (B + 1 + 1) 3 [.int .i64 most]
theorem ChoiceBox.keep {w w' : World} {p : Nat → Prop} {P : Nat → Prop} {m : Nat} {c : Cutter} {q most B : Nat} {sv : Value} {N : List Value} (h : ChoiceBox w P m c q most B sv N) (hk : Keep p w w') (h0 : ∀ k, P k → p k) (h1 : p B) (h2 : p (B + 1)) (h3 : p (B + 1 + 1)) : ChoiceBox w' P m c q most B sv N := by
  obtain ⟨a1, a2, a3, a4, a5⟩ := h
  exact ⟨hk.blok a1 h1, a2.keep (hk.sameP h0) (fun _ h => h), a3, hk.blok a4 h2, hk.blok a5 h3⟩

end
section
open Go.RowKit Go.Shelf

attribute [local go_sem] Oper.semAt_some

theorem scope_wide {n : Nat} {P : Program} {c : Code} {Q : Exit → Act → World → Prop} {a : Act} {w : World} (h : c.wpIn Fence.wide n P (Exit.noGoto Q) a w) : (Code.scope c).wpIn Fence.wide n P Q a w :=
  wpIn_wide.2 (wp_scope_straight (wpIn_wide.1 h))

/-- How many marks the squares below k need. -/
def Cutter.sum (c : Cutter) (k : Nat) : Nat := ((List.range k).map c.fewest).sum
theorem Cutter.sum_succ (c : Cutter) (k : Nat) : c.sum (k + 1) = c.sum k + c.fewest k := by simp [Cutter.sum, List.range_succ]
theorem Cutter.sum_mono (c : Cutter) {j k : Nat} (h : j ≤ k) : c.sum j ≤ c.sum k := by
  induction k with
  | zero => rw [Nat.le_zero.1 h]; exact Nat.le_refl _
  | succ k ih =>
    rcases Nat.lt_or_ge j (k + 1) with h1 | h1
    · exact Nat.le_trans (ih (by omega)) (by rw [c.sum_succ]; omega)
    · rw [show j = k + 1 by omega]; exact Nat.le_refl _
theorem Cutter.sum_le (c : Cutter) (k : Nat) : c.sum k ≤ 81 * k := by
  induction k with
  | zero => simp [Cutter.sum]
  | succ k ih => rw [c.sum_succ]; have := c.fewest_le k; omega

/-- A hand that fits, by its number, and what is left of Total. -/
abbrev Fit (cs : List Cutter) (m T : Nat) := { x : Nat × Nat // ∃ c, cs[x.1]? = some c ∧ c.sum m + x.2 = T }
def fitAt (cs : List Cutter) (m T i : Nat) : Option (Fit cs m T) :=
  match h : cs[i]? with
  | none => none
  | some c => if h2 : c.sum m ≤ T then some ⟨(i, T - c.sum m), c, h, by omega⟩ else none
theorem fitAt_yes (cs : List Cutter) (m T i : Nat) (c : Cutter) (h : cs[i]? = some c) (h2 : c.sum m ≤ T) : fitAt cs m T i = some ⟨(i, T - c.sum m), c, h, by omega⟩ := by
  unfold fitAt
  split
  · rename_i h'; rw [h] at h'; cases h'
  · rename_i c' h'
    rw [h] at h'
    injection h' with h'
    subst h'
    rw [dif_pos h2]
theorem fitAt_no (cs : List Cutter) (m T i : Nat) (c : Cutter) (h : cs[i]? = some c) (h2 : ¬ c.sum m ≤ T) : fitAt cs m T i = none := by
  unfold fitAt
  split
  · rfl
  · rename_i c' h'
    rw [h] at h'
    injection h' with h'
    subst h'
    rw [dif_neg h2]
def fitsTo (cs : List Cutter) (m T k : Nat) : List (Fit cs m T) := (List.range k).filterMap (fitAt cs m T)
def fits (cs : List Cutter) (m T : Nat) : List (Fit cs m T) := fitsTo cs m T cs.length
theorem fitsTo_succ (cs : List Cutter) (m T k : Nat) : fitsTo cs m T (k + 1) = fitsTo cs m T k ++ (fitAt cs m T k).toList := by
  unfold fitsTo
  rw [List.range_succ, List.filterMap_append]
  cases h : fitAt cs m T k <;> simp [h]
theorem fitsTo_len (cs : List Cutter) (m T k : Nat) : (fitsTo cs m T k).length ≤ k := by
  have := List.length_filterMap_le (fitAt cs m T) (List.range k)
  simpa [fitsTo] using this
theorem fitsTo_pre (cs : List Cutter) (m T : Nat) {j k : Nat} (h : j ≤ k) : fitsTo cs m T j <+: fitsTo cs m T k := by
  unfold fitsTo
  obtain ⟨r, hr⟩ : List.range j <+: List.range k := by
    refine ⟨(List.range k).drop j, ?_⟩
    have := List.take_append_drop j (List.range k)
    rwa [List.take_range, Nat.min_eq_left h] at this
  rw [← hr, List.filterMap_append]
  exact List.prefix_append _ _

/-- What the iterator of the hands has captured: the box of the cutters, and that of the line. -/
structure FitBox (w : World) (P : Nat → Prop) (m : Nat) (cs : List Cutter) (lv : List Value) (cv : Value) (B : Nat) : Prop where
  line : Blok w B 51 lv
  cuts : Blok w (B + 1) 127 [cv]
  mem : Cuts w P m cv cs
theorem FitBox.keep {w w' : World} {p : Nat → Prop} {P : Nat → Prop} {m : Nat} {cs : List Cutter} {lv : List Value} {cv : Value} {B : Nat} (h : FitBox w P m cs lv cv B) (hk : Keep p w w') (h0 : ∀ k, P k → p k) (h1 : p B) (h2 : p (B + 1)) : FitBox w' P m cs lv cv B :=
  ⟨hk.blok h.line h1, hk.blok h.cuts h2, h.mem.keep (hk.sameP h0) (fun _ h => h)⟩

/-- A whole cutter is loaded, and stored, under names that the walk's simp does not open. -/
def ldCut (v : Value) : Sem Value := Instr.loadAt 146 v
theorem ld_cut (v : Value) : Instr.loadAt 146 v = ldCut v := rfl
theorem run_ldCut (w : World) (b o : Nat) (cs : List Value) (hc : w.rangeAt b o cs) (hl : cs.length = 65) : (ldCut (.pointer (some ⟨b, o, none⟩))).run Tryz.prog w = .ok (.agg cs.toArray) w :=
  run_loadAt_mid w b o _ cs _ hc Tryz.underlying146 rfl (by rw [hl]; kernel_rfl)
def stCut (v u : Value) : Sem Unit := Instr.storeAt 146 v u
theorem st_cut (v u : Value) : Instr.storeAt 146 v u = stCut v u := rfl
theorem size_zeros : Tryz.zeroCells146.size = 65 := by kernel_rfl
theorem run_stCut (w : World) (cs : List Value) (hl : cs.length = 65) (h1 : ∀ u ∈ cs, u.oneCell' = true) :
    (stCut (.pointer (some ⟨w.heap.size, 0, none⟩)) (.agg cs.toArray)).run Tryz.prog (w.alloc (.cells Tryz.zeroCells146 146)) = .ok () (w.alloc (.cells cs.toArray 146)) :=
  run_storeAt_new w _ _ _ (by rw [List.size_toArray, hl]; kernel_rfl) (size_zeros.trans (by rw [List.size_toArray, hl])) (all_oneCell_toArray h1)
attribute [local go_sem ↓] ld_cut st_cut

theorem below_grown {w w' : World} (hb : Below w.heap.size w w') : w.grownBy w' none := ⟨hb.os, hb.tape, hb.output, hb.size, fun k hk _ => hb.block k hk⟩
theorem Keep.of_below {p : Nat → Prop} {B : Nat} {w w' : World} (hb : Below B w w') (hp : ∀ k, p k → k < B) : Keep p w w' := ⟨hb.os, hb.tape, hb.output, hb.size, fun k hk => hb.block k (hp k hk)⟩
/-- (cutter).fewest, of a cutter as it lies in memory. -/
theorem fewest_cut (c : Cutter) (m : Nat) (sv : Value) (N : List Value) (hs : ∃ A cp, sv = .slice A c.shapes.length cp) (hN : NeedCells c m N) (hc : c.ok) (q : Nat) (hq : q < m) (hm : m ≤ 8) (w : World) :
    Calls Tryz.prog 82 #[.agg (sv :: N).toArray, .int .i64 q] w fun e w' => e = .returned (.int .i64 (c.fewest q)) ∧ Below w.heap.size w w' := by
  obtain ⟨A, cp, rfl⟩ := hs
  have hl : (c.row q).length = c.shapes.length := by simp [Cutter.row]
  have h := fewest_any A cp N q (by omega) (c.row q) (by rw [hl]; exact hc.2.1) (fun i x hx => by
    have hi : i < c.shapes.length := by rw [← hl]; exact (List.getElem?_eq_some_iff.1 hx).1
    rw [hN.2.2 q i hq hi]
    simp [Cutter.row, hi] at hx
    rw [hx]) w
  rw [hl] at h
  exact h

set_option maxRecDepth 100000 in
set_option maxHeartbeats 1000000 in
theorem fitting1_in (n : Nat) (hn : 1 ≤ n) (l m B T : Nat) (P : Nat → Prop) (cs : List Cutter) (vh : Value) (wn sc : Nat) (AQ : Option Addr) (cQ : Nat) (cv : Value) (p : Nat → Prop) (hcs : cs.length ≤ 4) (hok : ∀ c ∈ cs, c.ok) (hm : m ≤ 8) (hT : T ≤ 40)
    (h0 : ∀ k, P k → p k) (h1 : p B) (h2 : p (B + 1)) (J Jx : List (Fit cs m T) → World → Prop)
    (hY : ∀ pre x W, J pre W → pre.length < cs.length → YieldAt Fence.wide (n - 1) Tryz.prog l #[.int .i64 x.1.1, .int .i64 x.1.2] W fun e W' =>
      (e = .returned (.bool true) ∧ J (pre ++ [x]) W' ∧ Keep p W W') ∨ (e = .returned (.bool false) ∧ Jx (pre ++ [x]) W'))
    (W : World) (hJ : AbidesFrom W.heap.size J) (hp : ∀ k, p k → k < W.heap.size) (hbox : FitBox W P m cs [vh, .int .i64 wn, .int .i64 sc, .int .i64 T, .slice AQ m cQ] cv B) (hJ0 : J [] W) :
    CallsIn Fence.wide n Tryz.prog 81 #[.func (.yield l) #[] #[], .pointer (some ⟨B + 1, 0, none⟩), .pointer (some ⟨B, 0, none⟩)] W fun e W' => (∃ v, e = .returned v) ∧
      ((∃ ys, ys = fits cs m T ∧ J ys W') ∨ (∃ pre, pre <+: fits cs m T ∧ Jx pre W')) := by
  obtain ⟨k, hk⟩ : ∃ k, k = cs.length := ⟨_, rfl⟩
  rw [← hk] at hcs
  have HK := Lib.hid hk
  have hbox0 := hbox
  obtain ⟨a1, a2, a3⟩ := hbox
  obtain ⟨A, cp, rfl, -⟩ := a3
  rw [← hk] at a2 hbox0
  have c0 : W.cell? ⟨B + 1, 0, none⟩ = some (.slice A k cp) := a2.cell 0
  clear hk a1 a2
  refine callsIn_of_wp Tryz.func81 rfl trivial ?_ rfl
  simp only [Tryz.ntmps81, List.size_toArray, List.length_cons, List.length_nil, Nat.reduceAdd, Nat.reduceSub, Array.replicate_succ, Array.replicate_zero, List.push_toArray, List.append_toArray, List.nil_append, List.cons_append]
  gi_wp2
  refine scope_wide ?_
  gi_wp2
  refine wpIn_label ?_
  gi_wp2
  gi_loopg [10] k (fun g i wr => ∃ j : Nat, j + g = k ∧ i = .int .i64 j ∧ FitBox wr P m cs [vh, .int .i64 wn, .int .i64 sc, .int .i64 T, .slice AQ m cQ] (.slice A k cp) B ∧ J (fitsTo cs m T j) wr ∧ W.heap.size ≤ wr.heap.size)
  case atStart => exact ⟨0, by omega, rfl, hbox0, hJ0, Nat.le_refl _⟩
  case round =>
    clear c0
    obtain ⟨j, hjg, rfl, hb, hJ1, hsz⟩ := hrel
    cases gk with
    | zero =>
      obtain rfl : j = k := by omega
      rw [HK.out] at hJ1
      gi_wp2
      rw [Exit.noGoto_normal]
      go_end0
      exact ⟨⟨_, rfl⟩, .inl ⟨_, rfl, hJ1⟩⟩
    | succ g =>
      have hlt : j < k := by omega
      have HB := Lib.hid hb
      obtain ⟨a1, a2, a3⟩ := hb
      obtain ⟨A', cp', e, hA⟩ := a3
      have hjc : j < cs.length := by rw [← HK.out]; exact hlt
      obtain ⟨b, o, rfl, hB, hR⟩ := hA (by omega)
      injection e with e1 e2 e3
      subst e1
      clear e2 e3 hA
      obtain ⟨c, hc⟩ : ∃ c, cs[j]? = some c := ⟨_, List.getElem?_eq_getElem hjc⟩
      have hcok := hok c (List.mem_of_getElem? hc)
      obtain ⟨sv, N, r1, r2, r3, r4⟩ := hR j c hc
      have hsv : ∃ A cp, sv = .slice A c.shapes.length cp := by obtain ⟨A, cp, e, _⟩ := r3; exact ⟨A, cp, e⟩
      have g3 : wr.cell? ⟨B, 3, none⟩ = some (.int .i64 T) := a1.cell 3
      have g4 : wr.cell? ⟨B, 4, none⟩ = some (.slice AQ m cQ) := a1.cell 4
      have z1 := a1.size
      have hld := run_ldCut wr b (o + j * 65) _ r1 (by simp [r4.1])
      have HC := Lib.hid hc
      have hst := run_stCut wr _ (by simp [r4.1]) (one_cons r2 r4.2.1)
      have hx0 : Hid (FitBox (wr.alloc (.cells (sv :: N).toArray 146)) P m cs [vh, .int .i64 wn, .int .i64 sc, .int .i64 T, .slice AQ m cQ] (.slice (some ⟨b, o, none⟩) k cp) B ∧
        J (fitsTo cs m T j) (wr.alloc (.cells (sv :: N).toArray 146)) ∧ wr.heap.size < (wr.alloc (.cells (sv :: N).toArray 146)).heap.size ∧ Blok (wr.alloc (.cells (sv :: N).toArray 146)) wr.heap.size 146 (sv :: N)) :=
        Lib.hid ⟨HB.out.keep (Keep.of_below ((Below.refl _ _).alloc (Nat.le_refl _) _) (fun k hk => Nat.lt_of_lt_of_le (hp k hk) hsz)) h0 h1 h2, hJ _ _ _ none hJ1 (below_grown ((Below.refl _ _).alloc (Nat.le_refl _) _)) (fun r e => by cases e), by simp, Blok.new _ _ _⟩
      have HR4 := Lib.hid r4
      have h65 : (sv :: N).length = 65 := by simp [r4.1]
      clear a1 a2 hR hc hJ1 HB r1 r2 r3 r4
      gi_wp2_with fail
      clear hst hld g3 g4
      obtain ⟨wo, rfl⟩ : ∃ wo : World, wo = wr := ⟨_, rfl⟩
      gi_loopg [6, 20] m (fun g2 lf i2 wx => ∃ q : Nat, q + g2 = m ∧ i2 = .int .i64 q ∧ lf = .int .i64 ((T : Int) - (c.sum q : Int)) ∧ c.sum q ≤ T ∧ FitBox wx P m cs [vh, .int .i64 wn, .int .i64 sc, .int .i64 T, .slice AQ m cQ] (.slice (some ⟨b, o, none⟩) k cp) B ∧
        J (fitsTo cs m T j) wx ∧ wo.heap.size < wx.heap.size ∧ Blok wx wo.heap.size 146 (sv :: N))
      case atStart => exact ⟨0, by omega, rfl, by simp [Cutter.sum], by simp [Cutter.sum], hx0.out⟩
      case round =>
        clear hx0
        obtain ⟨q, hqg, rfl, rfl, hsum, hbx, hJx1, hszx, hblk⟩ := hrel
        cases gk with
        | zero =>
          obtain rfl : q = m := by omega
          have hlen : (fitsTo cs q T j).length < cs.length := Nat.lt_of_le_of_lt (fitsTo_len cs q T j) hjc
          obtain ⟨fn, tmps, assign, body, hy, hR⟩ := hY _ ⟨(j, T - c.sum q), c, HC.out, by omega⟩ _ hJx1 hlen
          dsimp only at hy
          rw [show ((T - c.sum q : Nat) : Int) = (T : Int) - (c.sum q : Int) by omega] at hy
          have hf := fitAt_yes cs q T j c HC.out (by omega)
          have hsucc := fitsTo_succ cs q T j
          rw [hf] at hsucc
          have hpre := fitsTo_pre cs q T (show j + 1 ≤ cs.length by omega)
          rw [hsucc] at hpre
          have HS := Lib.hid hsucc
          have HP := Lib.hid hpre
          have HB := Lib.hid hbx
          clear hf hsucc hpre hbx hY hblk
          gi_wp2
          refine hR.mono ?_
          clear hR hy
          rintro e W3 (⟨rfl, hJ3, hk3⟩ | ⟨rfl, hJx3⟩)
          · have HJ3 : Hid (J (fitsTo cs q T (j + 1)) W3) := Lib.hid (by rw [HS.out]; exact hJ3)
            have HB3 := Lib.hid (HB.out.keep hk3 h0 h1 h2)
            have hs3 : W.heap.size ≤ W3.heap.size := by have := hk3.size; omega
            clear hJ3 hk3
            gi_wp2
            gi_roundg g
            case measure => omega
            case rel => exact ⟨j + 1, by omega, by go_num, HB3.out, HJ3.out, hs3⟩
          · gi_wp2
            rw [Exit.noGoto_ret]
            refine bodyPost_ret (results_none rfl _ _ _) rfl ?_
            exact ⟨⟨_, rfl⟩, .inr ⟨_, HP.out, hJx3⟩⟩
        | succ g2 =>
          have hqm : q < m := by omega
          have hld := run_ldCut wr wo.heap.size 0 (sv :: N) (fun i u hu => by rw [Nat.zero_add, hblk.cell]; exact hu) h65
          have hfl := c.fewest_le q
          have hss := c.sum_succ q
          have hsl := c.sum_le q
          have HX : Hid (∀ w2, Below wr.heap.size wr w2 → FitBox w2 P m cs [vh, .int .i64 wn, .int .i64 sc, .int .i64 T, .slice AQ m cQ] (.slice (some ⟨b, o, none⟩) k cp) B ∧ J (fitsTo cs m T j) w2 ∧ wo.heap.size < w2.heap.size ∧ Blok w2 wo.heap.size 146 (sv :: N)) :=
            Lib.hid fun w2 hb2 => ⟨hbx.keep (Keep.of_below hb2 (fun i hi => by have := hp i hi; omega)) h0 h1 h2, hJ _ _ _ none hJx1 (below_grown hb2) (fun r e => by cases e), by have := hb2.size; omega, hblk.below hb2 hblk.size⟩
          have HSS := Lib.hid hss
          by_cases hfit : c.sum (q + 1) ≤ T
          · have hn : ¬ ((T : Int) - (c.sum q : Int) - (c.fewest q : Int) < 0) := by omega
            clear hbx hJx1 hblk hss hfit
            gi_wp2_with (refine ⟨trivial, ?_⟩; gi_at_call 82; refine (callsIn_wide.2 (fewest_cut c m sv N hsv HR4.out hcok q hqm hm _)).mono ?_; rintro e w2 ⟨rfl, hb2⟩)
            gi_roundg g2
            case measure => omega
            case rel => exact ⟨q + 1, by omega, by go_num, val_int (by rw [HSS.out]; omega), by rw [HSS.out]; omega, HX.out _ hb2⟩
          · have hn : (T : Int) - (c.sum q : Int) - (c.fewest q : Int) < 0 := by omega
            have hno : ¬ c.sum m ≤ T := by have := c.sum_mono (show q + 1 ≤ m by omega); omega
            have hsucc := fitsTo_succ cs m T j
            rw [fitAt_no cs m T j c HC.out hno] at hsucc
            simp only [Option.toList_none, List.append_nil] at hsucc
            have HS := Lib.hid hsucc
            clear hbx hJx1 hblk hss hfit hno hsucc
            gi_wp2_with (refine ⟨trivial, ?_⟩; gi_at_call 82; refine (callsIn_wide.2 (fewest_cut c m sv N hsv HR4.out hcok q hqm hm _)).mono ?_; rintro e w2 ⟨rfl, hb2⟩)
            gi_roundg g
            case measure => omega
            case rel => exact ⟨j + 1, by omega, by go_num, (HX.out _ hb2).1, by rw [HS.out]; exact (HX.out _ hb2).2.1, by have := hb2.size; omega⟩
end
section
open Go.RowKit

theorem outside_in (n lo hi : Int) (h1 : lo ≤ n) (h2 : n ≤ hi) (w : World) :
    Calls Tryz.prog 38 #[.int .i64 n, .int .i64 lo, .int .i64 hi] w fun e w' => e = .returned (.bool false) ∧ w = w' := by
  have h := outside_any n lo hi w
  rwa [show outB n lo hi = false by simp [outB]; omega] at h
theorem count_in (n lo hi : Int) (h1 : lo ≤ n) (h2 : n ≤ hi) (w : World) :
    Calls Tryz.prog 58 #[.int .i64 n, .int .i64 lo, .int .i64 hi] w fun e w' => e = .returned (.int .i64 0) ∧ w = w' := by
  have h := count_any n lo hi w
  rwa [show countE n lo hi = 0 by unfold countE; rw [if_neg (by omega), if_neg (by omega)]] at h

set_option maxHeartbeats 400000 in
theorem checkSquare_ok (v : Value) (q : List Light) (w : World) (hq : q.length ≤ 4) (hok : ∀ x ∈ q, x.ok) (hl : Lights w w.heap.size v q) :
    Calls Tryz.prog 80 #[v] w fun e w' => e = .returned (.int .i64 0) ∧ Below w.heap.size w w' := by
  obtain ⟨A, c, rfl, hA⟩ := hl
  obtain ⟨n, hn⟩ : ∃ n, n = q.length := ⟨_, rfl⟩
  rw [← hn] at hA hq ⊢
  have HN := Lib.hid hn
  clear hn
  go_enter Tryz.func80, Tryz.ntmps80
  go_wp2
  go_loopw [10] (fun i wr => ∃ k : Nat, k ≤ n ∧ i = .int .i64 k ∧ Below w.heap.size w wr) (fun i _ => n - (intOf i).toNat)
  case atStart => exact ⟨0, by omega, rfl, Below.refl _ _⟩
  case round =>
    obtain ⟨k, hk, rfl, hb⟩ := hrel
    by_cases hlt : k < n
    · obtain ⟨b, o, rfl, hB, hc⟩ := hA (by omega)
      have hkq : k < q.length := by rw [← HN.out]; exact hlt
      have hx := hok q[k] (List.getElem_mem hkq)
      obtain ⟨c1, c2⟩ := hc k q[k] (List.getElem?_eq_getElem hkq)
      have d1 := bcell hb hB c1
      have d2 := bcell hb hB c2
      have x1 := hx.1
      have x2 := hx.2.1
      have x3 : bits .andNot .i64 (q[k].seen : Int) (q[k].shows : Int) = 0 := by rw [andNot64 _ _ (by omega), hx.2.2]; rfl
      generalize q[k].shows = a at *
      generalize q[k].seen = s at *
      clear hc hA hx hok c1 c2
      go_wp2_with (go_at_call 38; refine (outside_in _ _ _ (by omega) (by omega) _).mono ?_; rintro e w' ⟨rfl, rfl⟩)
      go_roundw
      case rel => exact ⟨k + 1, by omega, by go_num, hb.alloc hb.size _⟩
      case measure => simp [intOf]; omega
    · obtain rfl : k = n := by omega
      go_wp2
      go_ret
      exact ⟨rfl, hb⟩

set_option maxHeartbeats 1000000 in
theorem checkHand_ok (v : Value) (h : Hand) (w : World) (hok : h.ok) (sv : Value) (hv : v = .agg #[.int .i64 h.low, .int .i64 h.high, sv]) (hs : Shapes w w.heap.size sv h.shapes) :
    Calls Tryz.prog 79 #[v] w fun e w' => e = .returned (.int .i64 0) ∧ Below w.heap.size w w' := by
  subst hv
  obtain ⟨A, c, rfl, hA⟩ := hs
  obtain ⟨n, hn⟩ : ∃ n, n = h.shapes.length := ⟨_, rfl⟩
  obtain ⟨y1, y2, y3, y4, y5, y6, y7⟩ := hok
  rw [← hn] at hA y4 y5 ⊢
  have HN := Lib.hid hn
  have H7 := Lib.hid y7
  clear hn y7
  go_enter Tryz.func79, Tryz.ntmps79
  go_wp2_with (first
    | (go_at_call 38; refine (outside_in _ _ _ (by omega) (by omega) _).mono ?_; rintro e w' ⟨rfl, rfl⟩)
    | (go_at_call 58; refine (count_in _ _ _ (by omega) (by omega) _).mono ?_; rintro e w' ⟨rfl, rfl⟩))
  go_loopw [32] (fun i wr => ∃ k : Nat, k ≤ n ∧ i = .int .i64 k ∧ Below (w.heap.size + 1) (w.alloc (.cells #[.int .i64 h.low, .int .i64 h.high, .slice A n c] 59)) wr) (fun i _ => n - (intOf i).toNat)
  case atStart => exact ⟨0, by omega, rfl, (Below.refl _ _).alloc (by simp) _⟩
  case round =>
    obtain ⟨k, hk, rfl, hb⟩ := hrel
    have hb0 : Below w.heap.size w wr := ((Below.refl _ _).alloc (Nat.le_refl _) _).trans (hb.mono (Nat.le_succ _))
    by_cases hlt : k < n
    · obtain ⟨b, o, rfl, hB, hc⟩ := hA (by omega)
      have hkq : k < h.shapes.length := by rw [← HN.out]; exact hlt
      have hx := y6 h.shapes[k] (List.getElem_mem hkq)
      obtain ⟨c1, c2⟩ := hc k h.shapes[k] (List.getElem?_eq_getElem hkq)
      have d1 := bcell hb0 hB c1
      have d2 := bcell hb0 hB c2
      obtain ⟨x1, x2, x3, x4⟩ := hx
      have bx := (Blok.new w 59 [.int .i64 h.low, .int .i64 h.high, .slice (some ⟨b, o, none⟩) n c]).below hb (by omega)
      have s0 := bx.size
      have l2 : wr.cell? ⟨w.heap.size, 2, none⟩ = some (.slice (some ⟨b, o, none⟩) n c) := bx.cell 2
      have HB := Lib.hid hb
      by_cases hk0 : k = 0
      · subst hk0
        simp only [Nat.zero_mul, Nat.add_zero] at d1 d2
        generalize h.shapes[0].letter = a at *
        generalize h.shapes[0].strokes = s at *
        clear hc hA c1 c2 hb hb0 bx
        go_wp2_with (go_at_call 38; refine (outside_in _ _ _ (by omega) (by omega) _).mono ?_; rintro e w' ⟨rfl, rfl⟩)
        go_quiet (fail)
        go_wp2
        go_roundw
        case rel => exact ⟨1, by omega, by go_num, below_drewN (HB.out.alloc (by omega) _) _⟩
        case measure => simp [intOf]; omega
      · have hpq : k - 1 < h.shapes.length := by omega
        obtain ⟨c3, _⟩ := hc (k - 1) h.shapes[k - 1] (List.getElem?_eq_getElem hpq)
        have d3 := bcell hb0 hB c3
        have hlt2 : h.shapes[k - 1].letter < h.shapes[k].letter := List.pairwise_iff_getElem.1 H7.out (k - 1) k hpq hkq (by omega)
        generalize h.shapes[k].letter = a at *
        generalize h.shapes[k].strokes = s at *
        generalize h.shapes[k - 1].letter = a' at *
        have hd : decide (a ≤ a') = false := by simp; omega
        have hk1 : 0 < k := by omega
        have hbw : b < wr.heap.size := by omega
        have i1 : (0 : Int) ≤ (k : Int) - 1 := by omega
        have i2 : (k : Int) - 1 < n := by omega
        clear hc hA c1 c2 c3 hb hb0 bx
        go_wp2_with (go_at_call 38; refine (outside_in _ _ _ (by omega) (by omega) _).mono ?_; rintro e w' ⟨rfl, rfl⟩)
        have w1 : IntKind.i64.wrap ((k : Int) - 1) = (k : Int) - 1 := IntWalk.i64_in _ (by omega)
        have w2 : ((k : Int) - 1).toNat = k - 1 := by omega
        go_quiet (fail)
        clear w1 w2
        go_wp2
        go_roundw
        case rel => exact ⟨k + 1, by omega, by go_num, below_drewN (HB.out.alloc (by omega) _) _⟩
        case measure => simp [intOf]; omega
    · obtain rfl : k = n := by omega
      go_wp2
      go_ret
      exact ⟨rfl, hb0⟩

/-- Within Check: what lay is as it was, the box of the line too. -/
def CheckI (w : World) (l : List Value) (wr : World) : Prop := Below (w.heap.size + 1) (w.alloc (.cells l.toArray 51)) wr
theorem CheckI.below {w : World} {l : List Value} {wr : World} (h : CheckI w l wr) : Below w.heap.size w wr := ((Below.refl _ _).alloc (Nat.le_refl _) _).trans (Below.mono h (Nat.le_succ _))
theorem CheckI.blok {w : World} {l : List Value} {wr : World} (h : CheckI w l wr) : Blok wr w.heap.size 51 l := (Blok.new w 51 l).below h (Nat.lt_succ_self _)
theorem CheckI.size {w : World} {l : List Value} {wr : World} (h : CheckI w l wr) : w.heap.size < wr.heap.size := h.blok.size
theorem CheckI.alloc {w : World} {l : List Value} {wr : World} (h : CheckI w l wr) (o : Obj) : CheckI w l (wr.alloc o) := Below.alloc h (by have := h.size; omega) o
theorem CheckI.next {w : World} {l : List Value} {wr w1 : World} (h : CheckI w l wr) (hb : Below wr.heap.size wr w1) : CheckI w l w1 := Below.trans h (hb.mono (by have := h.size; omega))

set_option maxHeartbeats 2000000 in
theorem check_ok (v : Value) (L : Line) (w : World) (hL : L.ok) (hv : LineAt w w.heap.size v L) :
    Calls Tryz.prog 66 #[v] w fun e w' => e = .returned (.int .i64 0) ∧ Below w.heap.size w w' := by
  obtain ⟨vh, vs, rfl, hh, hq⟩ := hv
  obtain ⟨A, c, rfl, hA⟩ := hh
  obtain ⟨AQ, cQ, rfl, hQ⟩ := hq
  obtain ⟨y1, y2, y3, y4, y5, y6, y7, y8, y9⟩ := hL
  obtain ⟨n, hn⟩ : ∃ n, n = L.hands.length := ⟨_, rfl⟩
  obtain ⟨m, hm⟩ : ∃ m, m = L.squares.length := ⟨_, rfl⟩
  rw [← hn] at hA y1 y2 ⊢
  rw [← hm] at hQ y7 y8 ⊢
  have HN := Lib.hid hn
  have HM := Lib.hid hm
  have H3 := Lib.hid y3
  have H9 := Lib.hid y9
  clear hn hm y3 y9
  go_enter Tryz.func66, Tryz.ntmps66
  go_wp2_with (go_at_call 58; refine (count_in _ _ _ (by omega) (by omega) _).mono ?_; rintro e w' ⟨rfl, rfl⟩)
  go_loopw [21] (fun i wr => ∃ k : Nat, k ≤ n ∧ i = .int .i64 k ∧ CheckI w [.slice A n c, .int .i64 L.worn, .int .i64 L.scr, .int .i64 L.total, .slice AQ m cQ] wr) (fun i _ => n - (intOf i).toNat)
  case atStart => exact ⟨0, by omega, rfl, Below.refl _ _⟩
  case round =>
    obtain ⟨k, hk, rfl, hI⟩ := hrel
    by_cases hlt : k < n
    · obtain ⟨b, o, rfl, hB, hc⟩ := hA (by omega)
      have hkq : k < L.hands.length := by rw [← HN.out]; exact hlt
      obtain ⟨h, hh⟩ : ∃ h, L.hands[k]? = some h := ⟨_, List.getElem?_eq_getElem hkq⟩
      obtain ⟨d1, d2, sv, d3, hsv⟩ := hc k h hh
      have hb0 := hI.below
      have d1 := bcell hb0 hB d1
      have d2 := bcell hb0 hB d2
      have d3 := bcell hb0 hB d3
      have HSV := Lib.hid hsv
      obtain ⟨As, cs, rfl, -⟩ := hsv
      have HO := Lib.hid (H3.out h (List.mem_of_getElem? hh))
      have HI := Lib.hid hI
      clear hc hA hh hI hb0
      go_wp2_with (go_at_call 79; refine (checkHand_ok _ h _ HO.out _ rfl (HSV.out.keep (Same.of_below (HI.out.alloc _).below) (HI.out.alloc _).below.size)).mono ?_; rintro e w1 ⟨rfl, hb1⟩)
      go_roundw
      case rel => exact ⟨k + 1, by omega, by go_num, (HI.out.alloc _).next hb1⟩
      case measure => simp [intOf]; omega
    · obtain rfl : k = n := by omega
      have l1 : wr.cell? ⟨w.heap.size, 1, none⟩ = some (.int .i64 L.worn) := hI.blok.cell 1
      have l2 : wr.cell? ⟨w.heap.size, 2, none⟩ = some (.int .i64 L.scr) := hI.blok.cell 2
      have l3 : wr.cell? ⟨w.heap.size, 3, none⟩ = some (.int .i64 L.total) := hI.blok.cell 3
      have l4 : wr.cell? ⟨w.heap.size, 4, none⟩ = some (.slice AQ m cQ) := hI.blok.cell 4
      have HI := Lib.hid hI
      clear hI
      go_wp2_with (first
        | (go_at_call 38; refine (outside_in _ _ _ (by omega) (by omega) _).mono ?_; rintro e w' ⟨rfl, rfl⟩)
        | (go_at_call 58; refine (count_in _ _ _ (by omega) (by omega) _).mono ?_; rintro e w' ⟨rfl, rfl⟩))
      go_loopw [54] (fun i wx => ∃ j : Nat, j ≤ m ∧ i = .int .i64 j ∧ CheckI w [.slice A k c, .int .i64 L.worn, .int .i64 L.scr, .int .i64 L.total, .slice AQ m cQ] wx) (fun i _ => m - (intOf i).toNat)
      case atStart => exact ⟨0, by omega, rfl, HI.out⟩
      case round =>
        clear l1 l2 l3 l4
        obtain ⟨j, hj, rfl, hI⟩ := hrel
        by_cases hjm : j < m
        · obtain ⟨b, o, rfl, hB, hc⟩ := hQ (by omega)
          have hjq : j < L.squares.length := by rw [← HM.out]; exact hjm
          obtain ⟨q, hq⟩ : ∃ q, L.squares[j]? = some q := ⟨_, List.getElem?_eq_getElem hjq⟩
          obtain ⟨lv, d1, hlv⟩ := hc j q hq
          have d1 := bcell hI.below hB d1
          have HO := Lib.hid (H9.out q (List.mem_of_getElem? hq))
          have HLV := Lib.hid (hlv.keep (Same.of_below hI.below) hI.below.size)
          have HJ := Lib.hid hI
          clear hc hQ hq hI hlv
          go_wp2_with (go_at_call 80; refine (checkSquare_ok _ q _ HO.out.1 HO.out.2 HLV.out).mono ?_; rintro e w1 ⟨rfl, hb1⟩)
          go_roundw
          case rel => exact ⟨j + 1, by omega, by go_num, HJ.out.next hb1⟩
          case measure => simp [intOf]; omega
        · obtain rfl : j = m := by omega
          go_wp2
          go_ret
          exact ⟨rfl, hI.below⟩
end
section
open Go.RowKit Go.Shelf

attribute [local go_sem] Oper.semAt_some

/-- What fitting hands back, as an iterator. -/
theorem fitting_stops (n : Nat) (hn : 1 ≤ n) (m B T : Nat) (P : Nat → Prop) (cs : List Cutter) (vh : Value) (wn sc : Nat) (AQ : Option Addr) (cQ : Nat) (cv : Value) (p : Nat → Prop) (hcs : cs.length ≤ 4) (hok : ∀ c ∈ cs, c.ok) (hm : m ≤ 8) (hT : T ≤ 40)
    (h0 : ∀ k, P k → p k) (h1 : p B) (h2 : p (B + 1)) (w : World) (hp : ∀ k, p k → k < w.heap.size) (hbox : FitBox w P m cs [vh, .int .i64 wn, .int .i64 sc, .int .i64 T, .slice AQ m cQ] cv B) :
    SeqStopsK Fence.wide n Tryz.prog 81 #[.pointer (some ⟨B + 1, 0, none⟩), .pointer (some ⟨B, 0, none⟩)] (fun x : Fit cs m T => #[.int .i64 x.1.1, .int .i64 x.1.2]) (Keep p)
      (fun ys => ys = fits cs m T) (fun pre => pre <+: fits cs m T) cs.length w := fun l J Jx W hW hJ _ hY hj =>
  fitting1_in n hn l m B T P cs vh wn sc AQ cQ cv p hcs hok hm hT h0 h1 h2 J Jx hY W hJ (fun k hk => Nat.lt_of_lt_of_le (hp k hk) hW.size)
    (hbox.keep (p := p) ⟨hW.os, hW.tape, hW.output, hW.size, fun k hk => hW.block k (hp k hk)⟩ h0 h1 h2) hj

set_option maxHeartbeats 400000 in
/-- sight.fitting: an iterator. -/
theorem fitting_any (l : List Value) (cv : Value) (hcv : cv.oneCell' = true) (w : World) :
    Calls Tryz.prog 67 #[.agg l.toArray, cv] w fun e w' =>
      e = .returned (.func (.func 81) #[] #[.pointer (some ⟨w.heap.size + 1, 0, none⟩), .pointer (some ⟨w.heap.size, 0, none⟩)]) ∧
      w' = (w.alloc (.cells l.toArray 51)).alloc (.cells #[cv] 127) := by
  have hc : cv.cells = #[cv] := by cases cv <;> first | rfl | cases hcv
  go_enter Tryz.func67, Tryz.ntmps67
  go_wp2
  go_ret
  exact ⟨rfl, rfl⟩

theorem Keep.of_grown {p : Nat → Prop} {w w' : World} {row : Option Nat} (hg : w.grownBy w' row) (hp : ∀ k, p k → k < w.heap.size) (hr : ∀ r, row = some r → ¬ p r) : Keep p w w' :=
  ⟨hg.os, hg.tape, hg.output, hg.size, fun k hk => hg.block k (hp k hk) (fun e => hr k e.symm hk)⟩
theorem Keep.putObj {p : Nat → Prop} {B : Nat} (hp : ∀ k, p k → k < B) (W : World) (l : Nat) (o o' : Obj) (hl : B ≤ l) (h : W.heap[l]? = some o) (_ : o.isCells = false) (_ : o.isWalk = false) : Keep p W (W.putObj l o') :=
  Keep.of_grown (grownBy_putObj' W l o') (fun k hk => by have := hp k hk; have := (Array.getElem?_eq_some_iff.1 h).1; omega) (fun r e hr => by cases e; have := hp _ hr; omega)
theorem Keep.below {p : Nat → Prop} {B : Nat} {w w' : World} (h : Keep p w w') (hB : ∀ k, k < B → p k) : Below B w w' := ⟨h.os, h.tape, h.output, h.size, fun k hk => h.block k (hB k hk)⟩
theorem Blok.grown {w w' : World} {g : Nat} {t : TypeId} {cs : List Value} {row : Option Nat} (h : Blok w g t cs) (hg : w.grownBy w' row) (hr : row ≠ some g) : Blok w' g t cs := (hg.block g h.size (fun e => hr e.symm)).trans h
theorem own_ne {w : World} {base : Nat} {e t : TypeId} {size n g : Nat} {v : Value} {xs cs : List Value} (h : w.ownsRow base e size v n xs) (hb : Blok w g t cs) (hne : e ≠ t) : v.ownBlock ≠ some g := by
  rcases h.2 with ⟨rfl, _⟩ | ⟨g', cap, cur, rfl, _, hh, _⟩
  · simp [Value.ownBlock]
  · intro he
    have e1 : g' = g := by simpa [Value.ownBlock] using he
    subst e1
    unfold Blok at hb
    rw [hh] at hb
    injection hb with hb
    injection hb with _ ht
    exact hne ht
/-- A loop that collects: what its round may be handed. -/
def Collect {β : Type} (p : Nat → Prop) (W5 : World) (hb : Nat) (t e : TypeId) (base : Nat) (f : β → Value) (pre : List β) (W : World) : Prop :=
  Keep p W5 W ∧ ∃ v, Blok W hb t [v] ∧ W.ownsRow base e 1 v pre.length (pre.map f)
theorem collect_own {β : Type} {p : Nat → Prop} {W5 : World} {hb : Nat} {t e : TypeId} {base : Nat} {f : β → Value} (hp : ∀ k, p k → k < W5.heap.size) : OwnFrom W5.heap.size (Collect (β := β) p W5 hb t e base f) := by
  rintro s A B row ⟨hk, v, hv, ho⟩ hg hr
  refine ⟨hk.trans (Keep.of_grown hg (fun k h => Nat.lt_of_lt_of_le (hp k h) hk.size) (fun r e h => ?_)), v, hv.grown hg (fun e => ?_), ho.kept hg ?_⟩
  · have := (hr r e).1
    have := hp r h
    omega
  · obtain ⟨_, o, ho, hc⟩ := hr _ e
    unfold Blok at hv
    rw [ho] at hv
    cases hv
    cases hc
  · rcases ho.2 with ⟨rfl, _⟩ | ⟨g, cap, cur, rfl, _, hh, _⟩
    · exact .inl rfl
    · refine .inr fun e => ?_
      obtain ⟨_, o, ho', hc⟩ := hr g e.symm
      rw [hh] at ho'
      cases ho'
      cases hc

theorem collect_step {β : Type} {p : Nat → Prop} {W5 W w3 : World} {hb : Nat} {t e : TypeId} {f : β → Value} {pre : List β} {x : β} {v v' : Value} (hp : ∀ k, p k → k < W5.heap.size) (hh : ¬ p hb) (hne' : e ≠ t) (hk : Keep p W5 W) (hv : Blok W hb t [v]) (hown : W.ownsRow W5.heap.size e 1 v pre.length (pre.map f))
    (o : Obj) (hgrow : (W.alloc o).grownBy w3 v.ownBlock) (hown' : w3.ownsRow W5.heap.size e 1 v' (pre.length + 1) (pre.map f ++ [f x])) :
    KeepsFrom W5.heap.size W (w3.setCell ⟨hb, 0, none⟩ v') ∧ Keep p W (w3.setCell ⟨hb, 0, none⟩ v') ∧ Collect p W5 hb t e W5.heap.size f (pre ++ [x]) (w3.setCell ⟨hb, 0, none⟩ v') := by
  have hne : v.ownBlock ≠ some hb := own_ne hown hv hne'
  have hv3 := (hv.alloc o).grown hgrow hne
  have hk3 : Keep p W (w3.setCell ⟨hb, 0, none⟩ v') := by
    have k1 : Keep p W (W.alloc o) := Keep.of_below ((Below.refl _ _).alloc (Nat.le_refl _) _) (fun k h => Nat.lt_of_lt_of_le (hp k h) hk.size)
    have k2 : Keep p (W.alloc o) w3 := Keep.of_grown hgrow (fun k h => by have := hp k h; have := hk.size; simp; omega) (fun r e h => by have := (hown.lt r e).1; have := hp r h; omega)
    have k3 : Keep p w3 (w3.setCell ⟨hb, 0, none⟩ v') := ⟨rfl, rfl, rfl, by simp [World.setCell], fun k h => heap_setCell_other w3 _ k v' (fun e => hh (by have e' : k = hb := e; rw [← e']; exact h))⟩
    exact (k1.trans k2).trans k3
  refine ⟨?_, hk3, hk.trans hk3, v', ?_, ?_⟩
  · refine KeepsOthers.from (((KeepsOthers.alloc W o).trans (KeepsOthers.of_grownBy hgrow ?_)).trans (KeepsOthers.setCell _ _ _)) _
    intro j o' hj ho'
    rcases (hown.alloc o).2 with ⟨rfl, _⟩ | ⟨g, cap, cur, rfl, _, hg, _⟩
    · simp [Value.ownBlock] at hj
    · simp [Value.ownBlock] at hj
      subst hj
      rw [hg] at ho'
      cases ho'
      rfl
  · have := hv3.put 0 v'
    exact this
  · rw [List.length_append, List.map_append]
    refine ownsRow_setCell_other hown' (fun e => ?_) _
    rcases hown'.2 with ⟨rfl, h0⟩ | ⟨g, cap, cur, rfl, _, hg, _⟩
    · omega
    · simp [Value.ownBlock] at e
      subst e
      unfold Blok at hv3
      rw [hg] at hv3
      injection hv3 with hv3
      injection hv3 with _ ht
      exact hne' ht

/-- The numbers of the hands that fit. -/
def handsOf (L : Line) : List Nat := (fits (cuttersOf L) L.squares.length L.total).map fun x => x.1.1
def Ints (w : World) (B : Nat) (v : Value) (l : List Nat) : Prop := Sl B v l.length (intsR w l)
theorem ints_of_own {w : World} {base : Nat} {t : TypeId} {v : Value} {l : List Nat} (h : w.ownsRow base t 1 v l.length (l.map fun (n : Nat) => .int .i64 n)) : Ints w w.heap.size v l := by
  rcases h.2 with ⟨rfl, hn⟩ | ⟨g, cap, cur, rfl, hbg, hg, hcap, _, hsz, htake⟩
  · exact ⟨none, 0, by rw [hn], fun h0 => by omega⟩
  · refine ⟨_, _, rfl, fun _ => ⟨g, 0, rfl, (Array.getElem?_eq_some_iff.1 hg).1, fun k x hx => ?_⟩⟩
    have hk : k < l.length := (List.getElem?_eq_some_iff.1 hx).1
    have h8 : (List.take (l.length * 1) cur.toList)[k]? = some (.int .i64 x) := by rw [htake, List.getElem?_map, hx]; rfl
    rw [List.getElem?_take, if_pos (by omega)] at h8
    rw [cell_of_row w g _ cur t (0, 0) hg, Nat.zero_add]
    simpa using h8
/-- A slice that is no longer than its room. -/
def HasCap (v : Value) : Prop := ∀ A n c, v = .slice A n c → n ≤ c
theorem own_cap {w : World} {base n size : Nat} {e : TypeId} {v : Value} {xs : List Value} (h : w.ownsRow base e size v n xs) : HasCap v := by
  intro A m c hv
  rcases h.2 with ⟨rfl, h0⟩ | ⟨g, cap, cur, rfl, _, _, hcap, _⟩
  · injection hv with _ h1 h2
    omega
  · injection hv with _ h1 h2
    omega
/-- Hands answers ErrClash, or the numbers. -/
def HandsPost (L : Line) (w : World) (e : Ending) (w' : World) : Prop :=
  Below w.heap.size w w' ∧ ((handsOf L = [] ∧ e = .returned (.tuple #[.slice none 0 0, .int .i64 9])) ∨ (handsOf L ≠ [] ∧ ∃ v, e = .returned (.tuple #[v, .int .i64 0]) ∧ Ints w' w'.heap.size v (handsOf L) ∧ HasCap v))

theorem info_int : (Tryz.prog.info? 3).map (fun i => (i.zero, i.size, i.bytes)) = some (some (.int .i64 0), 1, 8) := by kernel_rfl

set_option maxRecDepth 100000 in
set_option maxHeartbeats 2000000 in
theorem hands_any (v : Value) (L : Line) (w : World) (hL : L.ok) (hv : LineAt w w.heap.size v L) :
    Calls Tryz.prog 50 #[v] w (HandsPost L w) := by
  have HL := Lib.hid hL
  have HV := Lib.hid hv
  obtain ⟨vh, vs, rfl, hh, hq⟩ := hv
  obtain ⟨A, c, rfl, -⟩ := hh
  obtain ⟨AQ, cQ, rfl, -⟩ := hq
  refine (callsIn_wide (n := 3)).1 ?_
  refine callsIn_of_wp_marks Tryz.func50 rfl trivial ?_ rfl
  simp only [Tryz.ntmps50, List.size_toArray, List.length_cons, List.length_nil, Nat.reduceAdd, Nat.reduceSub, Array.replicate_succ, Array.replicate_zero, List.push_toArray, List.append_toArray, List.nil_append, List.cons_append]
  refine wpIn_wide.2 ?_
  go_wp2_with (go_at_call 66; refine (check_ok _ L _ HL.out (HV.out.keep (Same.of_below ((Below.refl _ _).alloc (Nat.le_refl _) _)) (by simp))).mono ?_; rintro e w1 ⟨rfl, hb1⟩)
  have hbx := (Blok.new w 51 [.slice A L.hands.length c, .int .i64 L.worn, .int .i64 L.scr, .int .i64 L.total, .slice AQ L.squares.length cQ]).below hb1 (by simp)
  have l0 : w1.cell? ⟨w.heap.size, 0, none⟩ = some (.slice A L.hands.length c) := hbx.cell 0
  have l1 : w1.cell? ⟨w.heap.size, 1, none⟩ = some (.int .i64 L.worn) := hbx.cell 1
  have l2 : w1.cell? ⟨w.heap.size, 2, none⟩ = some (.int .i64 L.scr) := hbx.cell 2
  have l3 : w1.cell? ⟨w.heap.size, 3, none⟩ = some (.int .i64 L.total) := hbx.cell 3
  have l4 : w1.cell? ⟨w.heap.size, 4, none⟩ = some (.slice AQ L.squares.length cQ) := hbx.cell 4
  have z1 := hbx.size
  have HB1 : Hid (Below w.heap.size w w1) := Lib.hid (((Below.refl _ _).alloc (Nat.le_refl _) _).trans (hb1.mono (by simp)))
  clear hbx hb1 hL
  go_region_held3 (fun w' => w'.cell? ⟨w.heap.size, 0, none⟩ = some (.slice A L.hands.length c) ∧ w'.cell? ⟨w.heap.size, 1, none⟩ = some (.int .i64 L.worn) ∧ w'.cell? ⟨w.heap.size, 2, none⟩ = some (.int .i64 L.scr) ∧ w'.cell? ⟨w.heap.size, 3, none⟩ = some (.int .i64 L.total) ∧ w'.cell? ⟨w.heap.size, 4, none⟩ = some (.slice AQ L.squares.length cQ))
    (first
      | go_keep
      | (refine ⟨?_, ?_, ?_, ?_, ?_⟩ <;> (refine (hb2.cell (p := ⟨_, _, none⟩) (by simp; try omega)).trans ?_; simp [*])))
    (first
      | (go_at_call 68; refine (cutters_any _ L _ w.heap.size (by simp; omega) HL.out (HV.out.keep (Same.of_below ((HB1.out.alloc HB1.out.size _).drew)) (Nat.le_refl _))).mono ?_; rintro e w2 ⟨cv, rfl, hcut, hb2⟩; have HCUT := Lib.hid hcut; obtain ⟨Ac, cc, rfl, -⟩ := hcut; have hz2 : w.heap.size < w2.heap.size := (by have := hb2.size; simp at this; omega))
      | (go_at_call 67; refine (fitting_any [.slice A L.hands.length c, .int .i64 L.worn, .int .i64 L.scr, .int .i64 L.total, .slice AQ L.squares.length cQ] _ rfl _).mono ?_; rintro e w3 ⟨rfl, rfl⟩))
  go_wp2_with fail
  refine (wpIn_wide (n := 3)).1 ?_
  have hcok : ∀ c ∈ cuttersOf L, c.ok := cutterOf_ok L HL.out
  have hcl : (cuttersOf L).length ≤ 4 := by simp [cuttersOf]; exact HL.out.2.1
  have hm8 : L.squares.length ≤ 8 := HL.out.2.2.2.2.2.2.2.1
  have hw1 := HB1.out.size
  have hs2 : w1.heap.size + 1 ≤ w2.heap.size := by have := hb2.size; simp at this; exact this
  have hv0 : Blok w2 w1.heap.size 22 [.slice none 0 0] := ((Blok.new w1 22 [.slice none 0 0]).drewN 1).below hb2 (by simp)
  obtain ⟨W5, hW5⟩ : ∃ W5, (w2.alloc (.cells #[.slice A L.hands.length c, .int .i64 L.worn, .int .i64 L.scr, .int .i64 L.total, .slice AQ L.squares.length cQ] 51)).alloc (.cells #[.slice Ac (cuttersOf L).length cc] 127) = W5 := ⟨_, rfl⟩
  have h25 : Below w2.heap.size w2 W5 := by rw [← hW5]; exact ((Below.refl _ _).alloc (Nat.le_refl _) _).alloc (by simp) _
  have hs5 : W5.heap.size = w2.heap.size + 2 := by rw [← hW5]; simp
  have hline : Blok W5 w2.heap.size 51 [.slice A L.hands.length c, .int .i64 L.worn, .int .i64 L.scr, .int .i64 L.total, .slice AQ L.squares.length cQ] := by
    rw [← hW5]; exact (Blok.new w2 _ _).alloc _
  have hcuts : Blok W5 (w2.heap.size + 1) 127 [.slice Ac (cuttersOf L).length cc] := by
    have := Blok.new (w2.alloc (.cells #[.slice A L.hands.length c, .int .i64 L.worn, .int .i64 L.scr, .int .i64 L.total, .slice AQ L.squares.length cQ] 51)) 127 [.slice Ac (cuttersOf L).length cc]
    rw [World.size_alloc] at this
    rw [← hW5]; exact this
  rw [hW5]
  have hbox : FitBox W5 (fun k => k < w.heap.size ∨ w1.heap.size + 1 + 1 ≤ k ∧ k < w2.heap.size) L.squares.length (cuttersOf L) [.slice A L.hands.length c, .int .i64 L.worn, .int .i64 L.scr, .int .i64 L.total, .slice AQ L.squares.length cQ] (.slice Ac (cuttersOf L).length cc) w2.heap.size := by
    refine ⟨hline, hcuts, HCUT.out.keep (fun b o hb => h25.cell (p := ⟨b, o, none⟩) (show b < w2.heap.size by simp at hb; omega)) (fun b hb => by simpa using hb)⟩
  have hp : ∀ k, (k < W5.heap.size ∧ k ≠ w1.heap.size) → k < W5.heap.size := fun k h => h.1
  have hv5 := hv0.below h25 (by omega)
  have hown0 : W5.ownsRow W5.heap.size 3 1 (.slice none 0 0) 0 [] := World.ownsRow_nil _ _ _ _
  obtain ⟨i0, hi, hz0, hz1, hz2⟩ := info_parts info_int
  clear hW5 l0 l1 l2 l3 l4
  refine wpIn_rangeFunc_ownG rfl (by omega) (gf := 81) (lb := #[.pointer (some ⟨w2.heap.size + 1, 0, none⟩), .pointer (some ⟨w2.heap.size, 0, none⟩)]) rfl trivial (enters_of Tryz.func81 (by kernel_rfl) rfl)
    (fitting_stops (3 - 1) (by omega) L.squares.length w2.heap.size L.total _ (cuttersOf L) (.slice A L.hands.length c) L.worn L.scr AQ cQ (.slice Ac (cuttersOf L).length cc) (fun k => k < W5.heap.size ∧ k ≠ w1.heap.size) hcl hcok hm8 (HL.out.2.2.2.2.2.1) (fun k hk => by omega) (by omega) (by omega) W5 hp hbox)
    Keep.trans (Keep.putObj hp) (Below.refl _ _) (fun _ => rfl)
    (Collect (fun k => k < W5.heap.size ∧ k ≠ w1.heap.size) W5 w1.heap.size 22 3 W5.heap.size (fun x : Fit (cuttersOf L) L.squares.length L.total => .int .i64 x.1.1))
    (fun _ _ _ => False) (collect_own hp) (fun _ _ _ _ _ hs _ _ => hs) ⟨Keep.refl _ _, _, hv5, hown0⟩
    (fun x => { tmps := #[.agg #[.slice A L.hands.length c, .int .i64 L.worn, .int .i64 L.scr, .int .i64 L.total, .slice AQ L.squares.length cQ], .pointer (some ⟨w.heap.size, 0, none⟩), .slice none 0 0, .int .i64 0, .int .i64 0, .pointer (some ⟨w1.heap.size, 0, none⟩), .int .i64 x.1.1,
      .agg #[.slice A L.hands.length c, .int .i64 L.worn, .int .i64 L.scr, .int .i64 L.total, .slice AQ L.squares.length cQ], .int .i64 0, .int .i64 0, .bool false, undef,
      .agg #[.slice A L.hands.length c, .int .i64 L.worn, .int .i64 L.scr, .int .i64 L.total, .slice AQ L.squares.length cQ], .agg #[.slice A L.hands.length c, .int .i64 L.worn, .int .i64 L.scr, .int .i64 L.total, .slice AQ L.squares.length cQ],
      .slice Ac (cuttersOf L).length cc, .func (.func 81) #[] #[.pointer (some ⟨w2.heap.size + 1, 0, none⟩), .pointer (some ⟨w2.heap.size, 0, none⟩)], .int .i64 x.1.1, .int .i64 x.1.2, undef, undef, undef, undef, undef, undef, undef, undef], defers := [] }) ?assign ?body ?done ?stop
  case assign =>
    intro l x W K hK
    gi_wp2
    exact hK
  case body =>
    rintro l pre x W ⟨hk, v, hv, hown⟩ hlen
    have hcv : W.cell? ⟨w1.heap.size, 0, none⟩ = some v := hv.cell 0
    have hne : v.ownBlock ≠ some w1.heap.size := own_ne hown hv (by decide)
    have hz := hv.size
    have hkz := hk.size
    gi_wp2_with (gi_at_builtin; refine wpListIn_append_own _ rfl _ _ 22 rfl W5.heap.size 3 i0 (.int .i64 0) 1 8 Tryz.underlying22 hi hz0 hz1 hz2 rfl (by decide) v pre.length _ (by rfl) (hown.alloc _) ⟨W.heap.size, 0, none⟩ 1 1 [.int .i64 x.1.1] rfl rfl (cell_one_new _ _ _) (by simp [Value.oneCell']) (by unfold maxLen; omega) (by omega) (by simp; omega) ?_; intro v' w3 hown' hgrow _; obtain ⟨g', cap', rfl⟩ := ownsRow_succ hown'; have hv3 := (hv.alloc (.cells #[.int .i64 x.1.1] 3)).grown hgrow hne; have hc3 := hv3.cell 0; have hf3 := hv3.free 0)
    exact collect_step hp (by omega) (by decide) hk hv hown _ hgrow hown'
  case done =>
    rintro D xs W hD rfl ⟨hk, v, hv, hown⟩ hK
    obtain ⟨n, hn⟩ : ∃ n, n = (fits (cuttersOf L) L.squares.length L.total).length := ⟨_, rfl⟩
    have HN := Lib.hid hn
    have HO := Lib.hid hown
    rw [← hn] at hown
    have hform : ∃ Av cv, v = .slice Av n cv := by
      rcases hown.2 with ⟨rfl, h0⟩ | ⟨g, cap, cur, rfl, _⟩
      · exact ⟨none, 0, by rw [h0]⟩
      · exact ⟨_, _, rfl⟩
    obtain ⟨Av, cv, rfl⟩ := hform
    have hcv : W.cell? ⟨w1.heap.size, 0, none⟩ = some (.slice Av n cv) := hv.cell 0
    have hB : Below w.heap.size w (W.putObj D (.deferred none)) := by
      have hB5 : Below w.heap.size w W5 := (HB1.out.trans ((((Below.refl _ _).alloc hw1 _).drew.trans ((hb2.mono (by simp; omega)))))).trans (h25.mono (by omega))
      exact (hB5.trans (hk.below (fun k hk => by omega))).trans (belowK_b (w := W5) (by omega) W D _ _ hD hK rfl rfl)
    have HB := Lib.hid hB
    have HK := Lib.hid hk
    clear hk hB hown hn
    by_cases h0 : n = 0
    · have h0' : ((n : Int) == 0) = true := by simp [h0]
      have hnil : handsOf L = [] := by
        have : (handsOf L).length = 0 := by unfold handsOf; rw [List.length_map, ← HN.out, h0]
        exact List.eq_nil_of_length_eq_zero this
      have HNIL := Lib.hid hnil
      clear h0 hnil
      go_wp2
      refine ⟨by simp, .inl ⟨_, _, rfl, run_takeDeferred hK, ?_⟩⟩
      refine ⟨_, by simp [results, Tryz.results50, go_sem]; rfl, ?_⟩
      exact ⟨HB.out, .inl ⟨HNIL.out, rfl⟩⟩
    · have h0' : ((n : Int) == 0) = false := by simpa using h0
      go_wp2
      refine ⟨by simp, .inl ⟨_, _, rfl, run_takeDeferred hK, ?_⟩⟩
      refine ⟨_, by simp [results, Tryz.results50, go_sem]; rfl, ?_⟩
      have hlen : (handsOf L).length = n := by unfold handsOf; rw [List.length_map, ← HN.out]
      have ho := ownsRow_putObj HO.out (.deferred none) hK rfl
      have hmap : (fits (cuttersOf L) L.squares.length L.total).map (fun x => Value.int .i64 x.1.1) = (handsOf L).map fun (n : Nat) => Value.int .i64 n := by unfold handsOf; rw [List.map_map]; rfl
      rw [← HN.out, hmap, ← hlen] at ho
      refine ⟨HB.out, .inr ⟨fun e => h0 (by rw [← hlen, e]; rfl), _, rfl, ?_⟩⟩
      rw [← hlen]
      exact ⟨ints_of_own ho, own_cap ho⟩
  case stop =>
    rintro D c pre W _ _ h _
    exact h.elim
end
section
open Go.RowKit Go.Shelf

set_option maxHeartbeats 400000 in
/-- sight.least at int, of two numbers. -/
theorem least_two (a x : Int) (b c : Nat) (w : World) (hc : w.cell? ⟨b, 0, none⟩ = some (.int .i64 x)) :
    Calls Tryz.prog 51 #[.int .i64 a, .slice (some ⟨b, 0, none⟩) 1 c] w fun e w' => e = .returned (.int .i64 (min a x)) ∧ w = w' := by
  go_enter Tryz.func51, Tryz.ntmps51
  go_wp2
  go_loop [0, 9] (fun v i => ∃ k : Nat, k ≤ 1 ∧ i = .int .i64 k ∧ v = .int .i64 (if k = 0 then a else min a x)) (fun _ i => 1 - (intOf i).toNat)
  case atStart => exact ⟨0, by omega, rfl, rfl⟩
  case round =>
    obtain ⟨k, hk, rfl, rfl⟩ := hrel
    by_cases hlt : k < 1
    · obtain rfl : k = 0 := by omega
      simp only [if_true]
      go_wp2
      go_round
      case rel => exact ⟨1, by omega, by go_num, val_int (by simp; split <;> omega)⟩
      case measure => simp [intOf]
    · obtain rfl : k = 1 := by omega
      have e : (if (1 : Nat) = 0 then a else min a x) = min a x := by simp
      rw [e]
      clear e
      go_wp2
      go_ret
      exact ⟨rfl, rfl⟩
def lowOf (L : Line) (h : Nat) : Int := (L.hands.getD h ⟨0, 0, []⟩).low
def highOf (L : Line) (h : Nat) : Int := (L.hands.getD h ⟨0, 0, []⟩).high
def lowTo (L : Line) (a : Int) (hs : List Nat) : Int := hs.foldl (fun a h => min a (lowOf L h)) a
def highTo (L : Line) (a : Int) (hs : List Nat) : Int := hs.foldl (fun a h => max a (highOf L h)) a
theorem lowTo_snoc (L : Line) (a : Int) (hs : List Nat) (h : Nat) : lowTo L a (hs ++ [h]) = min (lowTo L a hs) (lowOf L h) := by simp [lowTo]
theorem highTo_snoc (L : Line) (a : Int) (hs : List Nat) (h : Nat) : highTo L a (hs ++ [h]) = max (highTo L a hs) (highOf L h) := by simp [highTo]
/-- The first and the last year of a line. -/
def yearsOf (L : Line) : Int × Int := match handsOf L with
  | [] => (0, 0)
  | h :: hs => (lowTo L (lowOf L h) hs, highTo L (highOf L h) hs)
theorem mem_hands_lt {L : Line} {h : Nat} (hm : h ∈ handsOf L) : h < L.hands.length := by
  unfold handsOf at hm
  obtain ⟨x, _, rfl⟩ := List.mem_map.1 hm
  obtain ⟨c, hc, _⟩ := x.2
  have := (List.getElem?_eq_some_iff.1 hc).1
  simpa [cuttersOf] using this
theorem Blok.drew1 {w : World} {g : Nat} {t : TypeId} {cs : List Value} (h : Blok w g t cs) : Blok w.drew g t cs := h
theorem results_cell_tmp {P : Program} {fn : Func} {p q : Tmp} {tp : TypeId} (h : fn.results = #[.cell p tp, .tmp q]) (tmps : Array Value) (w : World) (g : Nat) (t : TypeId) (cs : List Value) (d : TypeDesc)
    (hp : tmps.getD p undef = .pointer (some ⟨g, 0, none⟩)) (hg : Blok w g t cs) (hu : P.underlying tp = some d) (hd : (match d with | .struct _ | .array _ _ => true | _ => false) = true) (hi : (P.info? tp).map (·.size) = some cs.toArray.size) :
    (results fn tmps).run P w = .ok (.tuple #[.agg cs.toArray, tmps.getD q undef]) w := by
  have hp' : tmps[p]?.getD undef = .pointer (some ⟨g, 0, none⟩) := by simpa using hp
  simp [results, h, hp', asAddr, run_loadVar_row w g t tp cs.toArray (0, 0) d hg hu hd hi]
def YearsPost (L : Line) (w : World) (e : Ending) (w' : World) : Prop := e = .returned (.tuple #[.agg #[.int .i64 (yearsOf L).1, .int .i64 (yearsOf L).2], .int .i64 0]) ∧ Below w.heap.size w w'
set_option maxRecDepth 100000 in
set_option maxHeartbeats 2000000 in
theorem years_any (v : Value) (L : Line) (w : World) (hL : L.ok) (hv : LineAt w w.heap.size v L) (h0 : Nat) (hs : List Nat) (hh : handsOf L = h0 :: hs) :
    Calls Tryz.prog 18 #[v] w (YearsPost L w) := by
  have hl4 : hs.length ≤ 4 := by
    have h1 := fitsTo_len (cuttersOf L) L.squares.length L.total (cuttersOf L).length
    have h2 : (handsOf L).length ≤ (cuttersOf L).length := by unfold handsOf fits; simpa using h1
    have h3 : (cuttersOf L).length ≤ 4 := by simp [cuttersOf]; exact hL.2.1
    rw [hh] at h2
    simp at h2
    omega
  have HL := Lib.hid hL
  have HV := Lib.hid hv
  have HH := Lib.hid hh
  obtain ⟨vh, vs, rfl, hha, hq⟩ := hv
  obtain ⟨A, c, rfl, hA⟩ := hha
  obtain ⟨AQ, cQ, rfl, -⟩ := hq
  have hlt0 : h0 < L.hands.length := mem_hands_lt (by rw [hh]; simp)
  obtain ⟨b, o, rfl, hbB, hcells⟩ := hA (by omega)
  have HC := Lib.hid hcells
  have HLT := Lib.hid (fun h (hm : h ∈ hs) => mem_hands_lt (L := L) (h := h) (by rw [hh]; simp [hm]))
  clear hA hcells hL hh
  go_enter Tryz.func18, Tryz.ntmps18
  go_wp2_with fail
  refine (hands_any _ L _ HL.out (HV.out.keep (Same.of_below (((Below.refl _ _).alloc (Nat.le_refl _) _).alloc (by simp) _)) (by simp; omega))).mono ?_
  rintro e w1 ⟨hb1, ⟨he, -⟩ | ⟨-, u, rfl, hi, hcap⟩⟩
  · rw [HH.out] at he
    cases he
  obtain ⟨Ai, ci, rfl, hIA⟩ := hi
  have hcap1 := hcap _ _ _ rfl
  rw [HH.out] at hIA hcap1 ⊢
  obtain ⟨bi, oi, rfl, hbi, hic⟩ := hIA (by simp)
  have HIC := Lib.hid hic
  have hb0 : Below w.heap.size w w1 := (((Below.refl _ _).alloc (Nat.le_refl _) _).alloc (by simp) _).trans (hb1.mono (by simp; omega))
  have hbx := ((Blok.new w 51 [.slice (some ⟨b, o, none⟩) L.hands.length c, .int .i64 L.worn, .int .i64 L.scr, .int .i64 L.total, .slice AQ L.squares.length cQ]).alloc (.cells #[.int .i64 0, .int .i64 0] 33)).below hb1 (by simp; omega)
  have hby := Blok.new (w.alloc (.cells #[.slice (some ⟨b, o, none⟩) L.hands.length c, .int .i64 L.worn, .int .i64 L.scr, .int .i64 L.total, .slice AQ L.squares.length cQ] 51)) 33 [.int .i64 0, .int .i64 0]
  rw [World.size_alloc] at hby
  have hby1 := hby.below hb1 (by simp)
  have HB0 := Lib.hid hb0
  have HBX := Lib.hid hbx
  have HBY := Lib.hid hby1
  have hz1 := hby1.size
  clear hic hb0 hb1 hbx hby hby1 hcap hIA
  have l0 : w1.cell? ⟨w.heap.size, 0, none⟩ = some (.slice (some ⟨b, o, none⟩) L.hands.length c) := HBX.out.cell 0
  have i0 : w1.cell? ⟨bi, oi, none⟩ = some (.int .i64 h0) := HIC.out 0 h0 rfl
  obtain ⟨H, hH⟩ : ∃ H, L.hands[h0]? = some H := ⟨_, List.getElem?_eq_getElem hlt0⟩
  have d := HC.out h0 H hH
  have d1 := bcell HB0.out hbB d.1
  have d2 := bcell HB0.out hbB d.2.1
  have elow : lowOf L h0 = H.low := by simp [lowOf, List.getD, hH]
  have ehigh : highOf L h0 = H.high := by simp [highOf, List.getD, hH]
  have EL := Lib.hid elow
  have EH := Lib.hid ehigh
  clear d elow ehigh hH
  have hbw : b < w1.heap.size := by omega
  have hww : w.heap.size < w1.heap.size := by omega
  by_cases hci : ci = 1
  · subst hci
    obtain rfl : hs = [] := by
      cases hs with
      | nil => rfl
      | cons a l => simp at hcap1
    have hyb : Blok (w1.alloc (.cells #[.int .i64 H.low, .int .i64 H.high] 33)) w1.heap.size 33 [.int .i64 H.low, .int .i64 H.high] := Blok.new w1 33 [.int .i64 H.low, .int .i64 H.high]
    have hyo : yearsOf L = (H.low, H.high) := by
      unfold yearsOf
      rw [HH.out]
      show (lowOf L h0, highOf L h0) = _
      rw [EL.out, EH.out]
    have HYB := Lib.hid hyb
    have HYO := Lib.hid hyo
    clear hyb hyo hcap1
    go_wp2
    go_region
    all_goals
      go_wp2
      go_loopw [29] (fun i wr => i = .int .i64 0 ∧ Blok wr w1.heap.size 33 [.int .i64 H.low, .int .i64 H.high] ∧ Below w1.heap.size w1 wr) (fun _ _ => 0)
      case atStart => exact ⟨rfl, Blok.drew1 HYB.out, ((Below.refl _ _).alloc (Nat.le_refl _) _).drew⟩
      case round =>
        clear HYB l0 i0 d1 d2
        obtain ⟨rfl, hy, hbr⟩ := hrel
        have y0 : wr.cell? ⟨w1.heap.size, 0, none⟩ = some (.int .i64 H.low) := hy.cell 0
        have y1 : wr.cell? ⟨w1.heap.size, 1, none⟩ = some (.int .i64 H.high) := hy.cell 1
        have hby := HBY.out.below (hbr.mono (Nat.le_refl _)) hz1
        have r0 : wr.cell? ⟨w.heap.size + 1, 0, none⟩ = some (.int .i64 0) := hby.cell 0
        have r1 : wr.cell? ⟨w.heap.size + 1, 1, none⟩ = some (.int .i64 0) := hby.cell 1
        have f0 := hby.free 0
        have f1 := hby.free 1
        have hend := (hby.put 0 (.int .i64 H.low)).put 1 (.int .i64 H.high)
        have hbel := ((HB0.out.trans (hbr.mono (by omega))).setCell (p := ⟨w.heap.size + 1, 0, none⟩) (Nat.le_succ _) (.int .i64 H.low)).setCell (p := ⟨w.heap.size + 1, 1, none⟩) (Nat.le_succ _) (.int .i64 H.high)
        have HEND := Lib.hid hend
        have HBEL := Lib.hid hbel
        clear hend hbel hby hy hbr
        go_wp2
        refine bodyPost_ret (v := .tuple #[.agg #[.int .i64 H.low, .int .i64 H.high], .int .i64 0]) ?_ rfl ⟨by rw [HYO.out], HBEL.out⟩
        exact results_cell_tmp Tryz.results18 _ _ (w.heap.size + 1) 33 _ _ rfl HEND.out Tryz.underlying33 rfl (by kernel_rfl)
  · have hci2 : 2 ≤ ci := by simp at hcap1; omega
    obtain ⟨d', rfl⟩ : ∃ d', ci = d' + 2 := ⟨ci - 2, by omega⟩
    clear hci hci2 hcap1
    go_wp2
    go_region
    all_goals
      have hyb : Blok (w1.alloc (.cells #[.int .i64 H.low, .int .i64 H.high] 33)) w1.heap.size 33 [.int .i64 (lowOf L h0), .int .i64 (highOf L h0)] := by
        rw [EL.out, EH.out]
        exact Blok.new w1 33 [.int .i64 H.low, .int .i64 H.high]
      have HYB := Lib.hid hyb
      clear hyb
      go_wp2
      go_loopw [29] (fun i wr => ∃ k : Nat, k ≤ hs.length ∧ i = .int .i64 k ∧ Blok wr w1.heap.size 33 [.int .i64 (lowTo L (lowOf L h0) (hs.take k)), .int .i64 (highTo L (highOf L h0) (hs.take k))] ∧ Below w1.heap.size w1 wr) (fun i _ => hs.length - (intOf i).toNat)
      case atStart => exact ⟨0, by omega, rfl, HYB.out, ((Below.refl _ _).alloc (Nat.le_refl _) _).drew⟩
      case round =>
        clear HYB l0 i0 d1 d2
        obtain ⟨k, hk, rfl, hy, hbr⟩ := hrel
        by_cases hlt : k < hs.length
        · have HLT2 := Lib.hid hlt
          obtain ⟨h, hhk⟩ : ∃ h, hs[k]? = some h := ⟨_, List.getElem?_eq_getElem hlt⟩
          have hhm := HLT.out h (List.mem_of_getElem? hhk)
          obtain ⟨H2, hH2⟩ : ∃ H2, L.hands[h]? = some H2 := ⟨_, List.getElem?_eq_getElem hhm⟩
          have d := HC.out h H2 hH2
          have d1 := bcell hbr (by omega) (bcell HB0.out hbB d.1)
          have d2 := bcell hbr (by omega) (bcell HB0.out hbB d.2.1)
          have l0 := bcell hbr (by omega) (show w1.cell? ⟨w.heap.size, 0, none⟩ = some (.slice (some ⟨b, o, none⟩) L.hands.length c) from HBX.out.cell 0)
          have i1 := bcell hbr hbi (HIC.out (k + 1) h (by simpa using hhk))
          rw [show oi + (k + 1) = oi + 1 + k by omega] at i1
          have el : lowOf L h = H2.low := by simp [lowOf, List.getD, hH2]
          have eh : highOf L h = H2.high := by simp [highOf, List.getD, hH2]
          have htk : hs.take (k + 1) = hs.take k ++ [h] := by rw [List.take_succ_eq_append_getElem hlt, (List.getElem?_eq_some_iff.1 hhk).2]
          have E1 := Lib.hid (show lowTo L (lowOf L h0) (hs.take (k + 1)) = min (lowTo L (lowOf L h0) (hs.take k)) H2.low by rw [htk, lowTo_snoc, el])
          have E2 := Lib.hid (show highTo L (highOf L h0) (hs.take (k + 1)) = max (highTo L (highOf L h0) (hs.take k)) H2.high by rw [htk, highTo_snoc, eh])
          generalize lowTo L (lowOf L h0) (hs.take k) = lo at hy E1
          generalize highTo L (highOf L h0) (hs.take k) = hi' at hy E2
          have y0 : wr.cell? ⟨w1.heap.size, 0, none⟩ = some (.int .i64 lo) := hy.cell 0
          have y1 : wr.cell? ⟨w1.heap.size, 1, none⟩ = some (.int .i64 hi') := hy.cell 1
          have f0 := hy.free 0
          have f1 := hy.free 1
          have z1' := hy.size
          have HY := Lib.hid hy
          have HBR := Lib.hid hbr
          have HD := Lib.hid d
          clear d hH2 hhk el eh htk hy hbr
          have hbwr : b < wr.heap.size := by omega
          have hwwr : w.heap.size < wr.heap.size := by omega
          have hhi : (h : Int) < L.hands.length := by omega
          go_wp2_with fail
          go_region_law ((go_simp; go_at_call 51; refine (least_two _ H2.low wr.heap.size _ _ (show World.cell? (World.drew (wr.alloc (.cells #[.int .i64 H2.low] 3))) ⟨wr.heap.size, 0, none⟩ = some (.int .i64 H2.low) from (Blok.new wr 3 [.int .i64 H2.low]).cell 0)).mono ?_; rintro e w5 ⟨rfl, rfl⟩))
          all_goals
            have hy8 := Blok.drew1 ((HY.out.put 0 (.int .i64 (min lo H2.low))).alloc (.cells #[.int .i64 H2.low] 3))
            have hbr8 := ((HBR.out.setCell (p := ⟨w1.heap.size, 0, none⟩) (Nat.le_refl _) (.int .i64 (min lo H2.low))).alloc (by simp [World.setCell]; omega) (.cells #[.int .i64 H2.low] 3)).drew
            clear y0 y1 f0 f1 l0 i1 d1 d2 hbwr hwwr
            generalize ((wr.setCell ⟨w1.heap.size, 0, none⟩ (.int .i64 (min lo H2.low))).alloc (.cells #[.int .i64 H2.low] 3)).drew = W8 at hy8 hbr8 ⊢
            have d2 := bcell hbr8 (show b < w1.heap.size by omega) (bcell HB0.out hbB (HD.out.2.1))
            have l0 := bcell hbr8 (show w.heap.size < w1.heap.size by omega) (show w1.cell? ⟨w.heap.size, 0, none⟩ = some (.slice (some ⟨b, o, none⟩) L.hands.length c) from HBX.out.cell 0)
            have y1 : W8.cell? ⟨w1.heap.size, 1, none⟩ = some (.int .i64 hi') := hy8.cell 1
            have f1 := hy8.free 1
            have HY8 := Lib.hid hy8
            have HBR8 := Lib.hid hbr8
            clear hy8 hbr8
            by_cases hmx : hi' < H2.high
            · have EM := Lib.hid (show max hi' H2.high = H2.high by omega)
              go_wp2
              go_region
              all_goals
                go_wp2
                refine ⟨⟨k + 1, Nat.succ_le_of_lt HLT2.out, by go_num, ?_, ?_⟩, by simp [intOf]; have := HLT2.out; omega⟩
                · rw [E1.out, E2.out, EM.out]
                  exact Blok.drew1 (HY8.out.put 1 _)
                · exact (HBR8.out.setCell (p := ⟨w1.heap.size, 1, none⟩) (Nat.le_refl _) _).drew
            · have EM := Lib.hid (show max hi' H2.high = hi' by omega)
              go_wp2
              go_region
              all_goals
                go_wp2
                refine ⟨⟨k + 1, Nat.succ_le_of_lt HLT2.out, by go_num, ?_, ?_⟩, by simp [intOf]; have := HLT2.out; omega⟩
                · rw [E1.out, E2.out, EM.out]
                  exact Blok.drew1 (HY8.out.put 1 _)
                · exact (HBR8.out.setCell (p := ⟨w1.heap.size, 1, none⟩) (Nat.le_refl _) _).drew
        · obtain rfl : k = hs.length := by omega
          rw [List.take_length] at hy
          have y0 : wr.cell? ⟨w1.heap.size, 0, none⟩ = some (.int .i64 (lowTo L (lowOf L h0) hs)) := hy.cell 0
          have y1 : wr.cell? ⟨w1.heap.size, 1, none⟩ = some (.int .i64 (highTo L (highOf L h0) hs)) := hy.cell 1
          have hby := HBY.out.below (hbr.mono (Nat.le_refl _)) hz1
          have r0 : wr.cell? ⟨w.heap.size + 1, 0, none⟩ = some (.int .i64 0) := hby.cell 0
          have r1 : wr.cell? ⟨w.heap.size + 1, 1, none⟩ = some (.int .i64 0) := hby.cell 1
          have f0 := hby.free 0
          have f1 := hby.free 1
          have hend := (hby.put 0 (.int .i64 (lowTo L (lowOf L h0) hs))).put 1 (.int .i64 (highTo L (highOf L h0) hs))
          have hbel := ((HB0.out.trans (hbr.mono (by omega))).setCell (p := ⟨w.heap.size + 1, 0, none⟩) (Nat.le_succ _) (.int .i64 (lowTo L (lowOf L h0) hs))).setCell (p := ⟨w.heap.size + 1, 1, none⟩) (Nat.le_succ _) (.int .i64 (highTo L (highOf L h0) hs))
          have HEND := Lib.hid hend
          have HBEL := Lib.hid hbel
          have hyo : yearsOf L = (lowTo L (lowOf L h0) hs, highTo L (highOf L h0) hs) := by unfold yearsOf; rw [HH.out]
          have HYO := Lib.hid hyo
          clear hend hbel hyo hby hy hbr
          go_wp2
          refine bodyPost_ret (v := .tuple #[.agg #[.int .i64 (lowTo L (lowOf L h0) hs), .int .i64 (highTo L (highOf L h0) hs)], .int .i64 0]) ?_ rfl ⟨by rw [HYO.out], HBEL.out⟩
          exact results_cell_tmp Tryz.results18 _ _ (w.heap.size + 1) 33 _ _ rfl HEND.out Tryz.underlying33 rfl (by kernel_rfl)
end
section
open Go.RowKit Go.Shelf

theorem lowTo_le (L : Line) : ∀ (hs : List Nat) (a : Int), lowTo L a hs ≤ a ∧ ∀ h ∈ hs, lowTo L a hs ≤ lowOf L h := by
  intro hs
  induction hs with
  | nil => intro a; exact ⟨Int.le_refl _, fun h hh => by cases hh⟩
  | cons x hs ih =>
    intro a
    obtain ⟨h1, h2⟩ := ih (min a (lowOf L x))
    have e : lowTo L a (x :: hs) = lowTo L (min a (lowOf L x)) hs := rfl
    rw [e]
    refine ⟨by omega, fun h hh => ?_⟩
    rcases List.mem_cons.1 hh with rfl | hh
    · omega
    · exact h2 h hh
theorem highTo_ge (L : Line) : ∀ (hs : List Nat) (a : Int), a ≤ highTo L a hs ∧ ∀ h ∈ hs, highOf L h ≤ highTo L a hs := by
  intro hs
  induction hs with
  | nil => intro a; exact ⟨Int.le_refl _, fun h hh => by cases hh⟩
  | cons x hs ih =>
    intro a
    obtain ⟨h1, h2⟩ := ih (max a (highOf L x))
    have e : highTo L a (x :: hs) = highTo L (max a (highOf L x)) hs := rfl
    rw [e]
    refine ⟨by omega, fun h hh => ?_⟩
    rcases List.mem_cons.1 hh with rfl | hh
    · omega
    · exact h2 h hh
theorem years_hand {L : Line} {h : Nat} (hm : h ∈ handsOf L) : (yearsOf L).1 ≤ lowOf L h ∧ highOf L h ≤ (yearsOf L).2 := by
  unfold yearsOf
  cases hl : handsOf L with
  | nil => rw [hl] at hm; cases hm
  | cons x hs =>
    rw [hl] at hm
    obtain ⟨a1, a2⟩ := lowTo_le L hs (lowOf L x)
    obtain ⟨b1, b2⟩ := highTo_ge L hs (highOf L x)
    rcases List.mem_cons.1 hm with rfl | hm
    · exact ⟨a1, b1⟩
    · exact ⟨a2 h hm, b2 h hm⟩
theorem low_at {L : Line} {h : Nat} {H : Hand} (hH : L.hands[h]? = some H) : lowOf L h = H.low := by simp [lowOf, List.getD, hH]
theorem high_at {L : Line} {h : Nat} {H : Hand} (hH : L.hands[h]? = some H) : highOf L h = H.high := by simp [highOf, List.getD, hH]
theorem years_yes (v : Value) (L : Line) (w : World) (hL : L.ok) (hv : LineAt w w.heap.size v L) (h : handsOf L ≠ []) :
    Calls Tryz.prog 18 #[v] w (YearsPost L w) := by
  cases hh : handsOf L with
  | nil => exact absurd hh h
  | cons h0 hs => exact years_any v L w hL hv h0 hs hh
end
end Go.Proofs.YtmfjfjahemlhkaaGreat.Sg
