/- SightAll, plain: the least number of marks of a square, over all sets that may be visible. -/
import Derived.Test.YthhajbgddifenaaMo
namespace Go.Proofs.Ythhajbgddifenaa

def fitsV (q : List Light) (v : Nat) : Bool := q.all fun x => (v &&& x.shows) == x.seen
def sqmAt (wn sc : Nat) (q : List Light) (s v : Nat) : Nat := if fitsV q v = true ∧ pc (diff s v) ≤ wn ∧ pc (diff v s) ≤ sc then pc (diff s v) + pc (diff v s) else 99
def sqmTo (wn sc : Nat) (q : List Light) (s n : Nat) : Nat := leastOf 99 ((List.range n).map (sqmAt wn sc q s))
/-- What the law's squareMarks tells. -/
def sqm (wn sc : Nat) (q : List Light) (s : Nat) : Nat := sqmTo wn sc q s 16
theorem sqmTo_succ (wn sc : Nat) (q : List Light) (s n : Nat) : sqmTo wn sc q s (n + 1) = min (sqmTo wn sc q s n) (sqmAt wn sc q s n) := by
  unfold sqmTo
  rw [List.range_succ, List.map_append]
  exact leastOf_snoc _ _ _
theorem sqmTo_le (wn sc : Nat) (q : List Light) (s n : Nat) : sqmTo wn sc q s n ≤ 99 := leastOf_le _ _

theorem vis_test (q : List Light) (i : Nat) : (vis q).testBit i = q.any fun x => x.seen.testBit i := by
  have key : ∀ (q : List Light) (a : Nat), (q.foldl (fun a x => a ||| x.seen) a).testBit i = (a.testBit i || q.any fun x => x.seen.testBit i) := by
    intro q
    induction q with
    | nil => intro a; simp
    | cons x q ih => intro a; rw [List.foldl_cons, ih, Nat.testBit_or, List.any_cons, Bool.or_assoc]
  have := key q 0
  simpa [vis] using this
theorem hidn_test (q : List Light) (i : Nat) : (hidn q).testBit i = q.any fun x => x.shows.testBit i && !x.seen.testBit i := by
  have key : ∀ (q : List Light) (a : Nat), (q.foldl (fun a x => a ||| diff x.shows x.seen) a).testBit i = (a.testBit i || q.any fun x => x.shows.testBit i && !x.seen.testBit i) := by
    intro q
    induction q with
    | nil => intro a; simp
    | cons x q ih => intro a; rw [List.foldl_cons, ih, Nat.testBit_or, diff_bit, List.any_cons, Bool.or_assoc]
  have := key q 0
  simpa [hidn] using this
def q16 (q : List Light) : Prop := ∀ x ∈ q, x.shows < 16 ∧ x.seen < 16 ∧ diff x.seen x.shows = 0
theorem q16.q32 {q : List Light} (h : q16 q) : q32 q := fun x hx => ⟨by have := (h x hx).1; omega, by have := (h x hx).2.1; omega⟩
theorem vis16 {q : List Light} (h : q16 q) : vis q < 16 := by
  have key : ∀ (q : List Light) (a : Nat), a < 16 → q16 q → q.foldl (fun a x => a ||| x.seen) a < 16 := by
    intro q
    induction q with
    | nil => intro a ha _; exact ha
    | cons x q ih => intro a ha hq; exact ih _ (Nat.or_lt_two_pow (n := 4) ha (hq x (by simp)).2.1) fun y hy => hq y (by simp [hy])
  exact key q 0 (by omega) h
theorem pc_zero : ∀ a : Fin 32, pc a.val = 0 → a.val = 0 := by decide +kernel
/-- The set that needs the fewest marks. -/
def bestV (q : List Light) (s : Nat) : Nat := vis q ||| diff s (hidn q)
theorem bestV_lt {q : List Light} {s : Nat} (hq : q16 q) (hs : s < 16) : bestV q s < 16 := Nat.or_lt_two_pow (n := 4) (vis16 hq) (diff_lt s _ 4 hs)
theorem bestV_bit (q : List Light) (s i : Nat) : (bestV q s).testBit i = ((vis q).testBit i || (s.testBit i && !(hidn q).testBit i)) := by
  unfold bestV
  rw [Nat.testBit_or, diff_bit]
theorem apart_bit {q : List Light} (hz : vis q &&& hidn q = 0) (i : Nat) : ((vis q).testBit i && (hidn q).testBit i) = false := by
  rw [← Nat.testBit_and, hz, Nat.zero_testBit]
theorem bestV_fits {q : List Light} {s : Nat} (hq : q16 q) (hz : vis q &&& hidn q = 0) : fitsV q (bestV q s) = true := by
  unfold fitsV
  rw [List.all_eq_true]
  intro x hx
  rw [beq_iff_eq]
  apply Nat.eq_of_testBit_eq
  intro i
  have h1 := apart_bit hz i
  have h2 : (diff x.seen x.shows).testBit i = false := by rw [(hq x hx).2.2, Nat.zero_testBit]
  rw [diff_bit] at h2
  have h3 : x.seen.testBit i = true → (vis q).testBit i = true := fun h => by rw [vis_test, List.any_eq_true]; exact ⟨x, hx, h⟩
  have h4 : (x.shows.testBit i && !x.seen.testBit i) = true → (hidn q).testBit i = true := fun h => by rw [hidn_test, List.any_eq_true]; exact ⟨x, hx, h⟩
  rw [Nat.testBit_and, bestV_bit]
  revert h1 h2 h3 h4
  cases x.seen.testBit i <;> cases x.shows.testBit i <;> cases (vis q).testBit i <;> cases (hidn q).testBit i <;> cases s.testBit i <;> simp
theorem bestV_worn {q : List Light} {s : Nat} (hz : vis q &&& hidn q = 0) : diff s (bestV q s) = hidn q &&& s := by
  apply Nat.eq_of_testBit_eq
  intro i
  have h1 := apart_bit hz i
  rw [diff_bit, bestV_bit, Nat.testBit_and]
  revert h1
  cases (vis q).testBit i <;> cases (hidn q).testBit i <;> cases s.testBit i <;> simp
theorem bestV_scr (q : List Light) (s : Nat) : diff (bestV q s) s = diff (vis q) s := by
  apply Nat.eq_of_testBit_eq
  intro i
  rw [diff_bit, bestV_bit, diff_bit]
  cases (vis q).testBit i <;> cases (hidn q).testBit i <;> cases s.testBit i <;> simp
theorem sqm_cost {wn sc : Nat} {q : List Light} {s : Nat} (hq : q16 q) (hs : s < 16) : sqm wn sc q s = if cost wn sc q s = 81 then 99 else cost wn sc q s := by
  have v32 := vis32 q hq.q32
  have h32 := hidn32 q hq.q32
  have low : ∀ v, v < 16 → sqmAt wn sc q s v = 99 ∨ (cost wn sc q s ≤ sqmAt wn sc q s v ∧ sqmAt wn sc q s v ≤ 10) := by
    intro v hv
    by_cases c : fitsV q v = true ∧ pc (diff s v) ≤ wn ∧ pc (diff v s) ≤ sc
    · right
      unfold sqmAt
      rw [if_pos c]
      have h1 : TrueSq wn sc q s v := ⟨by omega, by omega, c.2.1, c.2.2, fun x hx => ⟨(hq.q32 x hx).1, by
        have := List.all_eq_true.1 c.1 x hx
        exact (beq_iff_eq.1 this).symm⟩⟩
      have a1 := pc32_le ⟨diff s v, diff_lt32 s v (by omega)⟩
      have a2 := pc32_le ⟨diff v s, diff_lt32 v s (by omega)⟩
      exact ⟨cost_true h1, Nat.add_le_add a1 a2⟩
    · left
      unfold sqmAt
      rw [if_neg c]
  by_cases h81 : cost wn sc q s = 81
  · rw [if_pos h81]
    apply Nat.le_antisymm (leastOf_le _ _)
    have key : ∀ n, n ≤ 16 → 99 ≤ sqmTo wn sc q s n := by
      intro n
      induction n with
      | zero => intro _; exact Nat.le_refl _
      | succ n ih =>
        intro hn
        have := ih (by omega)
        rw [sqmTo_succ]
        rcases low n (by omega) with h | h <;> omega
    exact key 16 (Nat.le_refl _)
  · rw [if_neg h81]
    have h80 : ¬ (0 < pc (vis q &&& hidn q) ∨ sc < pc (diff (vis q) s) ∨ wn < pc (hidn q &&& s)) := by
      intro c
      apply h81
      unfold cost
      rw [if_pos c]
    have hz : vis q &&& hidn q = 0 := pc_zero ⟨vis q &&& hidn q, Nat.lt_of_le_of_lt Nat.and_le_left v32⟩ (by show pc (vis q &&& hidn q) = 0; omega)
    have hc : cost wn sc q s = pc (diff (vis q) s) + pc (hidn q &&& s) := cost_sum (by omega) (by omega) (by omega)
    have hb : sqmAt wn sc q s (bestV q s) = cost wn sc q s := by
      unfold sqmAt
      rw [bestV_worn hz, bestV_scr, if_pos ⟨bestV_fits hq hz, by omega, by omega⟩, hc]
      omega
    apply Nat.le_antisymm
    · rw [← hb]
      exact leastOf_le_mem (List.mem_map.2 ⟨_, List.mem_range.2 (bestV_lt hq hs), rfl⟩)
    · have hc20 : cost wn sc q s ≤ 10 := by
        have a1 := pc32_le ⟨diff (vis q) s, diff_lt32 _ _ v32⟩
        have a2 := pc32_le ⟨hidn q &&& s, Nat.lt_of_le_of_lt Nat.and_le_left h32⟩
        have a1' : pc (diff (vis q) s) ≤ 5 := a1
        have a2' : pc (hidn q &&& s) ≤ 5 := a2
        omega
      have key : ∀ n, n ≤ 16 → cost wn sc q s ≤ sqmTo wn sc q s n := by
        intro n
        induction n with
        | zero => intro _; show _ ≤ 99; omega
        | succ n ih =>
          intro hn
          have := ih (by omega)
          rw [sqmTo_succ]
          rcases low n (by omega) with h | h <;> omega
      exact key 16 (Nat.le_refl _)
end Go.Proofs.Ythhajbgddifenaa
