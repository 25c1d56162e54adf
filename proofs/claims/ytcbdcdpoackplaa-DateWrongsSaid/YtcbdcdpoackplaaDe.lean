/- What the chapter's examples come to, as far as timely asks. -/
import Derived.Test.YtcbdcdpoackplaaDd
namespace Go.Proofs.Ytcbdcdpoackplaa.Dt

theorem span_is {d : Dat} (h : d.Ok) (p : Nat) (hp : p < 10) (lo hi : Int) (h1 : ∃ x, d.Is x ∧ x p = lo) (h2 : ∃ x, d.Is x ∧ x p = hi) (h3 : ∀ x, d.Is x → lo ≤ x p ∧ x p ≤ hi) : d.span p = (lo, hi) := by
  obtain ⟨x, hx, e1⟩ := h1
  obtain ⟨y, hy, e2⟩ := h2
  obtain ⟨⟨a, ha, e3⟩, ⟨b, hb, e4⟩, h4⟩ := span_spec h ⟨x, hx⟩ p hp
  have q1 := h3 a ha
  have q2 := h3 b hb
  have q3 := h4 x hx
  have q4 := h4 y hy
  exact Prod.ext (show (d.span p).1 = lo by omega) (show (d.span p).2 = hi by omega)
/-- The dating D of the chapter, with another span in the note 2. -/
def exD (lo hi : Int) : Dat := ⟨3, [(-312, -311)], [⟨3, 0, 0, [], 100, 100⟩, ⟨1, 1, 0, [-215, -207], 0, 0⟩, ⟨4, 1, 0, [], lo, hi⟩, ⟨2, 2, 0, [], -200, -150⟩, ⟨4, 2, 1, [], 0, 30⟩]⟩
/-- The dating G. -/
def exG : Dat := ⟨3, [(-312, -311)], [⟨3, 0, 0, [], 100, 100⟩, ⟨1, 1, 0, [-215, -207], 0, 0⟩, ⟨4, 1, 0, [], 1, 10⟩, ⟨2, 2, 0, [], -200, -150⟩, ⟨4, 2, 1, [], 0, 30⟩, ⟨2, 1, 0, [], -190, -180⟩]⟩
/-- The years of the points, one by one. -/
def exX (a b c e : Int) : Nat → Int := fun p => if p = 0 then 0 else if p = 1 then a else if p = 2 then b else if p = 3 then c else if p = 7 then e else 0
theorem exD_ok (lo hi : Int) (h1 : -3000 ≤ lo) (h2 : lo ≤ hi) (h3 : hi ≤ 3000) : (exD lo hi).Ok := by
  refine ⟨by simp [exD], ⟨by simp [exD], by simp [exD, SpanOk]⟩, by simp [exD], fun n hn => ?_⟩
  simp only [exD, List.mem_cons, List.not_mem_nil, or_false] at hn
  rcases hn with rfl | rfl | rfl | rfl | rfl
  all_goals
    refine ⟨by simp [exD], by simp, fun h => ?_, fun h => ?_, fun h => ?_, fun h => ?_, fun h => ?_⟩
    all_goals first
      | (refine absurd h ?_; simp; done)
      | (simp [exD, SpanOk]; done)
      | (simp [SpanOk]; omega)
theorem exG_ok : exG.Ok := by
  refine ⟨by simp [exG], ⟨by simp [exG], by simp [exG, SpanOk]⟩, by simp [exG], fun n hn => ?_⟩
  simp only [exG, List.mem_cons, List.not_mem_nil, or_false] at hn
  rcases hn with rfl | rfl | rfl | rfl | rfl | rfl
  all_goals
    refine ⟨by simp [exG], by simp, fun h => ?_, fun h => ?_, fun h => ?_, fun h => ?_, fun h => ?_⟩
    all_goals first
      | (refine absurd h ?_; simp; done)
      | (simp [exG, SpanOk]; done)
/-- What a truth of D is. -/
theorem exD_is (lo hi : Int) (x : Nat → Int) (h : (exD lo hi).Is x) : x 0 = 0 ∧ (-312 ≤ x 7 ∧ x 7 ≤ -311) ∧ x 1 - x 7 + 1 = 100 ∧ (x 2 = -215 ∨ x 2 = -207) ∧ (lo ≤ x 2 - x 1 ∧ x 2 - x 1 ≤ hi) ∧ (-200 ≤ x 3 ∧ x 3 ≤ -150) ∧ (0 ≤ x 3 - x 2 ∧ x 3 - x 2 ≤ 30) := by
  have h7 := h.base 7 (by omega)
  have n1 := h.notes ⟨3, 0, 0, [], 100, 100⟩ (by simp [exD])
  have n2 := h.notes ⟨1, 1, 0, [-215, -207], 0, 0⟩ (by simp [exD])
  have n3 := h.notes ⟨4, 1, 0, [], lo, hi⟩ (by simp [exD])
  have n4 := h.notes ⟨2, 2, 0, [], -200, -150⟩ (by simp [exD])
  have n5 := h.notes ⟨4, 2, 1, [], 0, 30⟩ (by simp [exD])
  simp [Dat.base, exD, Nt.right] at h7 n1 n2 n3 n4 n5
  exact ⟨h.zero, h7, by omega, n2, n3, n4, by omega⟩
theorem exD_truth (lo hi a b c e : Int) (h7 : -312 ≤ e ∧ e ≤ -311) (h1 : a - e + 1 = 100) (h2 : b = -215 ∨ b = -207) (h3 : lo ≤ b - a ∧ b - a ≤ hi) (h4 : -200 ≤ c ∧ c ≤ -150) (h5 : 0 ≤ c - b ∧ c - b ≤ 30) : (exD lo hi).Is (exX a b c e) := by
  refine ⟨rfl, fun p hp => ?_, fun n hn => ?_⟩
  · have : p = 0 ∨ p = 1 ∨ p = 2 ∨ p = 3 ∨ p = 4 ∨ p = 5 ∨ p = 6 ∨ p = 7 ∨ p = 8 ∨ p = 9 := by omega
    rcases this with rfl | rfl | rfl | rfl | rfl | rfl | rfl | rfl | rfl | rfl <;> simp [Dat.base, exD, exX] <;> omega
  · simp only [exD, List.mem_cons, List.not_mem_nil, or_false] at hn
    rcases hn with rfl | rfl | rfl | rfl | rfl <;> simp [Nt.right, exX] <;> omega
/-- Years of D with -5 to 10 in the note 2. -/
theorem exD_years : (exD (-5) 10).may ∧ (exD (-5) 10).span 1 = (-213, -212) ∧ (exD (-5) 10).span 2 = (-215, -207) ∧ (exD (-5) 10).span 3 = (-200, -177) := by
  have hok := exD_ok (-5) 10 (by omega) (by omega) (by omega)
  have t1 := exD_truth (-5) 10 (-213) (-207) (-200) (-312) (by omega) (by omega) (by omega) (by omega) (by omega) (by omega)
  have t2 := exD_truth (-5) 10 (-212) (-215) (-200) (-311) (by omega) (by omega) (by omega) (by omega) (by omega) (by omega)
  have t3 := exD_truth (-5) 10 (-213) (-207) (-177) (-312) (by omega) (by omega) (by omega) (by omega) (by omega) (by omega)
  refine ⟨⟨_, t1⟩, span_is hok 1 (by omega) _ _ ⟨_, t1, rfl⟩ ⟨_, t2, rfl⟩ fun x hx => ?_, span_is hok 2 (by omega) _ _ ⟨_, t2, rfl⟩ ⟨_, t1, rfl⟩ fun x hx => ?_, span_is hok 3 (by omega) _ _ ⟨_, t1, rfl⟩ ⟨_, t3, rfl⟩ fun x hx => ?_⟩
  all_goals
    have := exD_is _ _ x hx
    omega
/-- The stone 0 of D is the elder one. -/
theorem exD_earlier : (exD 1 10).may ∧ (exD 1 10).laterV 1 2 = 1 := by
  have hok := exD_ok 1 10 (by omega) (by omega) (by omega)
  have t1 := exD_truth 1 10 (-213) (-207) (-200) (-312) (by omega) (by omega) (by omega) (by omega) (by omega) (by omega)
  refine ⟨⟨_, t1⟩, (laterV_spec hok ⟨_, t1⟩ 1 2 (by omega) (by omega)).yes.2 fun x hx => ?_⟩
  have := exD_is _ _ x hx
  omega
end Go.Proofs.Ytcbdcdpoackplaa.Dt
