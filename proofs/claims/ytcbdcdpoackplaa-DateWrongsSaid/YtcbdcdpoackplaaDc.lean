/- How many years may lie between any two of some points: what is left when a limit comes in, in plain numbers. · The choices as they are gone through: a note that was right already ends its own ways; the ends of spans, and verdicts. · Datings: notes, their ways, truths; spans of years, whether a stone is of a year, which is earlier. -/

namespace Go.Proofs.Ytcbdcdpoackplaa
section
section
namespace Dt

/-- B i j: the point j is at most so many years after the point i. -/
abbrev Mat := Nat → Nat → Int
/-- It has all that its numbers say together, by way of other points, too. -/
def Closed (n : Nat) (B : Mat) : Prop := (∀ i, i < n → B i i = 0) ∧ ∀ i j k, i < n → j < n → k < n → B i j ≤ B i k + B k j
/-- The points may be so. -/
def Sol (n : Nat) (B : Mat) (x : Nat → Int) : Prop := ∀ i j, i < n → j < n → x j - x i ≤ B i j
/-- A limit: the point b is at most y years after the point a. -/
structure Lim where
  a : Nat
  b : Nat
  y : Int
deriving DecidableEq
def Lim.ok (l : Lim) (x : Nat → Int) : Prop := x l.b - x l.a ≤ l.y
def cut (B : Mat) (l : Lim) : Mat := fun i j => min (B i j) (B i l.a + l.y + B l.b j)
def refuses (B : Mat) (l : Lim) : Bool := decide (B l.b l.a + l.y < 0)
theorem cut_closed {n : Nat} {B : Mat} {l : Lim} (h : Closed n B) (ha : l.a < n) (hb : l.b < n) (hr : refuses B l = false) : Closed n (cut B l) := by
  have hr' : 0 ≤ B l.b l.a + l.y := by simpa [refuses] using hr
  refine ⟨fun i hi => ?_, fun i j k hi hj hk => ?_⟩
  · have h0 := h.1 i hi
    have h1 := h.2 l.b l.a i hb ha hi
    simp only [cut]
    omega
  · have t1 := h.2 i j k hi hj hk
    have t2 := h.2 l.b j k hb hj hk
    have t3 := h.2 i l.a k hi ha hk
    have t4 := h.2 l.b l.a k hb ha hk
    simp only [cut]
    omega
theorem cut_sol {n : Nat} {B : Mat} {l : Lim} (h : Closed n B) (ha : l.a < n) (hb : l.b < n) (x : Nat → Int) : Sol n (cut B l) x ↔ Sol n B x ∧ l.ok x := by
  constructor
  · intro hx
    refine ⟨fun i j hi hj => Int.le_trans (hx i j hi hj) (Int.min_le_left _ _), ?_⟩
    have h1 := hx l.a l.b ha hb
    have h2 := h.1 l.a ha
    have h3 := h.1 l.b hb
    simp only [cut] at h1
    unfold Lim.ok
    omega
  · rintro ⟨hx, hl⟩ i j hi hj
    have h1 := hx i j hi hj
    have h2 := hx i l.a hi ha
    have h3 := hx l.b j hb hj
    unfold Lim.ok at hl
    simp only [cut]
    omega
theorem refuses_none {n : Nat} {B : Mat} {l : Lim} (ha : l.a < n) (hb : l.b < n) (hr : refuses B l = true) (x : Nat → Int) (hx : Sol n B x) : ¬ l.ok x := by
  have h1 := hx l.b l.a hb ha
  have h2 : B l.b l.a + l.y < 0 := by simpa [refuses] using hr
  unfold Lim.ok
  omega
/-- Each number is reached, with the first point where it is. -/
theorem tight {n : Nat} {B : Mat} (h : Closed n B) (i j : Nat) (hi : i < n) (_ : j < n) : ∃ x, Sol n B x ∧ x 0 = 0 ∧ x j - x i = B i j := by
  refine ⟨fun k => B i k - B i 0, fun a b ha hb => ?_, by simp, ?_⟩
  · have := h.2 i b a hi hb ha
    show B i b - B i 0 - (B i a - B i 0) ≤ B a b
    omega
  · have := h.1 i hi
    show B i j - B i 0 - (B i i - B i 0) = B i j
    omega
/-- So is each number between the ends of a span. -/
theorem reach {n : Nat} {B : Mat} (h : Closed n B) (i j : Nat) (hi : i < n) (hj : j < n) (y : Int) (h1 : - B j i ≤ y) (h2 : y ≤ B i j) : ∃ x, Sol n B x ∧ x 0 = 0 ∧ x j - x i = y := by
  have hr1 : refuses B ⟨i, j, y⟩ = false := by simp [refuses]; omega
  have hc1 := cut_closed (l := ⟨i, j, y⟩) h hi hj hr1
  have h00 := h.1 i hi
  have h11 := h.1 j hj
  have hr2 : refuses (cut B ⟨i, j, y⟩) ⟨j, i, -y⟩ = false := by
    have : ¬ (min (B i j) (B i i + y + B j j) + -y < 0) := by omega
    exact decide_eq_false this
  have hc2 := cut_closed (l := ⟨j, i, -y⟩) hc1 hj hi hr2
  obtain ⟨x, hx, h0, -⟩ := tight hc2 i j hi hj
  obtain ⟨hx1, hl2⟩ := (cut_sol (l := ⟨j, i, -y⟩) hc1 hj hi x).1 hx
  obtain ⟨hx0, hl1⟩ := (cut_sol (l := ⟨i, j, y⟩) h hi hj x).1 hx1
  refine ⟨x, hx0, h0, ?_⟩
  simp only [Lim.ok] at hl1 hl2
  omega

/-- A way in which a note can be right: two limits, one after the other. -/
abbrev Way := Lim × Lim
def Way.ok (w : Way) (x : Nat → Int) : Prop := w.1.ok x ∧ w.2.ok x
def Way.inn (w : Way) (n : Nat) : Prop := (w.1.a < n ∧ w.1.b < n) ∧ w.2.a < n ∧ w.2.b < n
/-- What is left with a way. -/
def left (B : Mat) (w : Way) : Option Mat :=
  if refuses B w.1 then none else if refuses (cut B w.1) w.2 then none else some (cut (cut B w.1) w.2)
theorem left_closed {n : Nat} {B M : Mat} {w : Way} (h : Closed n B) (hw : w.inn n) (hM : left B w = some M) : Closed n M := by
  unfold left at hM
  cases h1 : refuses B w.1 with
  | true => simp [h1] at hM
  | false =>
    cases h2 : refuses (cut B w.1) w.2 with
    | true => simp [h1, h2] at hM
    | false =>
      simp [h1, h2] at hM
      subst hM
      exact cut_closed (cut_closed h hw.1.1 hw.1.2 h1) hw.2.1 hw.2.2 h2
theorem left_sol {n : Nat} {B M : Mat} {w : Way} (h : Closed n B) (hw : w.inn n) (hM : left B w = some M) (x : Nat → Int) : Sol n M x ↔ Sol n B x ∧ w.ok x := by
  unfold left at hM
  cases h1 : refuses B w.1 with
  | true => simp [h1] at hM
  | false =>
    cases h2 : refuses (cut B w.1) w.2 with
    | true => simp [h1, h2] at hM
    | false =>
      simp [h1, h2] at hM
      subst hM
      rw [cut_sol (cut_closed h hw.1.1 hw.1.2 h1) hw.2.1 hw.2.2, cut_sol h hw.1.1 hw.1.2]
      exact ⟨fun ⟨⟨a, b⟩, c⟩ => ⟨a, b, c⟩, fun ⟨a, b, c⟩ => ⟨⟨a, b⟩, c⟩⟩
theorem left_none {n : Nat} {B : Mat} {w : Way} (h : Closed n B) (hw : w.inn n) (hM : left B w = none) (x : Nat → Int) (hx : Sol n B x) : ¬ w.ok x := by
  rintro ⟨o1, o2⟩
  unfold left at hM
  cases h1 : refuses B w.1 with
  | true => exact refuses_none hw.1.1 hw.1.2 h1 x hx o1
  | false =>
    cases h2 : refuses (cut B w.1) w.2 with
    | true => exact refuses_none hw.2.1 hw.2.2 h2 x ((cut_sol h hw.1.1 hw.1.2 x).2 ⟨hx, o1⟩) o2
    | false => simp [h1, h2] at hM
/-- What is left for each choice of ways, note by note. -/
def choose : List (List Way) → Mat → List Mat
  | [], B => [B]
  | n :: ns, B => n.flatMap fun w => match left B w with
    | none => []
    | some M => choose ns M
def InN (n : Nat) (notes : List (List Way)) : Prop := ∀ l ∈ notes, ∀ w ∈ l, w.inn n
theorem choose_closed {n : Nat} : ∀ (notes : List (List Way)) (B : Mat), InN n notes → Closed n B → ∀ M ∈ choose notes B, Closed n M
  | [], B, _, h, M, hM => by
    simp [choose] at hM
    subst hM
    exact h
  | l :: ns, B, hn, h, M, hM => by
    simp only [choose, List.mem_flatMap] at hM
    obtain ⟨w, hw, hM⟩ := hM
    cases hl : left B w with
    | none => simp [hl] at hM
    | some M' =>
      simp only [hl] at hM
      exact choose_closed ns M' (fun l' hl' => hn l' (List.mem_cons_of_mem _ hl')) (left_closed h (hn l (List.mem_cons_self ..) w hw) hl) M hM
/-- The points may be so in one of the choices just if they may be so, and each note is right in one of its ways. -/
theorem choose_sol {n : Nat} : ∀ (notes : List (List Way)) (B : Mat), InN n notes → Closed n B → ∀ x, (∃ M ∈ choose notes B, Sol n M x) ↔ Sol n B x ∧ ∀ l ∈ notes, ∃ w ∈ l, w.ok x
  | [], B, _, h, x => by simp [choose]
  | l :: ns, B, hn, h, x => by
    have hns : InN n ns := fun l' hl' => hn l' (List.mem_cons_of_mem _ hl')
    constructor
    · rintro ⟨M, hM, hx⟩
      simp only [choose, List.mem_flatMap] at hM
      obtain ⟨w, hw, hM⟩ := hM
      cases hl : left B w with
      | none => simp [hl] at hM
      | some M' =>
        simp only [hl] at hM
        have hwn := hn l (List.mem_cons_self ..) w hw
        obtain ⟨h1, h2⟩ := (choose_sol ns M' hns (left_closed h hwn hl) x).1 ⟨M, hM, hx⟩
        obtain ⟨h3, h4⟩ := (left_sol h hwn hl x).1 h1
        refine ⟨h3, fun l' hl' => ?_⟩
        rcases List.mem_cons.1 hl' with rfl | hl'
        · exact ⟨w, hw, h4⟩
        · exact h2 l' hl'
    · rintro ⟨hx, hall⟩
      obtain ⟨w, hw, hok⟩ := hall l (List.mem_cons_self ..)
      have hwn := hn l (List.mem_cons_self ..) w hw
      cases hl : left B w with
      | none => exact absurd hok (left_none h hwn hl x hx)
      | some M' =>
        obtain ⟨M, hM, hx'⟩ := (choose_sol ns M' hns (left_closed h hwn hl) x).2 ⟨(left_sol h hwn hl x).2 ⟨hx, hok⟩, fun l' hl' => hall l' (List.mem_cons_of_mem _ hl')⟩
        refine ⟨M, ?_, hx'⟩
        simp only [choose, List.mem_flatMap]
        exact ⟨w, hw, by simpa [hl] using hM⟩
end Dt
end
section
namespace Dt

def eqOn (n : Nat) (B M : Mat) : Prop := ∀ i j, i < n → j < n → B i j = M i j
theorem eqOn.sol {n : Nat} {B M : Mat} (h : eqOn n B M) {x : Nat → Int} (hx : Sol n M x) : Sol n B x := fun i j hi hj => by rw [h i j hi hj]; exact hx i j hi hj
instance (n : Nat) (B M : Mat) : Decidable (eqOn n B M) := decidable_of_iff (∀ i, i < n → ∀ j, j < n → B i j = M i j) ⟨fun h i j hi hj => h i hi j hj, fun h i hi j hj => h i j hi hj⟩
/-- No two of the ways can be so together. -/
def Excl (l : List Way) : Prop := l.Pairwise fun w w' => ∀ x, ¬ (w.ok x ∧ w'.ok x)
/-- What is handed out for the ways of a note: behind a way that changes nothing no other one is tried. -/
def goWays (n : Nat) (f : Mat → List Mat) (B : Mat) : List Way → List Mat
  | [] => []
  | w :: ws => match left B w with
    | none => goWays n f B ws
    | some M => f M ++ if eqOn n M B then [] else goWays n f B ws
def chooseP (n : Nat) : List (List Way) → Mat → List Mat
  | [], B => [B]
  | l :: ns, B => goWays n (chooseP n ns) B l
theorem left_excl {n : Nat} {B M : Mat} {w w' : Way} (hn : 0 < n) (h : Closed n B) (hw : w.inn n) (hw' : w'.inn n) (hM : left B w = some M) (he : eqOn n M B) (hx : ∀ x, ¬ (w.ok x ∧ w'.ok x)) : left B w' = none := by
  cases hl : left B w' with
  | none => rfl
  | some M' =>
    obtain ⟨x, h1, -, -⟩ := tight (left_closed h hw' hl) 0 0 hn hn
    obtain ⟨h2, h3⟩ := (left_sol h hw' hl x).1 h1
    obtain ⟨-, h4⟩ := (left_sol h hw hM x).1 (he.sol h2)
    exact absurd ⟨h4, h3⟩ (hx x)
theorem goWays_eq {n : Nat} {f : Mat → List Mat} {B : Mat} (hn : 0 < n) (h : Closed n B) : ∀ l : List Way, (∀ w ∈ l, w.inn n) → Excl l →
    goWays n f B l = l.flatMap fun w => match left B w with | none => [] | some M => f M
  | [], _, _ => rfl
  | w :: ws, hin, hx => by
    have hx' := List.pairwise_cons.1 hx
    have ih := goWays_eq (f := f) hn h ws (fun w' hw' => hin w' (List.mem_cons_of_mem _ hw')) hx'.2
    simp only [goWays, List.flatMap_cons]
    cases hl : left B w with
    | none => simpa using ih
    | some M =>
      by_cases he : eqOn n M B
      · simp only [if_pos he]
        have : (ws.flatMap fun w => match left B w with | none => [] | some M => f M) = [] := by
          rw [List.flatMap_eq_nil_iff]
          intro w' hw'
          rw [left_excl hn h (hin w (List.mem_cons_self ..)) (hin w' (List.mem_cons_of_mem _ hw')) hl he (hx'.1 w' hw')]
        rw [this]
      · simp only [if_neg he]
        rw [ih]
theorem chooseP_eq {n : Nat} (hn : 0 < n) : ∀ (notes : List (List Way)) (B : Mat), InN n notes → (∀ l ∈ notes, Excl l) → Closed n B → chooseP n notes B = choose notes B
  | [], _, _, _, _ => rfl
  | l :: ns, B, hin, hx, h => by
    have hl := hin l (List.mem_cons_self ..)
    simp only [chooseP, choose]
    rw [goWays_eq hn h l hl (hx l (List.mem_cons_self ..))]
    have : ∀ ws : List Way, (∀ w ∈ ws, w.inn n) → (ws.flatMap fun w => match left B w with | none => [] | some M => chooseP n ns M) = ws.flatMap fun w => match left B w with | none => [] | some M => choose ns M := by
      intro ws hws
      induction ws with
      | nil => rfl
      | cons w ws ih =>
        simp only [List.flatMap_cons]
        rw [ih (fun w' hw' => hws w' (List.mem_cons_of_mem _ hw'))]
        cases hl' : left B w with
        | none => rfl
        | some M =>
          show chooseP n ns M ++ _ = choose ns M ++ _
          rw [chooseP_eq hn ns M (fun l' hl' => hin l' (List.mem_cons_of_mem _ hl')) (fun l' hl' => hx l' (List.mem_cons_of_mem _ hl')) (left_closed h (hws w (List.mem_cons_self ..)) hl')]
    exact this l hl

/-- From the least to the greatest number of years that the point j is after the point i. -/
def spanIn (i j : Nat) (M : Mat) : Int × Int := (- M j i, M i j)
def joinTo (a b : Int × Int) : Int × Int := (min a.1 b.1, max a.2 b.2)
def joined (f : Mat → Int × Int) : List Mat → Int × Int
  | [] => (0, 0)
  | M :: l => l.foldl (fun a M => joinTo a (f M)) (f M)
theorem fold_join (f : Mat → Int × Int) : ∀ (l : List Mat) (a : Int × Int), let r := l.foldl (fun a M => joinTo a (f M)) a
    (r.1 = a.1 ∨ ∃ M ∈ l, r.1 = (f M).1) ∧ (r.2 = a.2 ∨ ∃ M ∈ l, r.2 = (f M).2) ∧ r.1 ≤ a.1 ∧ a.2 ≤ r.2 ∧ ∀ M ∈ l, r.1 ≤ (f M).1 ∧ (f M).2 ≤ r.2
  | [], a => by simp
  | M :: l, a => by
    obtain ⟨h1, h2, h3, h4, h5⟩ := fold_join f l (joinTo a (f M))
    simp only [List.foldl_cons] at *
    have ja : (joinTo a (f M)).1 = min a.1 (f M).1 := rfl
    have jb : (joinTo a (f M)).2 = max a.2 (f M).2 := rfl
    rw [ja] at h1 h3
    rw [jb] at h2 h4
    refine ⟨?_, ?_, by omega, by omega, fun M' hM' => ?_⟩
    · rcases h1 with h1 | ⟨M', hM', h1⟩
      · rcases Int.le_total a.1 (f M).1 with h | h
        · exact .inl (by omega)
        · exact .inr ⟨M, List.mem_cons_self .., by omega⟩
      · exact .inr ⟨M', List.mem_cons_of_mem _ hM', h1⟩
    · rcases h2 with h2 | ⟨M', hM', h2⟩
      · rcases Int.le_total a.2 (f M).2 with h | h
        · exact .inr ⟨M, List.mem_cons_self .., by omega⟩
        · exact .inl (by omega)
      · exact .inr ⟨M', List.mem_cons_of_mem _ hM', h2⟩
    · rcases List.mem_cons.1 hM' with rfl | hM'
      · exact ⟨by omega, by omega⟩
      · exact h5 M' hM'
theorem joined_spec (f : Mat → Int × Int) {l : List Mat} (h : l ≠ []) : (∃ M ∈ l, (joined f l).1 = (f M).1) ∧ (∃ M ∈ l, (joined f l).2 = (f M).2) ∧ ∀ M ∈ l, (joined f l).1 ≤ (f M).1 ∧ (f M).2 ≤ (joined f l).2 := by
  cases l with
  | nil => exact absurd rfl h
  | cons M l =>
    obtain ⟨h1, h2, h3, h4, h5⟩ := fold_join f l (f M)
    simp only [joined]
    refine ⟨?_, ?_, fun M' hM' => ?_⟩
    · rcases h1 with h1 | ⟨M', hM', h1⟩
      · exact ⟨M, List.mem_cons_self .., h1⟩
      · exact ⟨M', List.mem_cons_of_mem _ hM', h1⟩
    · rcases h2 with h2 | ⟨M', hM', h2⟩
      · exact ⟨M, List.mem_cons_self .., h2⟩
      · exact ⟨M', List.mem_cons_of_mem _ hM', h2⟩
    · rcases List.mem_cons.1 hM' with rfl | hM'
      · exact ⟨h3, h4⟩
      · exact h5 M' hM'

/-- The truths of notes: each point has its year, the point 0 the year 0. -/
def Truth (n : Nat) (notes : List (List Way)) (B : Mat) (x : Nat → Int) : Prop := x 0 = 0 ∧ Sol n B x ∧ ∀ l ∈ notes, ∃ w ∈ l, w.ok x
/-- What each statement wants of all that is left: it is nothing just if there is no truth; spans have their ends in truths, and all truths in them. -/
structure Exact (n : Nat) (T : (Nat → Int) → Prop) (all : List Mat) : Prop where
  none : all = [] ↔ ∀ x, ¬ T x
  some : ∀ M ∈ all, ∀ i j y, i < n → j < n → - M j i ≤ y → y ≤ M i j → ∃ x, T x ∧ x j - x i = y
  inn : ∀ x, T x → ∃ M ∈ all, ∀ i j, i < n → j < n → - M j i ≤ x j - x i ∧ x j - x i ≤ M i j
  flat : ∀ M ∈ all, ∀ i j, i < n → j < n → - M j i ≤ M i j
theorem exact_choose {n : Nat} (hn : 0 < n) {notes : List (List Way)} {B : Mat} (hin : InN n notes) (h : Closed n B) : Exact n (Truth n notes B) (choose notes B) := by
  have hc := choose_closed notes B hin h
  have hs := choose_sol notes B hin h
  have sh : ∀ (x : Nat → Int), Sol n B x → (∀ l ∈ notes, ∃ w ∈ l, w.ok x) → Truth n notes B (fun i => x i - x 0) := by
    intro x hx hw
    refine ⟨by simp, fun i j hi hj => ?_, fun l hl => ?_⟩
    · have := hx i j hi hj
      show x j - x 0 - (x i - x 0) ≤ B i j
      omega
    · obtain ⟨w, hw, h1, h2⟩ := hw l hl
      refine ⟨w, hw, ?_, ?_⟩
      · unfold Lim.ok at h1 ⊢
        show x w.1.b - x 0 - (x w.1.a - x 0) ≤ _
        omega
      · unfold Lim.ok at h2 ⊢
        show x w.2.b - x 0 - (x w.2.a - x 0) ≤ _
        omega
  have hsome : ∀ M ∈ choose notes B, ∀ i j y, i < n → j < n → - M j i ≤ y → y ≤ M i j → ∃ x, Truth n notes B x ∧ x j - x i = y := by
    intro M hM i j y hi hj h1 h2
    obtain ⟨x, hx, h0, he⟩ := reach (hc M hM) i j hi hj y h1 h2
    obtain ⟨h3, h4⟩ := (hs x).1 ⟨M, hM, hx⟩
    exact ⟨x, ⟨h0, h3, h4⟩, he⟩
  have hinn : ∀ x, Truth n notes B x → ∃ M ∈ choose notes B, ∀ i j, i < n → j < n → - M j i ≤ x j - x i ∧ x j - x i ≤ M i j := by
    rintro x ⟨-, hx, hw⟩
    obtain ⟨M, hM, hx'⟩ := (hs x).2 ⟨hx, hw⟩
    refine ⟨M, hM, fun i j hi hj => ?_⟩
    have h1 := hx' i j hi hj
    have h2 := hx' j i hj hi
    exact ⟨by omega, h1⟩
  refine ⟨⟨fun h0 x hx => ?_, fun h0 => ?_⟩, hsome, hinn, fun M hM i j hi hj => ?_⟩
  · obtain ⟨M, hM, -⟩ := hinn x hx
    rw [h0] at hM
    cases hM
  · rw [List.eq_nil_iff_forall_not_mem]
    intro M hM
    have h1 := (hc M hM).1 0 hn
    obtain ⟨x, hx, -⟩ := hsome M hM 0 0 0 hn hn (by omega) (by omega)
    exact h0 x hx
  · have h1 := (hc M hM).2 i i j hi hi hj
    have h2 := (hc M hM).1 i hi
    omega
/-- The ends of a joined span are reached, and it has all truths. -/
theorem Exact.span {n : Nat} {T : (Nat → Int) → Prop} {all : List Mat} (h : Exact n T all) (h0 : all ≠ []) (i j : Nat) (hi : i < n) (hj : j < n) :
    (∃ x, T x ∧ x j - x i = (joined (spanIn i j) all).1) ∧ (∃ x, T x ∧ x j - x i = (joined (spanIn i j) all).2) ∧ ∀ x, T x → (joined (spanIn i j) all).1 ≤ x j - x i ∧ x j - x i ≤ (joined (spanIn i j) all).2 := by
  obtain ⟨⟨M, hM, e1⟩, ⟨M', hM', e2⟩, e3⟩ := joined_spec (spanIn i j) h0
  refine ⟨?_, ?_, fun x hx => ?_⟩
  · rw [e1]
    exact h.some M hM i j _ hi hj (Int.le_refl _) (h.flat M hM i j hi hj)
  · rw [e2]
    exact h.some M' hM' i j _ hi hj (h.flat M' hM' i j hi hj) (Int.le_refl _)
  · obtain ⟨M'', hM'', hb⟩ := h.inn x hx
    have h1 := hb i j hi hj
    have h2 := e3 M'' hM''
    simp only [spanIn] at h2 ⊢
    omega
end Dt
end
end
section
namespace Dt

structure Nt where
  kind : Nat
  stone : Nat
  other : Nat
  years : List Int
  lo : Int
  hi : Int
structure Dat where
  stones : Nat
  eras : List (Int × Int)
  notes : List Nt
def SpanOk (lo hi : Int) : Prop := -3000 ≤ lo ∧ lo ≤ hi ∧ hi ≤ 3000
structure Nt.Ok (d : Dat) (n : Nt) : Prop where
  stone : n.stone < d.stones
  kind : 1 ≤ n.kind ∧ n.kind ≤ 4
  years : n.kind = 1 → n.other = 0 ∧ n.lo = 0 ∧ n.hi = 0 ∧ 1 ≤ n.years.length ∧ n.years.length ≤ 3 ∧ (∀ y ∈ n.years, -3000 ≤ y ∧ y ≤ 3000) ∧ n.years.Pairwise (· < ·)
  span : n.kind ≠ 1 → n.years = [] ∧ SpanOk n.lo n.hi
  within : n.kind = 2 → n.other = 0
  era : n.kind = 3 → n.other < d.eras.length ∧ 1 ≤ n.lo
  after : n.kind = 4 → n.other < d.stones ∧ n.other ≠ n.stone
structure Dat.Ok (d : Dat) : Prop where
  stones : 1 ≤ d.stones ∧ d.stones ≤ 6
  eras : d.eras.length ≤ 3 ∧ ∀ s ∈ d.eras, SpanOk s.1 s.2
  notes : d.notes.length ≤ 8 ∧ ∀ n ∈ d.notes, n.Ok d
/-- Within which years a point is, if no note says anything. -/
def Dat.base (d : Dat) (p : Nat) : Int × Int := if p = 0 then (0, 0) else if p < 7 then (-3000, 3000) else d.eras.getD (p - 7) (-3000, 3000)
def Dat.unsaid (d : Dat) : Mat := fun i j => if i = j then 0 else (d.base j).2 - (d.base i).1
def apart (a b : Nat) (lo hi : Int) : Way := (⟨a, b, hi⟩, ⟨b, a, -lo⟩)
def Nt.ways (n : Nt) : List Way :=
  if n.kind = 1 then n.years.map fun y => apart 0 (1 + n.stone) y y
  else if n.kind = 2 then [apart 0 (1 + n.stone) n.lo n.hi]
  else if n.kind = 3 then [apart (7 + n.other) (1 + n.stone) (n.lo - 1) (n.hi - 1)]
  else [apart (1 + n.other) (1 + n.stone) n.lo n.hi]
/-- A note is right. -/
def Nt.right (n : Nt) (x : Nat → Int) : Prop :=
  if n.kind = 1 then x (1 + n.stone) ∈ n.years
  else if n.kind = 2 then n.lo ≤ x (1 + n.stone) ∧ x (1 + n.stone) ≤ n.hi
  else if n.kind = 3 then n.lo ≤ x (1 + n.stone) - x (7 + n.other) + 1 ∧ x (1 + n.stone) - x (7 + n.other) + 1 ≤ n.hi
  else n.lo ≤ x (1 + n.stone) - x (1 + n.other) ∧ x (1 + n.stone) - x (1 + n.other) ≤ n.hi
/-- A truth: the years of all points. -/
structure Dat.Is (d : Dat) (x : Nat → Int) : Prop where
  zero : x 0 = 0
  base : ∀ p, p < 10 → (d.base p).1 ≤ x p ∧ x p ≤ (d.base p).2
  notes : ∀ n ∈ d.notes, n.right x
theorem apart_ok (a b : Nat) (lo hi : Int) (x : Nat → Int) : (apart a b lo hi).ok x ↔ lo ≤ x b - x a ∧ x b - x a ≤ hi := by
  simp only [apart, Way.ok, Lim.ok]
  omega
theorem base_ok {d : Dat} (h : d.Ok) (p : Nat) (_ : p < 10) : (d.base p).1 ≤ (d.base p).2 := by
  unfold Dat.base
  split
  · simp
  · split
    · simp
    · cases hg : d.eras[p - 7]? with
      | none => simp [List.getD_eq_getElem?_getD, hg]
      | some s =>
        have := h.eras.2 s (List.mem_of_getElem? hg)
        simp only [List.getD_eq_getElem?_getD, hg, Option.getD_some]
        exact this.2.1
theorem unsaid_closed {d : Dat} (h : d.Ok) : Closed 10 d.unsaid := by
  refine ⟨fun i _ => by simp [Dat.unsaid], fun i j k hi hj hk => ?_⟩
  have h1 := base_ok h i hi
  have h2 := base_ok h k hk
  simp only [Dat.unsaid]
  split <;> split <;> split <;> simp_all <;> omega
theorem unsaid_sol {d : Dat} (x : Nat → Int) (h0 : x 0 = 0) : Sol 10 d.unsaid x ↔ ∀ p, p < 10 → (d.base p).1 ≤ x p ∧ x p ≤ (d.base p).2 := by
  have b0 : d.base 0 = (0, 0) := by simp [Dat.base]
  constructor
  · intro hx p hp
    by_cases hp0 : p = 0
    · subst hp0
      rw [b0]
      simp [h0]
    · have h1 := hx 0 p (by omega) hp
      have h2 := hx p 0 hp (by omega)
      simp only [Dat.unsaid, if_neg hp0, if_neg (Ne.symm hp0), b0] at h1 h2
      omega
  · intro hx i j hi hj
    have h1 := hx i hi
    have h2 := hx j hj
    simp only [Dat.unsaid]
    split
    · rename_i h
      subst h
      omega
    · omega
theorem ways_inn {d : Dat} {n : Nt} (hd : d.Ok) (h : n.Ok d) : ∀ w ∈ n.ways, w.inn 10 := by
  have hs := h.stone
  have h6 := hd.stones.2
  have h3 := hd.eras.1
  intro w hw
  unfold Nt.ways at hw
  split at hw
  · obtain ⟨y, -, rfl⟩ := List.mem_map.1 hw
    simp only [apart, Way.inn]
    omega
  · split at hw
    · simp only [List.mem_singleton] at hw
      subst hw
      simp only [apart, Way.inn]
      omega
    · split at hw
      · rename_i hk
        have := (h.era hk).1
        simp only [List.mem_singleton] at hw
        subst hw
        simp only [apart, Way.inn]
        omega
      · have h4 : n.kind = 4 := by have := h.kind; omega
        have := (h.after h4).1
        simp only [List.mem_singleton] at hw
        subst hw
        simp only [apart, Way.inn]
        omega
theorem ways_excl {d : Dat} {n : Nt} (h : n.Ok d) : Excl n.ways := by
  unfold Nt.ways Excl
  split
  · rename_i hk
    obtain ⟨-, -, -, -, -, -, hp⟩ := h.years hk
    rw [List.pairwise_map]
    refine hp.imp fun {a b} hab x => ?_
    rintro ⟨h1, h2⟩
    rw [apart_ok] at h1 h2
    omega
  · split
    · exact List.pairwise_singleton _ _
    · split <;> exact List.pairwise_singleton _ _
theorem ways_right (n : Nt) (x : Nat → Int) (h0 : x 0 = 0) : (∃ w ∈ n.ways, w.ok x) ↔ n.right x := by
  unfold Nt.ways Nt.right
  split
  · constructor
    · rintro ⟨w, hw, hok⟩
      obtain ⟨y, hy, rfl⟩ := List.mem_map.1 hw
      rw [apart_ok, h0] at hok
      have : x (1 + n.stone) = y := by omega
      rw [this]
      exact hy
    · intro h
      refine ⟨_, List.mem_map.2 ⟨_, h, rfl⟩, ?_⟩
      rw [apart_ok, h0]
      omega
  · split
    · simp only [List.mem_singleton, exists_eq_left, apart_ok, h0]
      omega
    · split
      · simp only [List.mem_singleton, exists_eq_left, apart_ok]
        omega
      · simp only [List.mem_singleton, exists_eq_left, apart_ok]
def Dat.all (d : Dat) : List Mat := choose (d.notes.map Nt.ways) d.unsaid
theorem all_exact {d : Dat} (h : d.Ok) : Exact 10 d.Is d.all := by
  have hin : InN 10 (d.notes.map Nt.ways) := by
    intro l hl
    obtain ⟨n, hn, rfl⟩ := List.mem_map.1 hl
    exact ways_inn h (h.notes.2 n hn)
  have e : Exact 10 (Truth 10 (d.notes.map Nt.ways) d.unsaid) d.all := exact_choose (by omega) hin (unsaid_closed h)
  have ht : Truth 10 (d.notes.map Nt.ways) d.unsaid = d.Is := by
    funext x
    apply propext
    constructor
    · rintro ⟨h0, h1, h2⟩
      exact ⟨h0, (unsaid_sol x h0).1 h1, fun n hn => (ways_right n x h0).1 (h2 _ (List.mem_map.2 ⟨n, hn, rfl⟩))⟩
    · rintro ⟨h0, h1, h2⟩
      refine ⟨h0, (unsaid_sol x h0).2 h1, fun l hl => ?_⟩
      obtain ⟨n, hn, rfl⟩ := List.mem_map.1 hl
      exact (ways_right n x h0).2 (h2 n hn)
  rw [← ht]
  exact e
/-- What the code hands out is what is left for each choice. -/
theorem all_code {d : Dat} (h : d.Ok) : chooseP 10 (d.notes.map Nt.ways) d.unsaid = d.all := by
  refine chooseP_eq (by omega) _ _ (fun l hl => ?_) (fun l hl => ?_) (unsaid_closed h)
  · obtain ⟨n, hn, rfl⟩ := List.mem_map.1 hl
    exact ways_inn h (h.notes.2 n hn)
  · obtain ⟨n, hn, rfl⟩ := List.mem_map.1 hl
    exact ways_excl (h.notes.2 n hn)
def Dat.may (d : Dat) : Prop := ∃ x, d.Is x
theorem may_iff {d : Dat} (h : d.Ok) : d.may ↔ d.all ≠ [] := by
  rw [Ne, (all_exact h).none]
  constructor
  · rintro ⟨x, hx⟩ hn
    exact hn x hx
  · intro hn
    exact Classical.byContradiction fun hc => hn fun x hx => hc ⟨x, hx⟩
/-- Between which years a point is. -/
def Dat.span (d : Dat) (p : Nat) : Int × Int := joined (spanIn 0 p) d.all
theorem span_spec {d : Dat} (h : d.Ok) (hm : d.may) (p : Nat) (hp : p < 10) :
    (∃ x, d.Is x ∧ x p = (d.span p).1) ∧ (∃ x, d.Is x ∧ x p = (d.span p).2) ∧ ∀ x, d.Is x → (d.span p).1 ≤ x p ∧ x p ≤ (d.span p).2 := by
  unfold Dat.span
  obtain ⟨⟨x, hx, h1⟩, ⟨y, hy, h2⟩, h3⟩ := (all_exact h).span ((may_iff h).1 hm) 0 p (by omega) hp
  refine ⟨⟨x, hx, ?_⟩, ⟨y, hy, ?_⟩, fun z hz => ?_⟩
  · rw [hx.zero] at h1; simpa using h1
  · rw [hy.zero] at h2; simpa using h2
  · have := h3 z hz
    rw [hz.zero] at this
    simpa using this
/-- Whether a point is in a year, as the code tells it. -/
def Dat.cutV (d : Dat) (p : Nat) (y : Int) : Nat := if d.span p = (y, y) then 1 else if d.all.any (fun M => decide (- M p 0 ≤ y) && decide (y ≤ M 0 p)) then 3 else 2
def Dat.laterV (d : Dat) (p q : Nat) : Nat := if 0 < (joined (spanIn p q) d.all).1 then 1 else if 0 < (joined (spanIn p q) d.all).2 then 3 else 2
/-- A verdict on what is so in truths. -/
structure Verdict (T : (Nat → Int) → Prop) (so : (Nat → Int) → Prop) (v : Nat) : Prop where
  yes : v = 1 ↔ ∀ x, T x → so x
  no : v = 2 ↔ ∀ x, T x → ¬ so x
  rest : v = 1 ∨ v = 2 ∨ v = 3
theorem cutV_spec {d : Dat} (h : d.Ok) (hm : d.may) (p : Nat) (hp : p < 10) (y : Int) : Verdict d.Is (fun x => x p = y) (d.cutV p y) := by
  obtain ⟨⟨a, ha, h1⟩, ⟨b, hb, h2⟩, h3⟩ := span_spec h hm p hp
  have e := all_exact h
  have hany : (d.all.any (fun M => decide (- M p 0 ≤ y) && decide (y ≤ M 0 p))) = true ↔ ∃ x, d.Is x ∧ x p = y := by
    rw [List.any_eq_true]
    constructor
    · rintro ⟨M, hM, hb⟩
      simp only [Bool.and_eq_true, decide_eq_true_eq] at hb
      obtain ⟨x, hx, he⟩ := e.some M hM 0 p y (by omega) hp hb.1 hb.2
      rw [hx.zero] at he
      exact ⟨x, hx, by simpa using he⟩
    · rintro ⟨x, hx, rfl⟩
      obtain ⟨M, hM, hb⟩ := e.inn x hx
      have := hb 0 p (by omega) hp
      rw [hx.zero] at this
      refine ⟨M, hM, ?_⟩
      simp only [Bool.and_eq_true, decide_eq_true_eq]
      simpa using this
  have hspan : d.span p = (y, y) ↔ ∀ x, d.Is x → x p = y := by
    constructor
    · intro hs x hx
      have := h3 x hx
      rw [hs] at this
      simp at this
      omega
    · intro hall
      have e1 := hall a ha
      have e2 := hall b hb
      exact Prod.ext (by rw [← h1]; exact e1) (by rw [← h2]; exact e2)
  unfold Dat.cutV
  by_cases c1 : d.span p = (y, y)
  · rw [if_pos c1]
    refine ⟨⟨fun _ => hspan.1 c1, fun _ => rfl⟩, ⟨fun h => by simp at h, fun hn => absurd (hspan.1 c1 a ha) (hn a ha)⟩, .inl rfl⟩
  · rw [if_neg c1]
    by_cases c2 : (d.all.any (fun M => decide (- M p 0 ≤ y) && decide (y ≤ M 0 p))) = true
    · rw [if_pos c2]
      obtain ⟨x, hx, hxy⟩ := hany.1 c2
      exact ⟨⟨fun h => by simp at h, fun hall => absurd (hspan.2 hall) c1⟩, ⟨fun h => by simp at h, fun hn => absurd hxy (hn x hx)⟩, .inr (.inr rfl)⟩
    · rw [if_neg c2]
      refine ⟨⟨fun h => by simp at h, fun hall => absurd (hspan.2 hall) c1⟩, ⟨fun _ x hx hxy => c2 (hany.2 ⟨x, hx, hxy⟩), fun _ => rfl⟩, .inr (.inl rfl)⟩
theorem laterV_spec {d : Dat} (h : d.Ok) (hm : d.may) (p q : Nat) (hp : p < 10) (hq : q < 10) : Verdict d.Is (fun x => x p < x q) (d.laterV p q) := by
  obtain ⟨⟨a, ha, h1⟩, ⟨b, hb, h2⟩, h3⟩ := (all_exact h).span ((may_iff h).1 hm) p q hp hq
  unfold Dat.laterV
  by_cases c1 : 0 < (joined (spanIn p q) d.all).1
  · rw [if_pos c1]
    refine ⟨⟨fun _ x hx => by have := h3 x hx; omega, fun _ => rfl⟩, ⟨fun h => by simp at h, fun hn => absurd (show a p < a q by omega) (hn a ha)⟩, .inl rfl⟩
  · rw [if_neg c1]
    by_cases c2 : 0 < (joined (spanIn p q) d.all).2
    · rw [if_pos c2]
      exact ⟨⟨fun h => by simp at h, fun hall => by have := hall a ha; omega⟩, ⟨fun h => by simp at h, fun hn => absurd (show b p < b q by omega) (hn b hb)⟩, .inr (.inr rfl)⟩
    · rw [if_neg c2]
      refine ⟨⟨fun h => by simp at h, fun hall => by have := hall a ha; omega⟩, ⟨fun _ x hx hlt => by have := h3 x hx; omega, fun _ => rfl⟩, .inr (.inl rfl)⟩
end Dt
end
end Go.Proofs.Ytcbdcdpoackplaa
