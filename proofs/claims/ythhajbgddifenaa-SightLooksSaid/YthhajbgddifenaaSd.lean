/- Sight and the reference, of any line: one answer. · A valid line as a raw one; a copy with a light more. -/
import Derived.Test.YthhajbgddifenaaSb
import Derived.Test.YthhajbgddifenaaV
import Derived.Test.YthhajbgddifenaaYn
import Derived.Test.YthhajbgddifenaaMq
namespace Go.Proofs.Ythhajbgddifenaa
section
open Go.RowKit Go.Shelf

/-- A line, as a value over the call's memory; over its own if it is valid. -/
def OLine (w : World) (v : Value) (R : RLine) : Prop := RLineAt w w.heap.size v R ∧ (lineErr R = 0 → LineAt w w.heap.size v R.real)
theorem OLine.keep {w W : World} {v : Value} {R : RLine} (h : OLine w v R) (hb : Below w.heap.size w W) : OLine W v R :=
  ⟨h.1.keep (SameA.of_below hb) hb.size, fun he => (h.2 he).keep (Same.of_below hb) hb.size⟩
theorem OLine.of_own {B : Nat} {w : World} {vh vq : Value} {R : RLine} {svs lvs : List Value} (h : ROwn B w vh vq R svs lvs) : OLine w (rlineV vh vq R) R := by
  refine ⟨h.line, fun he => ?_⟩
  have e := (line_of he).2
  have h2 : ROwn B w vh vq R.real.raw svs lvs := by rw [e]; exact h
  have h3 := h2.lineAt
  rw [e] at h3
  exact h3
theorem RLineAt.form {w : World} {B : Nat} {v : Value} {R : RLine} (h : RLineAt w B v R) : ∃ vh vs, v = .agg #[vh, .int .i64 R.worn, .int .i64 R.scr, .int .i64 R.total, vs] ∧ (∃ A n k, vh = .slice A n k) ∧ ∃ A n k, vs = .slice A n k := by
  obtain ⟨vh, vs, rfl, hh, hq⟩ := h
  obtain ⟨AH, ch, rfl, -⟩ := RSl.form hh
  obtain ⟨AQ, cq, rfl, -⟩ := RSl.form hq
  exact ⟨_, _, rfl, ⟨_, _, _, rfl⟩, _, _, _, rfl⟩
def hErr (R : RLine) : Int := if lineErr R ≠ 0 then lineErr R else if handsOf R.real = [] then 9 else 0
def hList (R : RLine) : List Nat := if lineErr R ≠ 0 then [] else handsOf R.real
def tList (R : RLine) : List ByteArray := if lineErr R ≠ 0 ∨ handsOf R.real = [] then [] else lettersOf R.real
def yVal (R : RLine) : Int × Int := if lineErr R ≠ 0 ∨ handsOf R.real = [] then (0, 0) else yearsOf R.real
def pVal (R : RLine) : ByteArray := if lineErr R ≠ 0 ∨ handsOf R.real = [] then ByteArray.empty else printTo (lettersOf R.real)
def mErr (R : RLine) : Int := if lineErr R ≠ 0 then lineErr R else if marksOf R.real = 81 then 9 else 0
def mVal (R : RLine) : Nat := if lineErr R ≠ 0 ∨ marksOf R.real = 81 then 0 else marksOf R.real
def kVal (R : RLine) : Nat × Nat := if lineErr R ≠ 0 ∨ handsOf R.real = [] then (0, 0) else lookAt (restL R.real) (R.real.squares.length - 1)
section
variable {R : RLine}
theorem u_err (h : lineErr R ≠ 0) : hErr R = lineErr R ∧ hList R = [] ∧ tList R = [] ∧ yVal R = (0, 0) ∧ pVal R = ByteArray.empty ∧ mErr R = lineErr R ∧ mVal R = 0 ∧ kVal R = (0, 0) := by
  unfold hErr hList tList yVal pVal mErr mVal kVal
  simp [h]
theorem u_none (h : lineErr R = 0) (hz : handsOf R.real = []) : hErr R = 9 ∧ hList R = [] ∧ tList R = [] ∧ yVal R = (0, 0) ∧ pVal R = ByteArray.empty ∧ kVal R = (0, 0) := by
  unfold hErr hList tList yVal pVal kVal
  simp [h, hz]
theorem u_some (h : lineErr R = 0) (hz : handsOf R.real ≠ []) : hErr R = 0 ∧ hList R = handsOf R.real ∧ tList R = lettersOf R.real ∧ yVal R = yearsOf R.real ∧ pVal R = printTo (lettersOf R.real) ∧ kVal R = lookAt (restL R.real) (R.real.squares.length - 1) := by
  unfold hErr hList tList yVal pVal kVal
  simp [h, hz]
theorem u_marks (h : lineErr R = 0) : (marksOf R.real = 81 → mErr R = 9 ∧ mVal R = 0) ∧ (marksOf R.real ≠ 81 → mErr R = 0 ∧ mVal R = marksOf R.real) := by
  unfold mErr mVal
  constructor <;> intro h2 <;> simp [h, h2]
end
def HandsU (R : RLine) (w : World) (e : Ending) (w' : World) : Prop := ∃ u, e = .returned (.tuple #[u, .int .i64 (hErr R)]) ∧ Ints w' w'.heap.size u (hList R) ∧ Below w.heap.size w w'
def LettersU (R : RLine) (w : World) (e : Ending) (w' : World) : Prop := ∃ u, e = .returned (.tuple #[u, .int .i64 (hErr R)]) ∧ Texts w' w'.heap.size u (tList R) ∧ Below w.heap.size w w'
def YearsU (R : RLine) (w : World) (e : Ending) (w' : World) : Prop := e = .returned (.tuple #[.agg #[.int .i64 (yVal R).1, .int .i64 (yVal R).2], .int .i64 (hErr R)]) ∧ Below w.heap.size w w'
def PrintU (R : RLine) (w : World) (e : Ending) (w' : World) : Prop := e = .returned (.tuple #[.string (pVal R), .int .i64 (hErr R)]) ∧ Below w.heap.size w w'
def MarksU (R : RLine) (w : World) (e : Ending) (w' : World) : Prop := e = .returned (.tuple #[.int .i64 (mVal R), .int .i64 (mErr R)]) ∧ Below w.heap.size w w'
def LookU (R : RLine) (w : World) (e : Ending) (w' : World) : Prop := e = .returned (.tuple #[.int .i64 (kVal R).1, .int .i64 (kVal R).2, .int .i64 (hErr R)]) ∧ Below w.heap.size w w'
theorem ints_nil (w : World) (B : Nat) : Ints w B (.slice none 0 0) [] := ⟨none, 0, rfl, fun h => by simp at h⟩
theorem texts_nil (w : World) (B : Nat) : Texts w B (.slice none 0 0) [] := ⟨none, 0, rfl, fun h => by simp at h⟩
theorem texts_own {w : World} {base n : Nat} {v : Value} {ts : List ByteArray} (h : w.ownsRow base 9 1 v n (ts.map Value.string)) (hn : n = ts.length) : Texts w w.heap.size v ts := by
  subst hn
  refine sl_own h fun g hg hc k x hx => ?_
  have hk := (List.getElem?_eq_some_iff.1 hx).1
  rw [Nat.zero_add]
  exact hc _ _ (by omega) (by rw [List.getElem?_map, hx]; rfl)
section
variable (v : Value) (R : RLine) (w : World)
theorem real_at {B : Nat} (h : RLineAt w B v R) (he : lineErr R = 0) : RLineAt w B v R.real.raw := by rw [(line_of he).2]; exact h
theorem handsU_of {L : Line} {e : Ending} {w' : World} (he : lineErr R = 0) (hL : R.real = L) (h : HandsPost L w e w') : HandsU R w e w' := by
  subst hL
  rcases h with ⟨hb, ⟨hz, rfl⟩ | ⟨hz, u, rfl, hi, _⟩⟩
  · obtain ⟨e1, e2, _⟩ := u_none he hz
    exact ⟨_, by rw [e1], by rw [e2]; exact ints_nil _ _, hb⟩
  · obtain ⟨e1, e2, _⟩ := u_some he hz
    exact ⟨u, by rw [e1], by rw [e2]; exact hi, hb⟩
theorem handsU_err {e : Ending} {w' : World} (he : lineErr R ≠ 0) (h : e = .returned (.tuple #[.slice none 0 0, .int .i64 (lineErr R)]) ∧ Below w.heap.size w w') : HandsU R w e w' := by
  obtain ⟨rfl, hb⟩ := h
  obtain ⟨e1, e2, _⟩ := u_err he
  exact ⟨_, by rw [e1], by rw [e2]; exact ints_nil _ _, hb⟩
theorem lettersU_of {L : Line} {e : Ending} {w' : World} (he : lineErr R = 0) (hL : R.real = L) (h : LettersPost L w e w') : LettersU R w e w' := by
  subst hL
  rcases h with ⟨hb, ⟨hz, rfl⟩ | ⟨hz, u, rfl, hi⟩⟩
  · obtain ⟨e1, _, e2, _⟩ := u_none he hz
    exact ⟨_, by rw [e1], by rw [e2]; exact texts_nil _ _, hb⟩
  · obtain ⟨e1, _, e2, _⟩ := u_some he hz
    exact ⟨u, by rw [e1], by rw [e2]; exact texts_own hi (lettersOf_len _).symm, hb⟩
theorem lettersU_err {e : Ending} {w' : World} (he : lineErr R ≠ 0) (h : e = .returned (.tuple #[.slice none 0 0, .int .i64 (lineErr R)]) ∧ Below w.heap.size w w') : LettersU R w e w' := by
  obtain ⟨rfl, hb⟩ := h
  obtain ⟨e1, _, e2, _⟩ := u_err he
  exact ⟨_, by rw [e1], by rw [e2]; exact texts_nil _ _, hb⟩
variable {v w R}
theorem sCheck_u (h : OLine w v R) : Calls Try.prog 25 #[v] w fun e w' => e = .returned (.int .i64 (lineErr R)) ∧ Below w.heap.size w w' := rcheck_any v R w h.1
theorem sHands_err (h : OLine w v R) (he : lineErr R ≠ 0) : Calls Try.prog 19 #[v] w fun e w' => e = .returned (.tuple #[.slice none 0 0, .int .i64 (lineErr R)]) ∧ Below w.heap.size w w' := by
  obtain ⟨vh, vs, e, hf⟩ := h.1.form
  exact sHands_no v vh vs _ _ _ _ w e hf he fun W hW => sCheck_u (h.keep hW)
theorem sLetters_err (h : OLine w v R) (he : lineErr R ≠ 0) : Calls Try.prog 21 #[v] w fun e w' => e = .returned (.tuple #[.slice none 0 0, .int .i64 (lineErr R)]) ∧ Below w.heap.size w w' := by
  obtain ⟨vh, vs, e, hf⟩ := h.1.form
  exact sLetters_no v vh vs _ _ _ _ w e hf he fun W hW => sHands_err (h.keep hW) he
theorem sHands_u (h : OLine w v R) : Calls Try.prog 19 #[v] w (HandsU R w) := by
  by_cases he : lineErr R = 0
  · exact (hands_any v R.real w (line_of he).1 (h.2 he)).mono fun _ _ hp => handsU_of _ _ he rfl hp
  · exact (sHands_err h he).mono fun _ _ hp => handsU_err _ _ he hp
theorem rHands_u (h : RLineAt w w.heap.size v R) : Calls Try.prog 20 #[v] w (HandsU R w) := by
  by_cases he : lineErr R = 0
  · exact (rHands_ok v R.real w (line_of he).1 (real_at _ _ _ h he)).mono fun _ _ hp => handsU_of _ _ he rfl hp
  · exact (rHands_err v R w h he).mono fun _ _ hp => handsU_err _ _ he hp
theorem sLetters_u (h : OLine w v R) : Calls Try.prog 21 #[v] w (LettersU R w) := by
  by_cases he : lineErr R = 0
  · exact (letters_any Unit v R.real w (line_of he).1 (h.2 he)).mono fun _ _ hp => lettersU_of _ _ he rfl hp
  · exact (sLetters_err h he).mono fun _ _ hp => lettersU_err _ _ he hp
theorem rLetters_u (h : RLineAt w w.heap.size v R) : Calls Try.prog 22 #[v] w (LettersU R w) := by
  by_cases he : lineErr R = 0
  · exact (rLetters_ok v R.real w (line_of he).1 (real_at _ _ _ h he)).mono fun _ _ hp => lettersU_of _ _ he rfl hp
  · exact (rLetters_err v R w h he).mono fun _ _ hp => lettersU_err _ _ he hp
theorem sYears_u (h : OLine w v R) : Calls Try.prog 23 #[v] w (YearsU R w) := by
  by_cases he : lineErr R = 0
  · by_cases hz : handsOf R.real = []
    · obtain ⟨e1, _, _, e2, _⟩ := u_none he hz
      refine (years_none v R.real w (line_of he).1 (h.2 he) hz).mono fun _ _ hp => ?_
      obtain ⟨rfl, hb⟩ := hp
      exact ⟨by rw [e1, e2], hb⟩
    · obtain ⟨e1, _, _, e2, _⟩ := u_some he hz
      obtain ⟨h0, hs, hc⟩ : ∃ h0 hs, handsOf R.real = h0 :: hs := by
        cases h : handsOf R.real with
        | nil => exact absurd h hz
        | cons a b => exact ⟨a, b, rfl⟩
      refine (years_any v R.real w (line_of he).1 (h.2 he) h0 hs hc).mono fun _ _ hp => ?_
      obtain ⟨rfl, hb⟩ := hp
      exact ⟨by rw [e1, e2], hb⟩
  · obtain ⟨e1, _, _, e2, _⟩ := u_err he
    obtain ⟨vh, vs, e, hf⟩ := h.1.form
    refine (sYears_no v vh vs _ _ _ _ w e hf he fun W hW => sHands_err (h.keep hW) he).mono fun _ _ hp => ?_
    obtain ⟨rfl, hb⟩ := hp
    exact ⟨by rw [e1, e2], hb⟩
theorem rYears_u (h : RLineAt w w.heap.size v R) : Calls Try.prog 24 #[v] w (YearsU R w) := by
  obtain ⟨vh, vs, e, hf⟩ := h.form
  by_cases he : lineErr R = 0
  · by_cases hz : handsOf R.real = []
    · obtain ⟨e1, _, _, e2, _⟩ := u_none he hz
      refine (rYears_no v vh vs _ _ _ 9 w e hf (by decide) fun W hW => rHands_none v R.real W (line_of he).1 ((real_at _ _ _ h he).keep (SameA.of_below hW) hW.size) hz).mono fun _ _ hp => ?_
      obtain ⟨rfl, hb⟩ := hp
      exact ⟨by rw [e1, e2], hb⟩
    · obtain ⟨e1, _, _, e2, _⟩ := u_some he hz
      refine (rYears_ok v R.real w (line_of he).1 (real_at _ _ _ h he) hz).mono fun _ _ hp => ?_
      obtain ⟨rfl, hb⟩ := hp
      exact ⟨by rw [e1, e2], hb⟩
  · obtain ⟨e1, _, _, e2, _⟩ := u_err he
    refine (rYears_no v vh vs _ _ _ _ w e hf he fun W hW => rHands_err v R W (h.keep (SameA.of_below hW) hW.size) he).mono fun _ _ hp => ?_
    obtain ⟨rfl, hb⟩ := hp
    exact ⟨by rw [e1, e2], hb⟩
theorem sPrint_u (h : OLine w v R) : Calls Try.prog 30 #[v] w (PrintU R w) := by
  by_cases he : lineErr R = 0
  · by_cases hz : handsOf R.real = []
    · obtain ⟨e1, _, _, _, e2, _⟩ := u_none he hz
      refine (print_none Unit v R.real w (line_of he).1 (h.2 he) hz).mono fun _ _ hp => ?_
      obtain ⟨rfl, hb⟩ := hp
      exact ⟨by rw [e1, e2]; rfl, hb⟩
    · obtain ⟨e1, _, _, _, e2, _⟩ := u_some he hz
      refine (print_any Unit v R.real w (line_of he).1 (h.2 he) hz).mono fun _ _ hp => ?_
      obtain ⟨rfl, hb⟩ := hp
      exact ⟨by rw [e1, e2], hb⟩
  · obtain ⟨e1, _, _, _, e2, _⟩ := u_err he
    obtain ⟨vh, vs, e, hf⟩ := h.1.form
    refine (sPrint_no v vh vs _ _ _ _ w e hf he fun W hW => sLetters_err (h.keep hW) he).mono fun _ _ hp => ?_
    obtain ⟨rfl, hb⟩ := hp
    exact ⟨by rw [e1, e2], hb⟩
theorem rPrint_u (h : RLineAt w w.heap.size v R) : Calls Try.prog 31 #[v] w (PrintU R w) := by
  by_cases he : lineErr R = 0
  · by_cases hz : handsOf R.real = []
    · obtain ⟨e1, _, _, _, e2, _⟩ := u_none he hz
      refine (rPrint_none v R.real w (line_of he).1 (real_at _ _ _ h he) hz).mono fun _ _ hp => ?_
      obtain ⟨rfl, hb⟩ := hp
      exact ⟨by rw [e1, e2], hb⟩
    · obtain ⟨e1, _, _, _, e2, _⟩ := u_some he hz
      refine (rPrint_ok v R.real w (line_of he).1 (real_at _ _ _ h he) hz).mono fun _ _ hp => ?_
      obtain ⟨rfl, hb⟩ := hp
      exact ⟨by rw [e1, e2], hb⟩
  · obtain ⟨e1, _, _, _, e2, _⟩ := u_err he
    refine (rPrint_err v R w h he).mono fun _ _ hp => ?_
    obtain ⟨rfl, hb⟩ := hp
    exact ⟨by rw [e1, e2], hb⟩
theorem marksU_of {e : Ending} {w' : World} (he : lineErr R = 0) (h : MarksPost R.real w e w') : MarksU R w e w' := by
  rcases h with ⟨hb, ⟨hz, rfl⟩ | ⟨hz, rfl⟩⟩
  · obtain ⟨e1, e2⟩ := (u_marks he).1 hz
    exact ⟨by rw [e1, e2]; rfl, hb⟩
  · obtain ⟨e1, e2⟩ := (u_marks he).2 hz
    exact ⟨by rw [e1, e2], hb⟩
theorem marksU_err {e : Ending} {w' : World} (he : lineErr R ≠ 0) (h : e = .returned (.tuple #[.int .i64 0, .int .i64 (lineErr R)]) ∧ Below w.heap.size w w') : MarksU R w e w' := by
  obtain ⟨rfl, hb⟩ := h
  obtain ⟨_, _, _, _, _, e1, e2, _⟩ := u_err he
  exact ⟨by rw [e1, e2]; rfl, hb⟩
theorem sMarks_u (h : OLine w v R) : Calls Try.prog 32 #[v] w (MarksU R w) := by
  by_cases he : lineErr R = 0
  · exact (marks_any v R.real w (line_of he).1 (h.2 he)).mono fun _ _ hp => marksU_of he hp
  · obtain ⟨vh, vs, e, hf⟩ := h.1.form
    exact (sMarks_no v vh vs _ _ _ _ w e hf he fun W hW => sCheck_u (h.keep hW)).mono fun _ _ hp => marksU_err he hp
theorem rMarks_u (h : RLineAt w w.heap.size v R) : Calls Try.prog 33 #[v] w (MarksU R w) := by
  by_cases he : lineErr R = 0
  · exact (rMarks_ok v R.real w (line_of he).1 (real_at _ _ _ h he)).mono fun _ _ hp => marksU_of he hp
  · exact (rMarks_err v R w h he).mono fun _ _ hp => marksU_err he hp
theorem sLook_u (h : OLine w v R) : Calls Try.prog 34 #[v] w (LookU R w) := by
  obtain ⟨vh, vs, e, hf⟩ := h.1.form
  by_cases he : lineErr R = 0
  · by_cases hz : handsOf R.real = []
    · obtain ⟨e1, _, _, _, _, e2⟩ := u_none he hz
      refine (sLook_no v vh vs _ _ _ 9 w e hf (by decide) fun W hW => letters_none Unit v R.real W (line_of he).1 ((h.keep hW).2 he) hz).mono fun _ _ hp => ?_
      obtain ⟨rfl, hb⟩ := hp
      exact ⟨by rw [e1, e2]; rfl, hb⟩
    · obtain ⟨e1, _, _, _, _, e2⟩ := u_some he hz
      refine (look_some v R.real w (line_of he).1 (h.2 he) hz).mono fun _ _ hp => ?_
      obtain ⟨a, b, ⟨rfl, rfl⟩, rfl, hb⟩ := hp
      exact ⟨by rw [e1, e2], hb⟩
  · obtain ⟨e1, _, _, _, _, _, _, e2⟩ := u_err he
    refine (sLook_no v vh vs _ _ _ _ w e hf he fun W hW => sLetters_err (h.keep hW) he).mono fun _ _ hp => ?_
    obtain ⟨rfl, hb⟩ := hp
    exact ⟨by rw [e1, e2]; rfl, hb⟩
theorem rLook_u (h : RLineAt w w.heap.size v R) : Calls Try.prog 35 #[v] w (LookU R w) := by
  obtain ⟨vh, vs, e, hf⟩ := h.form
  by_cases he : lineErr R = 0
  · by_cases hz : handsOf R.real = []
    · obtain ⟨e1, _, _, _, _, e2⟩ := u_none he hz
      refine (rLook_no v vh vs _ _ _ 9 w e hf (by decide) fun W hW => rHands_none v R.real W (line_of he).1 ((real_at _ _ _ h he).keep (SameA.of_below hW) hW.size) hz).mono fun _ _ hp => ?_
      obtain ⟨rfl, hb⟩ := hp
      exact ⟨by rw [e1, e2]; rfl, hb⟩
    · obtain ⟨e1, _, _, _, _, e2⟩ := u_some he hz
      refine (rLook_ok v R.real w (line_of he).1 (real_at _ _ _ h he) hz).mono fun _ _ hp => ?_
      obtain ⟨a, b, ⟨rfl, rfl⟩, rfl, hb⟩ := hp
      exact ⟨by rw [e1, e2], hb⟩
  · obtain ⟨e1, _, _, _, _, _, _, e2⟩ := u_err he
    refine (rLook_no v vh vs _ _ _ _ w e hf he fun W hW => rHands_err v R W (h.keep (SameA.of_below hW) hW.size) he).mono fun _ _ hp => ?_
    obtain ⟨rfl, hb⟩ := hp
    exact ⟨by rw [e1, e2]; rfl, hb⟩
end
end
section
open Go.RowKit Go.Shelf

theorem getElem?_raw {α β : Type} {f : α → β} {l : List α} {k : Nat} {y : β} (h : (l.map f)[k]? = some y) : ∃ x, l[k]? = some x ∧ y = f x := by
  rw [List.getElem?_map, Option.map_eq_some_iff] at h
  obtain ⟨x, h1, h2⟩ := h
  exact ⟨x, h1, h2.symm⟩
theorem ShapesB.raw {w : World} {v : Value} {S : List Shape} (h : ShapesB w v S) : RShapes w w.heap.size v (S.map Shape.raw) := by
  have hs := h.shapes
  obtain ⟨b, c, cur, rfl, -, -⟩ := h
  refine Sl.raw hs (by simp) (.inr ⟨_, _, rfl⟩) fun b o _ hr k y hy => ?_
  obtain ⟨x, hx, rfl⟩ := getElem?_raw hy
  rw [addr_add, addr_add]
  exact hr k x hx
theorem LightsB.raw {w : World} {v : Value} {q : List Light} (h : LightsB w v q) : RLights w w.heap.size v (q.map Light.raw) := by
  have hs := h.lights
  refine Sl.raw hs (by simp) ?_ fun b o _ hr k y hy => ?_
  · rcases h with ⟨rfl, _⟩ | ⟨b, c, cur, rfl, _⟩
    · exact .inl rfl
    · exact .inr ⟨_, _, rfl⟩
  · obtain ⟨x, hx, rfl⟩ := getElem?_raw hy
    rw [addr_add, addr_add]
    exact hr k x hx
theorem LineB.raw {w : World} {v : Value} {L : Line} (h : LineB w v L) : RLineAt w w.heap.size v L.raw := by
  obtain ⟨vh, vs, rfl, h1, h2⟩ := h
  refine ⟨vh, vs, rfl, ?_, ?_⟩
  · obtain ⟨b, c, rfl, hk⟩ := h1.at_
    have hlen : L.raw.hands.length = L.hands.length := by simp [Line.raw]
    refine .inr ⟨⟨b, 0, none⟩, c, by rw [hlen], fun h0 => ⟨?_, fun k y hy => ?_⟩⟩
    · obtain ⟨a, ha⟩ : ∃ a, L.hands[0]? = some a := ⟨_, List.getElem?_eq_getElem (by rw [← hlen]; exact h0)⟩
      obtain ⟨sv, _, hc, _⟩ := hk 0 a ha
      exact World.block_lt_of_cell? w _ hc
    · obtain ⟨x, hx, rfl⟩ := getElem?_raw hy
      obtain ⟨sv, g1, g2, g3, g4⟩ := hk k x hx
      rw [addr0, addr0, addr0]
      exact ⟨g2, g3, sv, g4, g1.raw⟩
  · obtain ⟨b, c, rfl, hb, hk⟩ := h2.at_
    have hlen : L.raw.squares.length = L.squares.length := by simp [Line.raw]
    refine .inr ⟨⟨b, 0, none⟩, c, by rw [hlen], fun h0 => ⟨hb, fun k y hy => ?_⟩⟩
    obtain ⟨x, hx, rfl⟩ := getElem?_raw hy
    obtain ⟨lv, g1, g2⟩ := hk k x hx
    rw [addr0]
    exact ⟨lv, g2, g1.raw⟩
/-- As ROwn; two squares may be in one row. -/
structure ROwnW (B : Nat) (w : World) (vh vq : Value) (L : RLine) (svs lvs : List Value) : Prop where
  hands : w.ownsRow B 68 3 vh L.hands.length (rhdCells L.hands svs)
  shapes : ShOwn B w L.hands svs
  squares : w.ownsRow B 39 1 vq L.squares.length lvs
  len : lvs.length = L.squares.length
  lights : ∀ (k : Nat) (q : List RLight) (v : Value), L.squares[k]? = some q → lvs[k]? = some v → w.ownsRow B 27 2 v q.length (rltCells q)
theorem ROwnW.line {B : Nat} {w : World} {vh vq : Value} {L : RLine} {svs lvs : List Value} (h : ROwnW B w vh vq L svs lvs) : RLineAt w w.heap.size (rlineV vh vq L) L := by
  refine ⟨vh, vq, rfl, ?_, ?_⟩
  · rcases own_cells h.hands with h0 | ⟨g, c, rfl, hg, _, hc⟩
    · exact .inl h0
    · refine .inr ⟨_, c, rfl, fun _ => ⟨hg, fun k y hy => ?_⟩⟩
      have hk := (List.getElem?_eq_some_iff.1 hy).1
      obtain ⟨sv, hsv⟩ : ∃ sv, svs[k]? = some sv := ⟨_, List.getElem?_eq_getElem (by rw [h.shapes.1]; exact hk)⟩
      obtain ⟨g1, g2, g3⟩ := rhdCells_get L.hands svs k y sv hy hsv
      rw [addr0, addr0, addr0]
      exact ⟨hc _ _ (by omega) g1, hc _ _ (by omega) g2, sv, hc _ _ (by omega) g3, RShapes.of_own (h.shapes.2 k y sv hy hsv)⟩
  · rcases own_cells h.squares with h0 | ⟨g, c, rfl, hg, _, hc⟩
    · exact .inl h0
    · refine .inr ⟨_, c, rfl, fun _ => ⟨hg, fun k y hy => ?_⟩⟩
      have hk := (List.getElem?_eq_some_iff.1 hy).1
      obtain ⟨lv, hlv⟩ : ∃ lv, lvs[k]? = some lv := ⟨_, List.getElem?_eq_getElem (by rw [h.len]; exact hk)⟩
      rw [addr0]
      exact ⟨lv, hc _ _ (by omega) hlv, RLights.of_own (h.lights k y lv hy hlv)⟩
/-- A raw line with another square. -/
def RLine.withSquare (L : RLine) (k : Nat) (q : List RLight) : RLine := { L with squares := L.squares.set k q }
theorem lt_ne {B : Nat} {w : World} {qs : List (List RLight)} {lvs : List Value} (h : LtOwn B w qs lvs) {i k : Nat} {a b : Value} (ha : lvs[i]? = some a) (hb : lvs[k]? = some b) (hik : i ≠ k) : a.ownBlock = none ∨ a.ownBlock ≠ b.ownBlock := by
  obtain ⟨hi, e1⟩ := List.getElem?_eq_some_iff.1 ha
  obtain ⟨hk, e2⟩ := List.getElem?_eq_some_iff.1 hb
  have hp := List.pairwise_iff_getElem.1 h.2.2
  cases hx : a.ownBlock with
  | none => exact .inl rfl
  | some g =>
    right
    intro e
    rcases Nat.lt_or_gt_of_ne hik with h1 | h1
    · have := hp i k hi hk h1 g (by rw [e1]; exact hx)
      rw [e2] at this
      exact this e.symm
    · have := hp k i hk hi h1 g (by rw [e2]; exact e.symm)
      rw [e1] at this
      exact this hx
theorem ROwn.light {B gq cq : Nat} {wr w8 : World} {vh : Value} {L : RLine} {svs lvs : List Value} (h : ROwn B wr vh (.slice (some ⟨gq, 0, none⟩) L.squares.length cq) L svs lvs) {k : Nat} {q : List RLight} {A : Option Addr} {c g8 c8 : Nat} {o : Obj} (hk : k < L.squares.length) (hq : L.squares[k]? = some q) (hlv : lvs[k]? = some (.slice A q.length c)) (x : RLight)
    (hg : (wr.alloc o).grownBy w8 (Value.slice A q.length c).ownBlock) (own8 : w8.ownsRow B 27 2 (.slice (some ⟨g8, 0, none⟩) (q.length + 1) c8) (q.length + 1) (rltCells q ++ [.int .i64 x.shows, .int .i64 x.seen])) :
    ROwnW B (w8.setCell ⟨gq, k, none⟩ (.slice (some ⟨g8, 0, none⟩) (q.length + 1) c8)) vh (.slice (some ⟨gq, 0, none⟩) L.squares.length cq) (L.withSquare k (q ++ [x])) svs (lvs.set k (.slice (some ⟨g8, 0, none⟩) (q.length + 1) c8)) := by
  have ownL := (h.lights.2.1 k q _ hq hlv).alloc o
  have ownQ := h.squares.alloc o
  have ownH := h.hands.alloc o
  have hQ8 := ownQ.kept hg (own_own_ne ownQ ownL (by decide))
  have hH8 := ownH.kept hg (own_own_ne ownH ownL (by decide))
  obtain ⟨cs, hbq⟩ := own_blok hQ8 rfl
  have hst := (hQ8.stored k (.slice (some ⟨g8, 0, none⟩) (q.length + 1) c8)).1
  have hk8 : k < lvs.length := by rw [h.lights.1]; exact hk
  have hlen : (L.withSquare k (q ++ [x])).squares.length = L.squares.length := by simp [RLine.withSquare]
  have keep : ∀ {e : TypeId} {s n : Nat} {v : Value} {xs : List Value}, e ≠ 39 → w8.ownsRow B e s v n xs → (w8.setCell ⟨gq, k, none⟩ (.slice (some ⟨g8, 0, none⟩) (q.length + 1) c8)).ownsRow B e s v n xs := fun he h =>
    own_far h (p := ⟨gq, k, none⟩) (own_ne_row h hbq he) _
  refine ⟨keep (by decide) hH8, ⟨h.shapes.1, fun i a v h1 h2 => ?_⟩, by rw [hlen]; exact hst, by rw [List.length_set, hlen]; exact h.lights.1, fun i a v h1 h2 => ?_⟩
  · have hs := (h.shapes.2 i a v h1 h2).alloc o
    exact keep (by decide) (hs.kept hg (own_own_ne hs ownL (by decide)))
  · by_cases hik : i = k
    · subst hik
      have e1 : q ++ [x] = a := by
        have : (L.squares.set i (q ++ [x]))[i]? = some a := h1
        rw [List.getElem?_set_self hk] at this
        injection this
      rw [List.getElem?_set_self hk8] at h2
      injection h2 with h2
      subst e1 h2
      rw [rltCells_snoc, List.length_append]
      exact keep (by decide) own8
    · have e1 : L.squares[i]? = some a := by
        have : (L.squares.set k (q ++ [x]))[i]? = some a := h1
        rwa [List.getElem?_set_ne (fun e => hik e.symm)] at this
      rw [List.getElem?_set_ne (fun e => hik e.symm)] at h2
      exact keep (by decide) (((h.lights.2.1 i a v e1 h2).alloc o).kept hg (lt_ne h.lights h2 hlv hik))
/-- Lines in a row, five cells each. -/
def AllL (w : World) (B g : Nat) (Rs : List RLine) : Prop := ∀ i R, Rs[i]? = some R → ∃ x0 x1 x2 x3 x4, w.cell? ⟨g, i * 5, none⟩ = some x0 ∧ w.cell? ⟨g, i * 5 + 1, none⟩ = some x1 ∧ w.cell? ⟨g, i * 5 + 2, none⟩ = some x2 ∧ w.cell? ⟨g, i * 5 + 3, none⟩ = some x3 ∧ w.cell? ⟨g, i * 5 + 4, none⟩ = some x4 ∧
  RLineAt w B (.agg #[x0, x1, x2, x3, x4]) R ∧ RSmall R
theorem AllL.keep {w w' : World} {B g : Nat} {Rs : List RLine} (h : AllL w B g Rs) (hb : Below B w w') (hg : g < B) : AllL w' B g Rs := by
  intro i R hR
  obtain ⟨x0, x1, x2, x3, x4, c0, c1, c2, c3, c4, h1, h2⟩ := h i R hR
  exact ⟨x0, x1, x2, x3, x4, (hb.cell (p := ⟨g, _, none⟩) hg).trans c0, (hb.cell (p := ⟨g, _, none⟩) hg).trans c1, (hb.cell (p := ⟨g, _, none⟩) hg).trans c2, (hb.cell (p := ⟨g, _, none⟩) hg).trans c3, (hb.cell (p := ⟨g, _, none⟩) hg).trans c4, h1.keep (SameA.of_below hb) (Nat.le_refl _), h2⟩
end
end Go.Proofs.Ythhajbgddifenaa
