/- The chapter's line as a line; the chapter's examples that a law checks. -/
import Derived.Test.YtcemefojpaicoaaDoorU
namespace Go.Proofs.YtcemefojpaicoaaDoor
open Go.RowKit Go.Maps Go.Shelf

theorem SeenMem.at_ {w : World} {g gl B : Nat} (h : SeenMem w g gl) (hB : g + 6 < B) (hl : gl < B) : LineAt w B (.agg (cellsL g).toArray) lineC1 := by
  refine ⟨_, _, rfl, hands_mem h.hands (by omega), _, _, rfl, fun _ => ⟨g + 6, 0, rfl, hB, fun k x hx => ?_⟩⟩
  rcases k with _ | _ | _ | k
  · obtain rfl : ([⟨15, 7⟩] : List Light) = x := by simpa [lineC1, lineL] using hx
    exact ⟨_, by rw [h.qs.cell]; rfl, lights_one (by omega) 15 7 h.q0 _ _ rfl⟩
  · obtain rfl : ([⟨15, 15⟩] : List Light) = x := by simpa [lineC1, lineL] using hx
    exact ⟨_, by rw [h.qs.cell]; rfl, lights_one (by omega) 15 15 h.q1 _ _ rfl⟩
  · obtain rfl : ([⟨3, 0⟩] : List Light) = x := by simpa [lineC1, lineL] using hx
    exact ⟨_, by rw [h.qs.cell]; rfl, lights_one (by omega) 3 0 h.q2 _ _ rfl⟩
  · simp [lineC1, lineL] at hx

theorem lineC_texts : lettersOf lineC = [⟨#[65]⟩, ⟨#[65, 76]⟩, ⟨#[84]⟩] := by decide +kernel
theorem lineC_printed : printTo (lettersOf lineC) = ⟨#[65, 123, 65, 76, 125, 84]⟩ := by decide +kernel
theorem texts_of_own {w : World} {base : Nat} {t : TypeId} {v : Value} {l : List ByteArray} {n : Nat} (hl : l.length = n) (h : w.ownsRow base t 1 v n (l.map Value.string)) : Texts w w.heap.size v l := by
  subst hl
  rcases h.2 with ⟨rfl, hn⟩ | ⟨g, cap, cur, rfl, hbg, hg, hcap, _, hsz, htake⟩
  · exact ⟨none, 0, by rw [hn], fun h0 => by omega⟩
  · refine ⟨_, _, rfl, fun _ => ⟨g, 0, rfl, (Array.getElem?_eq_some_iff.1 hg).1, fun k x hx => ?_⟩⟩
    have h5 := h.cellAt k (by have := (List.getElem?_eq_some_iff.1 hx).1; omega)
    rw [Nat.zero_add, h5, List.getElem?_map, hx]
    rfl
theorem texts_three {w : World} {g : Nat} {t : TypeId} {a b c : ByteArray} (h : Blok w g t [.string a, .string b, .string c]) (B : Nat) (hB : g < B) : Texts w B (.slice (some ⟨g, 0, none⟩) 3 3) [a, b, c] := by
  refine ⟨_, _, rfl, fun _ => ⟨g, 0, rfl, hB, fun k x hx => ?_⟩⟩
  rw [Nat.zero_add, h.cell]
  rcases k with _ | _ | _ | k <;> simp_all

theorem marks_one (w : World) {v : Value} (hv : LineAt w w.heap.size v lineC1) : Calls Tryd.prog 12 #[v] w fun e w' => e = .returned (.tuple #[.int .i64 1, .int .i64 0]) ∧ Below w.heap.size w w' :=
  (marks_any v lineC1 w lineC1_ok hv).mono fun e w' hp => by
    have h1 := lineC1_marks
    rcases hp with ⟨hb, ⟨h81, rfl⟩ | ⟨_, rfl⟩⟩
    · omega
    · rw [h1]; exact ⟨rfl, hb⟩

set_option maxRecDepth 100000 in
set_option maxHeartbeats 2000000 in
theorem ready_any (H : Type) (w : World) : Calls Tryd.prog 6 #[] w fun e w' => e = .returned (.bool true) ∧ Below w.heap.size w w' := by
  go_enter Tryd.func6, Tryd.ntmps6
  go_wp2_with (first
    | (go_at_call 4; refine (line_mem _).mono ?_; rintro e w1 ⟨rfl, hm, hb, hz⟩; have HZ := Lib.hid hz; have HM := Lib.hid hm; have HB := Lib.hid hb; clear hz hm hb)
    | (go_at_call 16; refine (letters_some H _ lineC _ lineC_ok (HM.out.at_ (by have := HZ.out; omega)) lineC_hands).mono ?_; rintro e w2 ⟨u, rfl, hu, hb2⟩; have HU := Lib.hid hu; have HBW := Lib.hid (HB.out.trans (hb2.mono HB.out.size)); clear hu hb2)
    | (go_at_call 10; refine (print_any H _ lineC _ lineC_ok (HM.out.at_ (by have := HZ.out; omega)) lineC_hands).mono ?_; rintro e w3 ⟨he, hb3⟩; rw [lineC_printed] at he; subst he; have HB3 := Lib.hid hb3; clear hb3)
    | (go_at_call 5; refine (seen_mem _ _ (by simp) (Blok.new _ 29 [.int .i64 15, .int .i64 15])).mono ?_; rintro e w4 ⟨g, rfl, hsm, hb4, hg1, hg2⟩; have HSM := Lib.hid hsm; have HB4 := Lib.hid hb4; have HG1 := Lib.hid hg1; have HG2 := Lib.hid hg2; clear hsm hb4 hg1 hg2)
    | (go_at_call 12; refine (marks_one _ (HSM.out.at_ (by have := HG2.out; omega) (by have := HB4.out.size; simp at this; omega))).mono ?_; rintro e w5 ⟨rfl, hb5⟩; have h35 : Below w3.heap.size w3 w5 := (((Below.refl _ w3).alloc (Nat.le_refl _) _).trans (HB4.out.mono (by simp))).trans (hb5.mono (by have := HB4.out.size; simp at this; omega)); have h25 : Below w2.heap.size w2 w5 := (HB.out.trans (HB3.out.mono HB.out.size)).trans (h35.mono (by have := HB.out.size; have := HB3.out.size; omega)); have hu5 := (own_below HU.out h25 (Nat.le_refl _)).alloc (.cells #[.string ⟨#[65]⟩, .string ⟨#[65, 76]⟩, .string ⟨#[84]⟩] 9); have TX := Lib.hid (texts_of_own (by rw [lineC_texts]; rfl) hu5); have H25 := Lib.hid h25; clear h35 h25 hu5; have HB5 := Lib.hid hb5; clear hb5)
    | (go_at_call 17; go_loud (refine (sameTexts_any _ _ (lettersOf lineC) [⟨#[65]⟩, ⟨#[65, 76]⟩, ⟨#[84]⟩] ((w5.alloc (.cells #[.string ⟨#[65]⟩, .string ⟨#[65, 76]⟩, .string ⟨#[84]⟩] 9)).heap.size) _ (Nat.le_refl _) (by rw [lineC_texts]; decide) (by decide) (TX.out) (texts_three (Blok.new _ 9 [.string ⟨#[65]⟩, .string ⟨#[65, 76]⟩, .string ⟨#[84]⟩]) _ (by simp))).mono ?_); rintro e w6 ⟨he, hb6⟩; rw [lineC_texts, decide_eq_true rfl] at he; subst he; have HB6 := Lib.hid hb6; clear hb6))
  go_ret
  have h2 := HBW.out.size
  have h5 := H25.out.size
  exact ⟨rfl, ((HBW.out.trans (H25.out.mono h2)).alloc (by omega) _).trans (HB6.out.mono (by simp; omega))⟩
end Go.Proofs.YtcemefojpaicoaaDoor
