/- The kit's own helpers. -/
import Derived.Test.YtcemefojpaicoaaDoorR
namespace Go.Proofs.YtcemefojpaicoaaDoor
open Go.RowKit Go.Maps Go.Shelf

def textsR (w : World) (ts : List ByteArray) (b o : Nat) : Prop := ∀ k s, ts[k]? = some s → w.cell? ⟨b, o + k, none⟩ = some (.string s)
def Texts (w : World) (B : Nat) (v : Value) (ts : List ByteArray) : Prop := Sl B v ts.length (textsR w ts)

theorem bytes_eq {x y : ByteArray} (h : x.toList = y.toList) : x = y := by
  rw [ByteArray.toList_eq, ByteArray.toList_eq] at h
  exact ByteArray.ext (Array.toList_inj.1 h)
set_option maxHeartbeats 1000000 in
theorem sameTexts_any (va vb : Value) (xs ys : List ByteArray) (B : Nat) (w : World) (hBw : B ≤ w.heap.size) (hn : xs.length ≤ 100) (hn' : ys.length ≤ 100) (ha : Texts w B va xs) (hb : Texts w B vb ys) :
    Calls Tryd.prog 17 #[va, vb] w fun e w' => e = .returned (.bool (decide (xs = ys))) ∧ Below w.heap.size w w' := by
  obtain ⟨A, c, rfl, hA⟩ := ha
  obtain ⟨A', c', rfl, hA'⟩ := hb
  obtain ⟨n, hn2⟩ : ∃ n, n = xs.length := ⟨_, rfl⟩
  obtain ⟨m, hm2⟩ : ∃ m, m = ys.length := ⟨_, rfl⟩
  rw [← hn2] at hA hn ⊢
  rw [← hm2] at hA' hn' ⊢
  have HN := Lib.hid hn2
  have HM := Lib.hid hm2
  have HA := Lib.hid hA
  have HA' := Lib.hid hA'
  clear hn2 hm2 hA hA'
  go_enter Tryd.func17, Tryd.ntmps17
  go_wp2
  go_loopw [5, 6] (fun s i wr => ∃ (k : Nat) (q : Bool), k ≤ n ∧ i = .int .i64 k ∧ s = .bool q ∧ Below w.heap.size w wr ∧ (q = true → n = m ∧ xs.take k = ys.take k) ∧ (q = false → xs ≠ ys)) (fun _ i _ => n - (intOf i).toNat)
  case atStart =>
    refine ⟨0, decide (n = m), by omega, rfl, ?_, Below.refl _ _, fun h => ⟨by simpa using h, by simp⟩, fun h e => ?_⟩
    · by_cases h : n = m
      · subst h; simp
      · have h' : ¬ (n : Int) = m := by omega
        simp [h, h']
    · rw [decide_eq_false_iff_not, HN.out, HM.out, e] at h
      exact h rfl
  case round =>
    obtain ⟨k, q, hk, rfl, rfl, hb, h1, h2⟩ := hrel
    cases q with
    | false =>
      have hne := h2 rfl
      have hfin : (.returned (.bool false) : Ending) = .returned (.bool (decide (xs = ys))) ∧ Below w.heap.size w wr := ⟨by simp [hne], hb⟩
      clear h1 h2 hb hne
      go_wp2
      go_ret
      exact hfin
    | true =>
      obtain ⟨hnm, htk⟩ := h1 rfl
      clear h1 h2
      by_cases hlt : k < n
      · obtain ⟨b, o, rfl, hb1, hr1⟩ := HA.out (by omega)
        obtain ⟨b', o', rfl, hb1', hr1'⟩ := HA'.out (by omega)
        obtain ⟨x, hx⟩ : ∃ x, xs[k]? = some x := ⟨_, List.getElem?_eq_getElem (by rw [← HN.out]; exact hlt)⟩
        obtain ⟨y, hy⟩ : ∃ y, ys[k]? = some y := ⟨_, List.getElem?_eq_getElem (by rw [← HM.out]; omega)⟩
        have c1 := (hb.cell (p := ⟨b, o + k, none⟩) (show b < _ by omega)).trans (hr1 k x hx)
        have c2 := (hb.cell (p := ⟨b', o' + k, none⟩) (show b' < _ by omega)).trans (hr1' k y hy)
        have HB := Lib.hid hb
        have HX := Lib.hid hx
        have HY := Lib.hid hy
        have HT := Lib.hid htk
        have hkm : k < m := by omega
        clear hb hx hy htk hr1 hr1'
        go_wp2
        go_region
        go_wp2
        refine ⟨⟨k + 1, x.toList == y.toList, by omega, by go_num, rfl, HB.out.drew, fun h => ⟨hnm, ?_⟩, fun h e => ?_⟩, by simp [intOf]; omega⟩
        · have hxy : x = y := bytes_eq (by simpa using h)
          have hkx := (List.getElem?_eq_some_iff.1 HX.out).1
          have hky := (List.getElem?_eq_some_iff.1 HY.out).1
          have ex := (List.getElem?_eq_some_iff.1 HX.out).2
          have ey := (List.getElem?_eq_some_iff.1 HY.out).2
          rw [List.take_succ_eq_append_getElem hkx, List.take_succ_eq_append_getElem hky, HT.out, ex, ey, hxy]
        · have h3 : some x = some y := by rw [← HX.out, ← HY.out, e]
          injection h3 with h3
          rw [h3] at h
          simp at h
      · obtain rfl : k = n := by omega
        have e : xs = ys := by
          rw [List.take_of_length_le (by rw [HN.out]; exact Nat.le_refl _), List.take_of_length_le (by rw [hnm, HM.out]; exact Nat.le_refl _)] at htk
          exact htk
        have hfin : (.returned (.bool true) : Ending) = .returned (.bool (decide (xs = ys))) ∧ Below w.heap.size w wr := ⟨by simp [e], hb⟩
        clear hb htk e
        go_wp2
        go_ret
        exact hfin
end Go.Proofs.YtcemefojpaicoaaDoor
