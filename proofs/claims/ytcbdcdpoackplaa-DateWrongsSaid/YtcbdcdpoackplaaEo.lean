/- The law's own small functions. · Lists of spans compared. -/
import Derived.Test.YtcbdcdpoackplaaLb
import Derived.Test.YtcbdcdpoackplaaMa
namespace Go.Proofs.Ytcbdcdpoackplaa
section
open Go.RowKit Dt

def hasB (lo hi n : Int) : Bool := decide (lo ≤ n) && decide (n ≤ hi)
set_option maxRecDepth 100000 in
theorem hasIn_any (lo hi n : Int) (w : World) : Calls Try.prog 14 #[.agg #[.int .i64 lo, .int .i64 hi], .int .i64 n] w fun e w' => e = .returned (.bool (hasB lo hi n)) ∧ Below w.heap.size w w' := by
  have hb : Below w.heap.size w (w.alloc (.cells #[.int .i64 lo, .int .i64 hi] 39)) := (Below.refl _ w).alloc (Nat.le_refl _) _
  have HB := Lib.hid hb
  clear hb
  by_cases h1 : lo ≤ n
  · by_cases h2 : n ≤ hi
    · go_enter Try.func14, Try.ntmps14
      go_wp2_with fail
      go_ret
      exact ⟨ret_bool (by simp [hasB, h1, h2]), HB.out⟩
    · go_enter Try.func14, Try.ntmps14
      go_wp2_with fail
      go_ret
      exact ⟨ret_bool (by simp [hasB, h1, h2]), HB.out⟩
  · go_enter Try.func14, Try.ntmps14
    go_wp2_with fail
    go_ret
    exact ⟨ret_bool (by simp only [hasB, decide_eq_false (show ¬ lo ≤ n by omega), Bool.false_and]), HB.out⟩
def withinB (a b c d : Int) : Bool := decide (c ≤ a) && decide (b ≤ d)
set_option maxRecDepth 100000 in
theorem withinS_any (a b c d : Int) (w : World) : Calls Try.prog 24 #[.agg #[.int .i64 a, .int .i64 b], .agg #[.int .i64 c, .int .i64 d]] w fun e w' => e = .returned (.bool (withinB a b c d)) ∧ Below w.heap.size w w' := by
  have hb : Below w.heap.size w ((w.alloc (.cells #[.int .i64 a, .int .i64 b] 39)).alloc (.cells #[.int .i64 c, .int .i64 d] 39)) := ((Below.refl _ w).alloc (Nat.le_refl _) _).alloc (by simp) _
  have HB := Lib.hid hb
  clear hb
  by_cases h1 : c ≤ a
  · by_cases h2 : b ≤ d
    · go_enter Try.func24, Try.ntmps24
      go_wp2_with fail
      go_ret
      exact ⟨ret_bool (by simp [withinB, h1, h2]), HB.out⟩
    · go_enter Try.func24, Try.ntmps24
      go_wp2_with fail
      go_ret
      exact ⟨ret_bool (by simp [withinB, h1, h2]), HB.out⟩
  · go_enter Try.func24, Try.ntmps24
    go_wp2_with fail
    go_ret
    exact ⟨ret_bool (by simp only [withinB, decide_eq_false (show ¬ c ≤ a by omega), Bool.false_and]), HB.out⟩
def fitsB (v : Int) (so : Bool) : Bool := (decide (v = 1) && so) || (decide (v = 2) && !so) || decide (v = 3)
set_option maxRecDepth 100000 in
theorem fits_any (v : Int) (so : Bool) (w : World) : Calls Try.prog 19 #[.int .i64 v, .bool so] w fun e w' => e = .returned (.bool (fitsB v so)) ∧ w = w' := by
  by_cases h1 : v = 1
  · subst h1
    cases so
    all_goals
      go_enter Try.func19, Try.ntmps19
      go_wp2_with fail
      go_ret
      exact ⟨ret_bool (by simp [fitsB]), rfl⟩
  · by_cases h2 : v = 2
    · subst h2
      cases so
      all_goals
        go_enter Try.func19, Try.ntmps19
        go_wp2_with fail
        go_ret
        exact ⟨ret_bool (by simp [fitsB]), rfl⟩
    · by_cases h3 : v = 3
      · subst h3
        cases so
        all_goals
          go_enter Try.func19, Try.ntmps19
          go_wp2_with fail
          go_ret
          exact ⟨ret_bool (by simp [fitsB]), rfl⟩
      · cases so
        all_goals
          go_enter Try.func19, Try.ntmps19
          go_wp2_with fail
          go_ret
          exact ⟨ret_bool (by simp [fitsB, h1, h2, h3]), rfl⟩
set_option maxRecDepth 100000 in
set_option maxHeartbeats 1000000 in
theorem sameInts_any (l m : List Int) (hl : l.length ≤ 10000) (hm : m.length ≤ 10000) (B : Nat) (vl vm : Value) (w : World) (hB : B ≤ w.heap.size) (hvl : Ints w B vl l) (hvm : Ints w B vm m) :
    Calls Try.prog 34 #[vl, vm] w fun e w' => e = .returned (.bool (decide (l = m))) ∧ Below w.heap.size w w' := by
  obtain ⟨A1, c1, rfl, h1⟩ := hvl
  obtain ⟨A2, c2, rfl, h2⟩ := hvm
  obtain ⟨n, hn⟩ : ∃ n, n = l.length := ⟨_, rfl⟩
  obtain ⟨q, hq⟩ : ∃ q, q = m.length := ⟨_, rfl⟩
  rw [← hn] at h1 hl ⊢
  rw [← hq] at h2 hm ⊢
  have H1 := Lib.hid h1
  have H2 := Lib.hid h2
  have HN := Lib.hid hn
  have HQ := Lib.hid hq
  have hstart : ((decide (n = q)) = true → n = q ∧ l.take 0 = m.take 0) ∧ ((decide (n = q)) = false → ¬ l = m) :=
    ⟨fun h => ⟨of_decide_eq_true h, rfl⟩, fun h e => of_decide_eq_false h (by rw [hn, hq, e])⟩
  obtain ⟨r0, hr0⟩ : ∃ r0, r0 = decide (n = q) := ⟨_, rfl⟩
  rw [← hr0] at hstart
  have hr0' : ((n : Int) == (q : Int)) = r0 := by
    rw [hr0, Bool.eq_iff_iff]
    simp
    omega
  have HST := Lib.hid hstart
  clear h1 h2 hn hq hstart hr0
  go_enter Try.func34, Try.ntmps34
  go_wp2_with fail
  clear hr0'
  go_loopw [5, 6] (fun b i wr => ∃ (k : Nat) (r : Bool), k ≤ n ∧ i = .int .i64 k ∧ b = .bool r ∧ (r = true → n = q ∧ l.take k = m.take k) ∧ (r = false → ¬ l = m) ∧ Below w.heap.size w wr) (fun _ i _ => n - (intOf i).toNat)
  case atStart => exact ⟨0, r0, by omega, rfl, rfl, HST.out.1, HST.out.2, Below.refl _ _⟩
  case round =>
    obtain ⟨k, r, hk, rfl, rfl, hy, hno, hb⟩ := hrel
    have HB := Lib.hid hb
    clear hb
    cases r
    · have hne := hno rfl
      have HD := Lib.hid (show (false : Bool) = decide (l = m) from (decide_eq_false hne).symm)
      clear hy hno hne
      go_wp2_with fail
      go_ret
      exact ⟨ret_bool HD.out, HB.out⟩
    · obtain ⟨rfl, htk⟩ := hy rfl
      have HTK := Lib.hid htk
      clear hy hno htk
      by_cases hlt : k < n
      · obtain ⟨a, ha⟩ : ∃ a, l[k]? = some a := ⟨_, List.getElem?_eq_getElem (by rw [← HN.out]; exact hlt)⟩
        obtain ⟨b, hb⟩ : ∃ b, m[k]? = some b := ⟨_, List.getElem?_eq_getElem (by rw [← HQ.out]; exact hlt)⟩
        obtain ⟨b1, o1, rfl, hb1, hr1⟩ := H1.out (by omega)
        obtain ⟨b2, o2, rfl, hb2, hr2⟩ := H2.out (by omega)
        have p1 : wr.cell? ⟨b1, o1 + k, none⟩ = some (.int .i64 a) := (HB.out.cell (p := ⟨b1, o1 + k, none⟩) (show b1 < w.heap.size by omega)).trans (hr1 k a ha)
        have p2 : wr.cell? ⟨b2, o2 + k, none⟩ = some (.int .i64 b) := (HB.out.cell (p := ⟨b2, o2 + k, none⟩) (show b2 < w.heap.size by omega)).trans (hr2 k b hb)
        obtain ⟨r, hr⟩ : ∃ r, r = (a == b) := ⟨_, rfl⟩
        have hnext : (r = true → n = n ∧ l.take (k + 1) = m.take (k + 1)) ∧ (r = false → ¬ l = m) := by
          refine ⟨fun h => ⟨rfl, ?_⟩, fun h e => ?_⟩
          · have e : a = b := by rw [hr] at h; simpa using h
            rw [List.take_add_one, List.take_add_one, ha, hb, HTK.out, e]
          · subst e
            rw [ha] at hb
            injection hb with hb
            rw [hr, hb] at h
            simp at h
        have HX := Lib.hid hnext
        have hr' := hr.symm
        clear hnext ha hb hr1 hr2 hb1 hb2 hr
        go_wp2_with fail
        go_region
        clear p1 p2 hr'
        go_wp2_with fail
        go_roundw
        case rel => exact ⟨k + 1, r, by omega, by go_num, rfl, HX.out.1, HX.out.2, HB.out.drew⟩
        case measure => simp [intOf]; omega
      · obtain rfl : k = n := by omega
        have hlm : l = m := by
          have := HTK.out
          rwa [List.take_of_length_le (by rw [← HN.out]; exact Nat.le_refl _), List.take_of_length_le (by rw [← HQ.out]; exact Nat.le_refl _)] at this
        have HD := Lib.hid (show (true : Bool) = decide (l = m) from (decide_eq_true hlm).symm)
        clear hlm
        go_wp2_with fail
        go_ret
        exact ⟨ret_bool HD.out, HB.out⟩
end
section
open Go.RowKit Dt

set_option maxRecDepth 100000 in
set_option maxHeartbeats 1000000 in
theorem sameSpans_any (l m : List (Int × Int)) (hl : l.length ≤ 10000) (hm : m.length ≤ 10000) (B : Nat) (vl vm : Value) (w : World) (hB : B ≤ w.heap.size) (hvl : Spans w B vl l) (hvm : Spans w B vm m) :
    Calls Try.prog 29 #[vl, vm] w fun e w' => e = .returned (.bool (decide (l = m))) ∧ Below w.heap.size w w' := by
  obtain ⟨A1, c1, rfl, h1⟩ := hvl
  obtain ⟨A2, c2, rfl, h2⟩ := hvm
  obtain ⟨n, hn⟩ : ∃ n, n = l.length := ⟨_, rfl⟩
  obtain ⟨q, hq⟩ : ∃ q, q = m.length := ⟨_, rfl⟩
  rw [← hn] at h1 hl ⊢
  rw [← hq] at h2 hm ⊢
  have H1 := Lib.hid h1
  have H2 := Lib.hid h2
  have HN := Lib.hid hn
  have HQ := Lib.hid hq
  have hstart : ((decide (n = q)) = true → n = q ∧ l.take 0 = m.take 0) ∧ ((decide (n = q)) = false → ¬ l = m) :=
    ⟨fun h => ⟨of_decide_eq_true h, rfl⟩, fun h e => of_decide_eq_false h (by rw [hn, hq, e])⟩
  obtain ⟨r0, hr0⟩ : ∃ r0, r0 = decide (n = q) := ⟨_, rfl⟩
  rw [← hr0] at hstart
  have hr0' : ((n : Int) == (q : Int)) = r0 := by
    rw [hr0, Bool.eq_iff_iff]
    simp
    omega
  have HST := Lib.hid hstart
  clear h1 h2 hn hq hstart hr0
  go_enter Try.func29, Try.ntmps29
  go_wp2_with fail
  clear hr0'
  go_loopw [5, 6] (fun b i wr => ∃ (k : Nat) (r : Bool), k ≤ n ∧ i = .int .i64 k ∧ b = .bool r ∧ (r = true → n = q ∧ l.take k = m.take k) ∧ (r = false → ¬ l = m) ∧ Below w.heap.size w wr) (fun _ i _ => n - (intOf i).toNat)
  case atStart => exact ⟨0, r0, by omega, rfl, rfl, HST.out.1, HST.out.2, Below.refl _ _⟩
  case round =>
    obtain ⟨k, r, hk, rfl, rfl, hy, hno, hb⟩ := hrel
    have HB := Lib.hid hb
    clear hb
    cases r
    · have hne := hno rfl
      have HD := Lib.hid (show (false : Bool) = decide (l = m) from (decide_eq_false hne).symm)
      clear hy hno hne
      go_wp2_with fail
      go_ret
      exact ⟨ret_bool HD.out, HB.out⟩
    · obtain ⟨rfl, htk⟩ := hy rfl
      have HTK := Lib.hid htk
      clear hy hno htk
      by_cases hlt : k < n
      · obtain ⟨a, ha⟩ : ∃ a, l[k]? = some a := ⟨_, List.getElem?_eq_getElem (by rw [← HN.out]; exact hlt)⟩
        obtain ⟨b, hb⟩ : ∃ b, m[k]? = some b := ⟨_, List.getElem?_eq_getElem (by rw [← HQ.out]; exact hlt)⟩
        obtain ⟨b1, o1, rfl, hb1, hr1⟩ := H1.out (by omega)
        obtain ⟨b2, o2, rfl, hb2, hr2⟩ := H2.out (by omega)
        have p1 : wr.cell? ⟨b1, o1 + k * 2, none⟩ = some (.int .i64 a.1) := (HB.out.cell (p := ⟨b1, o1 + k * 2, none⟩) (show b1 < w.heap.size by omega)).trans (hr1 k a ha).1
        have p3 : wr.cell? ⟨b1, o1 + k * 2 + 1, none⟩ = some (.int .i64 a.2) := (HB.out.cell (p := ⟨b1, o1 + k * 2 + 1, none⟩) (show b1 < w.heap.size by omega)).trans (hr1 k a ha).2
        have p2 : wr.cell? ⟨b2, o2 + k * 2, none⟩ = some (.int .i64 b.1) := (HB.out.cell (p := ⟨b2, o2 + k * 2, none⟩) (show b2 < w.heap.size by omega)).trans (hr2 k b hb).1
        have p4 : wr.cell? ⟨b2, o2 + k * 2 + 1, none⟩ = some (.int .i64 b.2) := (HB.out.cell (p := ⟨b2, o2 + k * 2 + 1, none⟩) (show b2 < w.heap.size by omega)).trans (hr2 k b hb).2
        obtain ⟨r, hr⟩ : ∃ r, r = (decide (a.1 = b.1) && decide (a.2 = b.2)) := ⟨_, rfl⟩
        have hnext : (r = true → n = n ∧ l.take (k + 1) = m.take (k + 1)) ∧ (r = false → ¬ l = m) := by
          refine ⟨fun h => ⟨rfl, ?_⟩, fun h e => ?_⟩
          · have e : a = b := by rw [hr] at h; simp at h; exact Prod.ext h.1 h.2
            rw [List.take_add_one, List.take_add_one, ha, hb, HTK.out, e]
          · subst e
            rw [ha] at hb
            injection hb with hb
            rw [hr, hb] at h
            simp at h
        have HX := Lib.hid hnext
        have HR := Lib.hid hr
        clear hnext ha hb hr1 hr2 hb1 hb2 hr
        by_cases e1 : a.1 = b.1 <;> by_cases e2 : a.2 = b.2
        all_goals
          go_wp2_with fail
          go_region
          clear p1 p2 p3 p4
          go_wp2_with fail
          go_roundw
          case rel => exact ⟨k + 1, r, by omega, by go_num, by rw [HR.out]; simp [e1, e2], HX.out.1, HX.out.2, HB.out.drew⟩
          case measure => simp [intOf]; omega
      · obtain rfl : k = n := by omega
        have hlm : l = m := by
          have := HTK.out
          rwa [List.take_of_length_le (by rw [← HN.out]; exact Nat.le_refl _), List.take_of_length_le (by rw [← HQ.out]; exact Nat.le_refl _)] at this
        have HD := Lib.hid (show (true : Bool) = decide (l = m) from (decide_eq_true hlm).symm)
        clear hlm
        go_wp2_with fail
        go_ret
        exact ⟨ret_bool HD.out, HB.out⟩
end
end Go.Proofs.Ytcbdcdpoackplaa
