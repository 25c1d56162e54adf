/- Binary search in ascending bytes. -/
import Derived.Test.YtcemefojpaicoaaDoorB
namespace Go.Proofs.YtcemefojpaicoaaDoor
open Go.RowKit

set_option maxHeartbeats 400000 in
theorem isNaN_any (a : Nat) (w : World) : Calls Tryd.prog 46 #[.int .u8 a] w fun e w' => e = .returned (.bool false) ∧ w = w' := by
  go_enter Tryd.func46, Tryd.ntmps46
  go_wp2
  go_ret
  exact ⟨by simp, rfl⟩
set_option maxHeartbeats 400000 in
theorem cmpNaN_any (a : Nat) (w : World) : Calls Tryd.prog 52 #[.int .u8 a] w fun e w' => e = .returned (.bool false) ∧ w = w' := by
  go_enter Tryd.func52, Tryd.ntmps52
  go_wp2
  go_ret
  exact ⟨by simp, rfl⟩
set_option maxHeartbeats 400000 in
theorem less_any (a b : Nat) (w : World) : Calls Tryd.prog 45 #[.int .u8 a, .int .u8 b] w fun e w' => e = .returned (.bool (decide (a < b))) ∧ w = w' := by
  go_enter Tryd.func45, Tryd.ntmps45
  go_wp2_with (go_at_call 52; refine (cmpNaN_any _ _).mono ?_; rintro e w' ⟨rfl, rfl⟩)
  go_ret
  exact ⟨by simp, rfl⟩

/-- A place in an ascending list: less ahead of it, no less from it on. -/
def PlaceOf (xs : List Nat) (t pos : Nat) : Prop := pos ≤ xs.length ∧ (∀ (a v : Nat), a < pos → xs[a]? = some v → v < t) ∧ ∀ (a v : Nat), pos ≤ a → xs[a]? = some v → t ≤ v
def BsPost (xs : List Nat) (t : Nat) (w : World) (e : Ending) (w' : World) : Prop := (∃ pos fb, e = .returned (.tuple #[.int .i64 (pos : Nat), .bool fb]) ∧ PlaceOf xs t pos) ∧ w = w'
theorem pair_lt {xs : List Nat} (h : xs.Pairwise (· < ·)) {a b u v : Nat} (hab : a < b) (ha : xs[a]? = some u) (hb : xs[b]? = some v) : u < v := by
  obtain ⟨h1, rfl⟩ := List.getElem?_eq_some_iff.1 ha
  obtain ⟨h2, rfl⟩ := List.getElem?_eq_some_iff.1 hb
  exact List.pairwise_iff_getElem.1 h a b h1 h2 hab

set_option maxHeartbeats 1000000 in
theorem bsearch_any (g n cap : Nat) (xs : List Nat) (t : Nat) (w : World) (hn : n = xs.length) (h256 : n ≤ 256) (hs : xs.Pairwise (· < ·)) (hc : ∀ (k v : Nat), xs[k]? = some v → w.cell? ⟨g, k, none⟩ = some (.int .u8 v)) :
    Calls Tryd.prog 38 #[.slice (some ⟨g, 0, none⟩) n cap, .int .u8 t] w (BsPost xs t w) := by
  have HN := Lib.hid hn
  have HC := Lib.hid hc
  have HS := Lib.hid hs
  clear hn hc hs
  go_enter Tryd.func38, Tryd.ntmps38
  go_wp2
  go_loop [7, 8] (fun si sj => ∃ i j : Nat, i ≤ j ∧ j ≤ n ∧ si = .int .i64 i ∧ sj = .int .i64 j ∧ (∀ (a v : Nat), a < i → xs[a]? = some v → v < t) ∧ ∀ (a v : Nat), j ≤ a → xs[a]? = some v → t ≤ v) (fun si sj => (intOf sj).toNat - (intOf si).toNat)
  case atStart => exact ⟨0, n, by omega, by omega, rfl, rfl, fun a v h => by omega, fun a v h hv => by have := (List.getElem?_eq_some_iff.1 hv).1; have := HN.out; omega⟩
  case round =>
    obtain ⟨i, j, hij, hjn, rfl, rfl, h1, h2⟩ := hrel
    have H1 := Lib.hid h1
    have H2 := Lib.hid h2
    clear h1 h2
    by_cases hlt : i < j
    · have hh : (i + j) / 2 < xs.length := by have := HN.out; omega
      obtain ⟨x, hx⟩ : ∃ x, xs[(i + j) / 2]? = some x := ⟨_, List.getElem?_eq_getElem hh⟩
      have d := HC.out _ _ hx
      have HX := Lib.hid hx
      have k1 : (i + j) / 2 < j := by omega
      have k2 : i ≤ (i + j) / 2 := by omega
      have k3 : ((i : Int) + j) / 2 < n := by omega
      clear hx hh
      by_cases hxt : x < t
      · go_wp2_with (go_at_call 45; refine (less_any _ _ _).mono ?_; rintro e w' ⟨rfl, rfl⟩)
        refine ⟨⟨(i + j) / 2 + 1, j, by omega, by omega, by push_cast; rfl, rfl, ?_, H2.out⟩, by simp only [intOf]; omega⟩
        intro a v ha hv
        by_cases hq : a = (i + j) / 2
        · rw [hq, HX.out] at hv; cases hv; exact hxt
        · exact Nat.lt_trans (pair_lt HS.out (by omega) hv HX.out) hxt
      · go_wp2_with (go_at_call 45; refine (less_any _ _ _).mono ?_; rintro e w' ⟨rfl, rfl⟩)
        refine ⟨⟨i, (i + j) / 2, by omega, by omega, rfl, by push_cast; rfl, H1.out, ?_⟩, by simp only [intOf]; omega⟩
        intro a v ha hv
        by_cases hq : a = (i + j) / 2
        · rw [hq, HX.out] at hv; cases hv; omega
        · have := pair_lt HS.out (by omega) HX.out hv; omega
    · obtain rfl : i = j := by omega
      have post : ∀ fb, BsPost xs t w (.returned (.tuple #[.int .i64 i, .bool fb])) w := fun fb => ⟨⟨i, fb, rfl, by have := HN.out; omega, H1.out, H2.out⟩, rfl⟩
      have POST := Lib.hid post
      clear post
      by_cases hin : i < n
      · obtain ⟨x, hx⟩ : ∃ x, xs[i]? = some x := ⟨_, List.getElem?_eq_getElem (by have := HN.out; omega)⟩
        have d := HC.out _ _ hx
        have HX := Lib.hid hx
        clear hx
        go_wp2_with (go_at_call 46; refine (isNaN_any _ _).mono ?_; rintro e w' ⟨rfl, rfl⟩)
        all_goals (go_ret2; exact POST.out _)
      · go_wp2
        all_goals (go_ret2; exact POST.out _)
end Go.Proofs.YtcemefojpaicoaaDoor
