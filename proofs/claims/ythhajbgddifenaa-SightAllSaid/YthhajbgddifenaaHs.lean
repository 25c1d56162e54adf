/- Small helpers of the laws: whether a list has a number, a span a number, a text a letter. -/
import Derived.Test.YthhajbgddifenaaEw
import Derived.Deep.RegionHeld3
namespace Go.Proofs.Ythhajbgddifenaa
open Go.RowKit Go.Shelf

set_option maxHeartbeats 1000000 in
/-- A list of numbers has one. -/
theorem in_yes (v : Value) (l : List Nat) (x : Nat) (w : World) (hl8 : l.length ≤ 100) (B : Nat) (hv : Ints w B v l) (hx : x ∈ l) : Calls Try.prog 36 #[v, .int .i64 x] w fun e w' => e = .returned (.bool true) ∧ w = w' := by
  obtain ⟨A, c, rfl, hA⟩ := hv
  obtain ⟨n, hn⟩ : ∃ n, n = l.length := ⟨_, rfl⟩
  have hn1 : 0 < n := by rw [hn]; exact List.length_pos_of_mem hx
  obtain ⟨b, o, rfl, -, hc⟩ := hA (by omega)
  rw [← hn] at hl8 ⊢
  obtain ⟨j, hj⟩ := List.mem_iff_getElem?.1 hx
  have hjn : j < n := by rw [hn]; exact (List.getElem?_eq_some_iff.1 hj).1
  have HJ := Lib.hid hj
  have HC := Lib.hid hc
  have HN := Lib.hid hn
  clear hj hc hn hx hA
  go_enter Try.func36, Try.ntmps36
  go_wp2
  go_loop [5] (fun i => ∃ k : Nat, k ≤ j ∧ i = .int .i64 k) (fun i => n - (intOf i).toNat)
  case atStart => exact ⟨0, by omega, rfl⟩
  case round =>
    obtain ⟨k, hk, rfl⟩ := hrel
    have hkn : k < n := by omega
    obtain ⟨y, hy⟩ : ∃ y, l[k]? = some y := ⟨_, List.getElem?_eq_getElem (by rw [← HN.out]; exact hkn)⟩
    have hcy := HC.out k y hy
    by_cases hyx : y = x
    · subst hyx
      clear hy
      go_wp2
      go_ret
      exact ⟨rfl, rfl⟩
    · have hb : ((y : Int) == x) = false := by simp; omega
      have hkj : k < j := by
        rcases Nat.lt_or_ge k j with h | h
        · exact h
        · exfalso
          have e : k = j := by omega
          subst e
          rw [HJ.out] at hy
          injection hy with hy
          exact hyx hy.symm
      clear hy hyx
      go_wp2
      exact ⟨⟨k + 1, by omega, by go_num⟩, by simp [intOf]; omega⟩

set_option maxHeartbeats 1000000 in
/-- A text has a letter. -/
theorem has_yes (s : ByteArray) (u : UInt8) (w : World) (hs : s.size ≤ 1000) (hx : u ∈ s.data.toList) : Calls Try.prog 39 #[.string s, .int .u8 u.toNat] w fun e w' => e = .returned (.bool true) ∧ w = w' := by
  obtain ⟨j, hj⟩ := List.mem_iff_getElem?.1 hx
  have hjn : j < s.size := by
    have := (List.getElem?_eq_some_iff.1 hj).1
    rwa [Array.length_toList] at this
  have HJ := Lib.hid hj
  clear hj hx
  go_enter Try.func39, Try.ntmps39
  go_wp2
  go_loop [5] (fun i => ∃ k : Nat, k ≤ j ∧ i = .int .i64 k) (fun i => s.size - (intOf i).toNat)
  case atStart => exact ⟨0, by omega, rfl⟩
  case round =>
    obtain ⟨k, hk, rfl⟩ := hrel
    have hkn : k < s.size := by omega
    by_cases hyx : s[k] = u
    · have hb : ((s[k].toNat : Int) == u.toNat) = true := by simp [hyx]
      clear hyx
      go_wp2
      go_ret
      exact ⟨rfl, rfl⟩
    · have hb : ((s[k].toNat : Int) == u.toNat) = false := by
        simp
        intro h
        exact hyx (UInt8.toNat_inj.1 (by omega))
      have hkj : k < j := by
        rcases Nat.lt_or_ge k j with h | h
        · exact h
        · exfalso
          have e : k = j := by omega
          subst e
          have h1 := (List.getElem?_eq_some_iff.1 HJ.out).2
          exact hyx (by rw [← h1]; simp [ByteArray.getElem_eq_getElem_data])
      clear hyx
      go_wp2
      exact ⟨⟨k + 1, by omega, by go_num⟩, by simp [intOf]; omega⟩

set_option maxHeartbeats 1000000 in
/-- A span has a number. -/
theorem hasIn_yes (lo hi n : Int) (w : World) (h1 : lo ≤ n) (h2 : n ≤ hi) : Calls Try.prog 37 #[.agg #[.int .i64 lo, .int .i64 hi], .int .i64 n] w fun e w' => e = .returned (.bool true) ∧ Below w.heap.size w w' := by
  go_enter Try.func37, Try.ntmps37
  go_wp2
  go_ret
  exact ⟨rfl, (Below.refl _ _).alloc (Nat.le_refl _) _⟩
/-- Of: a number of a span. -/
def OfPost (g : Nat) (lo hi : Int) (w : World) (e : Ending) (w' : World) : Prop := ∃ x : Int, e = .returned (.int .i64 x) ∧ lo ≤ x ∧ x ≤ hi ∧ UrnAt w' g ∧ Kg g w w'
set_option maxRecDepth 100000 in
set_option maxHeartbeats 1000000 in
theorem of_any (g : Nat) (lo hi : Int) (w : World) (h1 : -100000 ≤ lo) (h2 : lo ≤ hi) (h3 : hi ≤ 100000) (hu : UrnAt w g) : Calls Try.prog 38 #[.pointer (some ⟨g, 0, none⟩), .agg #[.int .i64 lo, .int .i64 hi]] w (OfPost g lo hi w) := by
  have hgw := hu.size
  have hu1 := hu.alloc (.cells #[.int .i64 lo, .int .i64 hi] 48)
  have HB := Lib.hid (Blok.new w 48 [.int .i64 lo, .int .i64 hi])
  have HU1 := Lib.hid hu1
  have NE := Lib.hid (show w.heap.size ≠ g by omega)
  clear hu hu1
  go_enter Try.func38, Try.ntmps38
  go_wp2
  go_region_held3 (fun w' => w'.cell? ⟨w.heap.size, 0, none⟩ = some (.int .i64 lo) ∧ w'.cell? ⟨w.heap.size, 1, none⟩ = some (.int .i64 hi))
    (first
      | go_keep
      | (go_split_ands; exact ⟨hk3.cell (by assumption) NE.out, hk3.cell (by assumption) NE.out⟩)
      | (go_split_ands; exact ⟨hk2.cell (by assumption) NE.out, hk2.cell (by assumption) NE.out⟩))
    (first
      | (go_at_call 52; refine (any_any g w2.heap.size 3 3 3 [lo, hi, f] _ rfl (by simp) (by simp) (Blok.new w2 3 [.int .i64 lo, .int .i64 hi, .int .i64 f]) (by have := hu2.size; omega) (hu2.alloc _)).mono ?_; rintro e w3 ⟨x, rfl, hx, hu3, hk3⟩)
      | (go_at_call 50; refine (from_any _ _ _ _ (by omega) (by omega) (by omega) (by omega) (by exact HU1.out)).mono ?_; rintro e w2 ⟨f, rfl, f1, f2, hu2, hk2⟩))
  have hx2 : lo ≤ x ∧ x ≤ hi := by simp at hx; omega
  have HU3 := Lib.hid hu3
  have HK3 := Lib.hid (((((Kg.refl g w).alloc _).drew.trans hk2).alloc _).trans hk3)
  clear hx hu3 hk3 hu2 hk2
  go_wp2
  go_ret
  exact ⟨x, rfl, hx2.1, hx2.2, HU3.out, HK3.out⟩
end Go.Proofs.Ythhajbgddifenaa
