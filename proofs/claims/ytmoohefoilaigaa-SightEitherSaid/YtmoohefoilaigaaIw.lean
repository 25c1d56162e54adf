/- Within, inside: true answers. -/
import Derived.Test.YtmoohefoilaigaaHs
import Derived.BigQuiet
import Derived.Deep.AppendLies
namespace Go.Proofs.Ytmoohefoilaigaa
open Go.RowKit Go.Shelf

set_option maxHeartbeats 1000000 in
/-- A span lies within another one. -/
theorem within_yes (a b c d : Int) (w : World) (h1 : c ≤ a) (h2 : b ≤ d) : Calls Try.prog 44 #[.agg #[.int .i64 a, .int .i64 b], .agg #[.int .i64 c, .int .i64 d]] w fun e w' => e = .returned (.bool true) ∧ Below w.heap.size w w' := by
  go_enter Try.func44, Try.ntmps44
  go_wp2
  go_ret
  exact ⟨rfl, ((Below.refl _ _).alloc (Nat.le_refl _) _).alloc (by simp) _⟩

set_option maxRecDepth 100000 in
set_option maxHeartbeats 1000000 in
/-- Each text has only letters of another one. -/
theorem inside_yes (va vb : Value) (A B : List ByteArray) (n bA bB : Nat) (w : World) (hn : 1 ≤ n) (h8 : n ≤ 8) (hA : w.ownsRow bA 9 1 va n (A.map Value.string)) (hB : w.ownsRow bB 9 1 vb n (B.map Value.string))
    (hsz : ∀ (k : Nat) (x : ByteArray), A[k]? = some x → x.size ≤ 256) (hsz' : ∀ (k : Nat) (x : ByteArray), B[k]? = some x → x.size ≤ 256) (hin : ∀ (k : Nat) (x y : ByteArray), A[k]? = some x → B[k]? = some y → ∀ u ∈ x.data.toList, u ∈ y.data.toList) :
    Calls Try.prog 43 #[va, vb] w fun e w' => e = .returned (.bool true) ∧ ∃ d, w' = w.drewN d := by
  have la : A.length = n := by have := hA.1; simpa using this
  have lb : B.length = n := by have := hB.1; simpa using this
  obtain ⟨ga, ca, rfl, -, -⟩ := hA.form (by omega)
  obtain ⟨gb, cb, rfl, -, -⟩ := hB.form (by omega)
  have HA := Lib.hid hA
  have HB := Lib.hid hB
  have HS := Lib.hid hsz
  have HS' := Lib.hid hsz'
  have HIN := Lib.hid hin
  have LA := Lib.hid la
  have LB := Lib.hid lb
  clear hA hB hsz hsz' hin la lb
  go_enter Try.func43, Try.ntmps43
  go_wp2
  go_loopw [5, 6] (fun is i wr => ∃ k d : Nat, k ≤ n ∧ is = .bool true ∧ i = .int .i64 k ∧ wr = w.drewN d) (fun _ i _ => n - (intOf i).toNat)
  case atStart => exact ⟨0, 0, by omega, rfl, rfl, rfl⟩
  case round =>
    obtain ⟨k, d, hk, rfl, rfl, hwr⟩ := hrel
    have HW := Lib.hid hwr
    by_cases hlt : k < n
    · obtain ⟨x, hx⟩ : ∃ x, A[k]? = some x := ⟨_, List.getElem?_eq_getElem (by rw [LA.out]; exact hlt)⟩
      obtain ⟨y, hy⟩ : ∃ y, B[k]? = some y := ⟨_, List.getElem?_eq_getElem (by rw [LB.out]; exact hlt)⟩
      have cxw : w.cell? ⟨ga, k, none⟩ = some (.string x) := (HA.out.cellAt k (by omega)).trans (by rw [List.getElem?_map, hx]; rfl)
      have cyw : w.cell? ⟨gb, k, none⟩ = some (.string y) := (HB.out.cellAt k (by omega)).trans (by rw [List.getElem?_map, hy]; rfl)
      have cx : wr.cell? ⟨ga, k, none⟩ = some (.string x) := by rw [HW.out]; exact cxw
      have hx256 := HS.out k x hx
      have hy256 := HS'.out k y hy
      have HXY := Lib.hid (HIN.out k x y hx hy)
      clear hx hy hwr
      go_wp2
      go_loopw [5, 7] (fun is j wq => ∃ m d : Nat, m ≤ x.size ∧ is = .bool true ∧ j = .int .i64 m ∧ wq = w.drewN d) (fun _ j _ => x.size - (intOf j).toNat)
      case atStart => exact ⟨0, d, by omega, rfl, rfl, HW.out⟩
      case round =>
        obtain ⟨m, d2, hm, rfl, rfl, hwq⟩ := hrel
        have HQ := Lib.hid hwq
        by_cases hlm : m < x.size
        · have cx : wr.cell? ⟨ga, k, none⟩ = some (.string x) := by rw [HQ.out]; exact cxw
          have cy : wr.cell? ⟨gb, k, none⟩ = some (.string y) := by rw [HQ.out]; exact cyw
          clear hwq
          go_wp2
          go_quiet ((go_at_call 39; exact quietL (has_yes y x[m] _ (by omega) (HXY.out _ (by rw [ByteArray.getElem_eq_getElem_data]; exact Array.getElem_mem_toList _)))))
          go_wp2
          go_roundw
          case rel => exact ⟨m + 1, d2 + nq, by omega, rfl, by go_num, by rw [HQ.out, World.drewN_drewN]⟩
          case measure => simp [intOf]; omega
        · obtain rfl : m = x.size := by omega
          have cx : wr.cell? ⟨ga, k, none⟩ = some (.string x) := by rw [HQ.out]; exact cxw
          clear hwq
          go_wp2
          go_roundw
          case rel => exact ⟨k + 1, d2, by omega, rfl, by go_num, HQ.out⟩
          case measure => simp [intOf]; omega
    · obtain rfl : k = n := by omega
      clear hwr
      go_wp2
      go_ret
      exact ⟨rfl, d, HW.out⟩
end Go.Proofs.Ytmoohefoilaigaa
