/- SightAll's helpers: In and has that answer no; SameInts of equal lists. -/
import Derived.Test.YthhajbgddifenaaHs
import Derived.Test.YthhajbgddifenaaT
namespace Go.Proofs.Ythhajbgddifenaa
open Go.RowKit Go.Shelf

set_option maxHeartbeats 1000000 in
theorem in_no (v : Value) (l : List Nat) (x : Nat) (w : World) (hl8 : l.length ≤ 100) (B : Nat) (hv : Ints w B v l) (hx : ¬ x ∈ l) : Calls Try.prog 36 #[v, .int .i64 x] w fun e w' => e = .returned (.bool false) ∧ w = w' := by
  obtain ⟨A, c, rfl, hA⟩ := hv
  obtain ⟨n, hn⟩ : ∃ n, n = l.length := ⟨_, rfl⟩
  rw [← hn] at hl8 hA ⊢
  have HN := Lib.hid hn
  have HA := Lib.hid hA
  have HX := Lib.hid hx
  clear hn hA hx
  go_enter Try.func36, Try.ntmps36
  go_wp2
  go_loop [5] (fun i => ∃ k : Nat, k ≤ n ∧ i = .int .i64 k) (fun i => n - (intOf i).toNat)
  case atStart => exact ⟨0, by omega, rfl⟩
  case round =>
    obtain ⟨k, hk, rfl⟩ := hrel
    by_cases hkn : k < n
    · obtain ⟨b, o, rfl, -, hc⟩ := HA.out (by omega)
      obtain ⟨y, hy⟩ : ∃ y, l[k]? = some y := ⟨_, List.getElem?_eq_getElem (by rw [← HN.out]; exact hkn)⟩
      have hcy := hc k y hy
      have hb : ((y : Int) == x) = false := by
        rw [beq_eq_false_iff_ne]
        intro e
        exact HX.out (by rw [show x = y by omega]; exact List.mem_of_getElem? hy)
      clear hy hc
      go_wp2
      exact ⟨⟨k + 1, by omega, by go_num⟩, by simp [intOf]; omega⟩
    · obtain rfl : k = n := by omega
      go_wp2
      go_ret
      exact ⟨rfl, rfl⟩

set_option maxHeartbeats 1000000 in
theorem has_no (s : ByteArray) (u : UInt8) (w : World) (hs : s.size ≤ 1000) (hx : ¬ u ∈ s.data.toList) : Calls Try.prog 39 #[.string s, .int .u8 u.toNat] w fun e w' => e = .returned (.bool false) ∧ w = w' := by
  have HX := Lib.hid hx
  clear hx
  go_enter Try.func39, Try.ntmps39
  go_wp2
  go_loop [5] (fun i => ∃ k : Nat, k ≤ s.size ∧ i = .int .i64 k) (fun i => s.size - (intOf i).toNat)
  case atStart => exact ⟨0, by omega, rfl⟩
  case round =>
    obtain ⟨k, hk, rfl⟩ := hrel
    by_cases hkn : k < s.size
    · have hb : ((s[k].toNat : Int) == u.toNat) = false := by
        rw [beq_eq_false_iff_ne]
        intro e
        refine HX.out ?_
        have e2 : s[k] = u := UInt8.toNat_inj.1 (by omega)
        rw [← e2, ByteArray.getElem_eq_getElem_data]
        exact Array.getElem_mem_toList _
      go_wp2
      exact ⟨⟨k + 1, by omega, by go_num⟩, by simp [intOf]; omega⟩
    · obtain rfl : k = s.size := by omega
      go_wp2
      go_ret
      exact ⟨rfl, rfl⟩

set_option maxHeartbeats 1000000 in
theorem sameInts_yes (va vb : Value) (l : List Nat) (B B' : Nat) (w : World) (hn : l.length ≤ 100) (ha : Ints w B va l) (hb : Ints w B' vb l) :
    Calls Try.prog 27 #[va, vb] w fun e w' => e = .returned (.bool true) ∧ Below w.heap.size w w' := by
  obtain ⟨A, c, rfl, hA⟩ := ha
  obtain ⟨A', c', rfl, hA'⟩ := hb
  obtain ⟨n, hn2⟩ : ∃ n, n = l.length := ⟨_, rfl⟩
  rw [← hn2] at hA hA' hn ⊢
  have HN := Lib.hid hn2
  have HA := Lib.hid hA
  have HA' := Lib.hid hA'
  clear hn2 hA hA'
  go_enter Try.func27, Try.ntmps27
  go_wp2
  go_loopw [5, 6] (fun s i wr => ∃ k : Nat, k ≤ n ∧ i = .int .i64 k ∧ s = .bool true ∧ Below w.heap.size w wr) (fun _ i _ => n - (intOf i).toNat)
  case atStart => exact ⟨0, by omega, rfl, by simp, Below.refl _ _⟩
  case round =>
    obtain ⟨k, hk, rfl, rfl, hb⟩ := hrel
    have HB := Lib.hid hb
    by_cases hlt : k < n
    · obtain ⟨b, o, rfl, hb1, hr1⟩ := HA.out (by omega)
      obtain ⟨b', o', rfl, hb1', hr1'⟩ := HA'.out (by omega)
      obtain ⟨x, hx⟩ : ∃ x, l[k]? = some x := ⟨_, List.getElem?_eq_getElem (by rw [← HN.out]; exact hlt)⟩
      have d1 := World.block_lt_of_cell? w _ (hr1 k x hx)
      have d2 := World.block_lt_of_cell? w _ (hr1' k x hx)
      have c1 := bcell hb d1 (hr1 k x hx)
      have c2 := bcell hb d2 (hr1' k x hx)
      clear hb hx hr1 hr1' d1 d2
      go_wp2
      go_region
      go_wp2
      exact ⟨⟨k + 1, by omega, by go_num, by simp, HB.out.drew⟩, by simp [intOf]; omega⟩
    · obtain rfl : k = n := by omega
      clear hb
      go_wp2
      go_ret
      exact ⟨rfl, HB.out⟩
end Go.Proofs.Ythhajbgddifenaa
