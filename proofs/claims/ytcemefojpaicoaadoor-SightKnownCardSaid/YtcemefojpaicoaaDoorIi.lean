/- Two rows of numbers that are the same; a row of numbers that is written down. -/
import Derived.Test.YtcemefojpaicoaaDoorH
namespace Go.Proofs.YtcemefojpaicoaaDoor
open Go.RowKit Go.Shelf

set_option maxHeartbeats 1000000 in
theorem sameInts_yes (va vb : Value) (l : List Nat) (B B' : Nat) (w : World) (hn : l.length ≤ 100) (ha : Ints w B va l) (hb : Ints w B' vb l) :
    Calls Tryd.prog 11 #[va, vb] w fun e w' => e = .returned (.bool true) ∧ Below w.heap.size w w' := by
  obtain ⟨A, c, rfl, hA⟩ := ha
  obtain ⟨A', c', rfl, hA'⟩ := hb
  obtain ⟨n, hn2⟩ : ∃ n, n = l.length := ⟨_, rfl⟩
  rw [← hn2] at hA hA' hn ⊢
  have HN := Lib.hid hn2
  have HA := Lib.hid hA
  have HA' := Lib.hid hA'
  clear hn2 hA hA'
  go_enter Tryd.func11, Tryd.ntmps11
  go_wp2
  go_loopw [5, 6] (fun s i wr => ∃ k : Nat, k ≤ n ∧ i = .int .i64 k ∧ s = .bool true ∧ Below w.heap.size w wr) (fun _ i _ => n - (intOf i).toNat)
  case atStart => exact ⟨0, by omega, rfl, by simp, Below.refl _ _⟩
  case round =>
    obtain ⟨k, hk, rfl, rfl, hb⟩ := hrel
    have HB := Lib.hid hb
    by_cases hlt : k < n
    · obtain ⟨b, o, rfl, hb1, hr1⟩ := HA.out (by omega)
      obtain ⟨b', o', rfl, hb1', hr1'⟩ := HA'.out (by omega)
      obtain ⟨x, hx⟩ : ∃ x, l[k]? = some x := ⟨_, List.getElem?_eq_getElem (by rw [← HN.out]; exact hlt)⟩
      have d1 := World.block_lt_of_cell? w _ (hr1 k x hx)
      have d2 := World.block_lt_of_cell? w _ (hr1' k x hx)
      have c1 := bcell hb d1 (hr1 k x hx)
      have c2 := bcell hb d2 (hr1' k x hx)
      clear hb hx hr1 hr1' d1 d2
      go_wp2
      go_region
      go_wp2
      exact ⟨⟨k + 1, by omega, by go_num, by simp, HB.out.drew⟩, by simp [intOf]; omega⟩
    · obtain rfl : k = n := by omega
      clear hb
      go_wp2
      go_ret
      exact ⟨rfl, HB.out⟩

theorem ints_lit {w : World} {g B : Nat} {t : TypeId} {l : List Nat} (h : Blok w g t (l.map fun (n : Nat) => .int .i64 n)) (hB : g < B) (n c : Nat) (hn : n = l.length) : Ints w B (.slice (some ⟨g, 0, none⟩) n c) l := by
  subst hn
  refine ⟨some ⟨g, 0, none⟩, c, rfl, fun _ => ⟨g, 0, rfl, hB, fun k x hx => ?_⟩⟩
  rw [Nat.zero_add, h.cell, List.getElem?_map, hx]
  rfl
end Go.Proofs.YtcemefojpaicoaaDoor
