/- A new urn, of any list of numbers. -/
import Derived.Test.YthhajbgddifenaaUr
namespace Go.Proofs.Ythhajbgddifenaa
open Go.RowKit Go.Shelf

/-- A slice of numbers that came in. -/
def NumRow (w : World) (a : Option Addr) (len : Nat) : Prop := len ≤ maxLen ∧ (0 < len → ∃ x : Addr, a = some x ∧ ∀ i, i < len → ∃ n : Int, w.cell? (x.add i) = some (.int .i64 n))
def NewPost (w : World) (e : Ending) (w' : World) : Prop := e = .returned (.pointer (some ⟨w.heap.size, 0, none⟩)) ∧ UrnAt w' w.heap.size ∧ Below w.heap.size w w'
set_option maxHeartbeats 1000000 in
theorem newUrn_any (a : Option Addr) (len cap : Nat) (w : World) (hr : NumRow w a len) : Calls Try.prog 16 #[.slice a len cap] w (NewPost w) := by
  obtain ⟨hm, hr⟩ := hr
  unfold maxLen at hm
  have HR := Lib.hid hr
  clear hr
  go_enter Try.func16, Try.ntmps16
  go_wp2
  go_loopw [4] (fun i wr => ∃ k : Nat, k ≤ len ∧ i = .int .i64 k ∧ UrnAt wr w.heap.size ∧ Below w.heap.size w wr) (fun i _ => len - (intOf i).toNat)
  case atStart => exact ⟨0, by omega, rfl, ⟨_, _, Blok.new w _ _⟩, (Below.refl _ _).alloc (Nat.le_refl _) _⟩
  case round =>
    obtain ⟨k, hk, rfl, hu, hb⟩ := hrel
    by_cases hlt : k < len
    · obtain ⟨⟨b, o, sp⟩, rfl, hx⟩ := HR.out (by omega)
      obtain ⟨n, hc⟩ := hx k hlt
      have hl := World.block_lt_of_cell? w _ hc
      have hc2 := (hb.cell hl).trans hc
      obtain ⟨p, q, hbl⟩ := hu
      have c1 : wr.cell? ⟨w.heap.size, 1, none⟩ = some (.int .u64 q) := hbl.cell 1
      have f1 := hbl.free 1
      have hz := hbl.size
      have HBL := Lib.hid hbl
      have HB := Lib.hid hb
      clear hx hc hbl hb
      go_wp2
      go_region
      go_wp2_with fail
      refine (turn_any _ _ ?_).mono ?_
      · exact ⟨_, _, HBL.out.put 1 _⟩
      rintro e w1 ⟨t1, rfl, ht1, hu1, hk1⟩
      have HK1 := Lib.hid hk1
      clear ht1 hk1
      go_wp2_with fail
      refine (turn_any _ _ hu1).mono ?_
      rintro e w2 ⟨t2, rfl, ht2, hu2, hk2⟩
      have HK2 := Lib.hid (HK1.out.trans hk2)
      have HU2 := Lib.hid hu2
      clear hu1 ht2 hk2 hu2
      go_wp2
      go_roundw
      case rel => exact ⟨k + 1, by omega, by go_num, HU2.out, (HB.out.setCell (p := ⟨w.heap.size, 1, none⟩) (Nat.le_refl _) _).drew.trans (HK2.out.below (by simp [World.setCell]; omega) (Nat.le_refl _))⟩
      case measure => simp [intOf]; omega
    · obtain rfl : k = len := by omega
      have HU := Lib.hid hu
      have HB := Lib.hid hb
      clear hu hb
      go_wp2
      go_ret
      exact ⟨rfl, HU.out, HB.out⟩
end Go.Proofs.Ythhajbgddifenaa
