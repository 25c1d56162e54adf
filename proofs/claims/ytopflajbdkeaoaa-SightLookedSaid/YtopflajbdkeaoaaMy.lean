/- SightLooked's helpers: many. -/
import Derived.Test.YtopflajbdkeaoaaLw
namespace Go.Proofs.Ytopflajbdkeaoaa
open Go.RowKit Go.Shelf

theorem manyOf_le (ts : List ByteArray) (h : ∀ t ∈ ts, t.size ≤ 256) : manyOf ts ≤ 256 * ts.length := by
  induction ts with
  | nil => simp [manyOf]
  | cons t ts ih =>
    have h1 := ih fun x hx => h x (by simp [hx])
    have h2 := h t (by simp)
    simp only [manyOf, List.map_cons, List.sum_cons, List.length_cons] at h1 ⊢
    omega
set_option maxHeartbeats 1000000 in
theorem many_any (g cap : Nat) (ts : List ByteArray) (w : World) (hl : ts.length ≤ 8) (hs : ∀ t ∈ ts, t.size ≤ 256) (hc : ∀ k x, ts[k]? = some x → w.cell? ⟨g, k, none⟩ = some (.string x)) :
    Calls Try.prog 74 #[.slice (some ⟨g, 0, none⟩) ts.length cap] w fun e w' => e = .returned (.int .i64 (manyOf ts)) ∧ w' = w := by
  obtain ⟨n, hn⟩ : ∃ n, n = ts.length := ⟨_, rfl⟩
  rw [← hn] at hl ⊢
  have HN := Lib.hid hn
  have HS := Lib.hid hs
  have HC := Lib.hid hc
  clear hn hs hc
  go_enter Try.func74, Try.ntmps74
  go_wp2
  go_loop [3, 4] (fun s i => ∃ k : Nat, k ≤ n ∧ i = .int .i64 k ∧ s = .int .i64 (manyOf (ts.take k))) (fun _ i => n - (intOf i).toNat)
  case atStart => exact ⟨0, by omega, rfl, rfl⟩
  case round =>
    obtain ⟨k, hk, rfl, rfl⟩ := hrel
    have hle := manyOf_le (ts.take k) fun t ht => HS.out t (List.mem_of_mem_take ht)
    have htl : (ts.take k).length ≤ k := List.length_take_le _ _
    by_cases hlt : k < n
    · have hkt : k < ts.length := by rw [← HN.out]; exact hlt
      obtain ⟨x, hx⟩ : ∃ x, x = ts[k] := ⟨_, rfl⟩
      have c := HC.out k x (by rw [hx]; exact List.getElem?_eq_getElem hkt)
      have hx2 : x.size ≤ 256 := by rw [hx]; exact HS.out _ (List.getElem_mem hkt)
      have HTK := Lib.hid (show manyOf (ts.take (k + 1)) = manyOf (ts.take k) + x.size by rw [List.take_succ_eq_append_getElem hkt, manyOf_snoc, hx])
      clear hx
      go_wp2
      go_round
      case rel => exact ⟨k + 1, by omega, by go_num, by rw [HTK.out]; go_num⟩
      case measure => simp [intOf]; omega
    · obtain rfl : k = n := by omega
      have e : ts.take k = ts := List.take_of_length_le (by rw [HN.out]; exact Nat.le_refl _)
      rw [e]
      clear hle htl e
      go_wp2
      go_ret
      exact ⟨rfl, rfl⟩
end Go.Proofs.Ytopflajbdkeaoaa
