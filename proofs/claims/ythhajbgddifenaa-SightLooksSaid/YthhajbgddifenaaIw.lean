/- Small helpers of the laws: whether a list has a number, a span a number, a text a letter. · SightAll's helpers: In and has that answer no; SameInts of equal lists. · Within, inside: true answers. -/
import Derived.Test.YthhajbgddifenaaSp
import Derived.Deep.RegionHeld3
import Derived.Test.YthhajbgddifenaaV
import Derived.BigQuiet
import Derived.Deep.AppendLies
namespace Go.Proofs.Ythhajbgddifenaa
section
open Go.RowKit Go.Shelf

set_option maxHeartbeats 1000000 in
/-- A list of numbers has one. -/
theorem in_yes (v : Value) (l : List Nat) (x : Nat) (w : World) (hl8 : l.length ≤ 100) (B : Nat) (hv : Ints w B v l) (hx : x ∈ l) : Calls Try.prog 36 #[v, .int .i64 x] w fun e w' => e = .returned (.bool true) ∧ w = w' := by
  obtain ⟨A, c, rfl, hA⟩ := hv
  obtain ⟨n, hn⟩ : ∃ n, n = l.length := ⟨_, rfl⟩
  have hn1 : 0 < n := by rw [hn]; exact List.length_pos_of_mem hx
  obtain ⟨b, o, rfl, -, hc⟩ := hA (by omega)
  rw [← hn] at hl8 ⊢
  obtain ⟨j, hj⟩ := List.mem_iff_getElem?.1 hx
  have hjn : j < n := by rw [hn]; exact (List.getElem?_eq_some_iff.1 hj).1
  have HJ := Lib.hid hj
  have HC := Lib.hid hc
  have HN := Lib.hid hn
  clear hj hc hn hx hA
  go_enter Try.func36, Try.ntmps36
  go_wp2
  go_loop [5] (fun i => ∃ k : Nat, k ≤ j ∧ i = .int .i64 k) (fun i => n - (intOf i).toNat)
  case atStart => exact ⟨0, by omega, rfl⟩
  case round =>
    obtain ⟨k, hk, rfl⟩ := hrel
    have hkn : k < n := by omega
    obtain ⟨y, hy⟩ : ∃ y, l[k]? = some y := ⟨_, List.getElem?_eq_getElem (by rw [← HN.out]; exact hkn)⟩
    have hcy := HC.out k y hy
    by_cases hyx : y = x
    · subst hyx
      clear hy
      go_wp2
      go_ret
      exact ⟨rfl, rfl⟩
    · have hb : ((y : Int) == x) = false := by simp; omega
      have hkj : k < j := by
        rcases Nat.lt_or_ge k j with h | h
        · exact h
        · exfalso
          have e : k = j := by omega
          subst e
          rw [HJ.out] at hy
          injection hy with hy
          exact hyx hy.symm
      clear hy hyx
      go_wp2
      exact ⟨⟨k + 1, by omega, by go_num⟩, by simp [intOf]; omega⟩

set_option maxHeartbeats 1000000 in
/-- A text has a letter. -/
theorem has_yes (s : ByteArray) (u : UInt8) (w : World) (hs : s.size ≤ 1000) (hx : u ∈ s.data.toList) : Calls Try.prog 39 #[.string s, .int .u8 u.toNat] w fun e w' => e = .returned (.bool true) ∧ w = w' := by
  obtain ⟨j, hj⟩ := List.mem_iff_getElem?.1 hx
  have hjn : j < s.size := by
    have := (List.getElem?_eq_some_iff.1 hj).1
    rwa [Array.length_toList] at this
  have HJ := Lib.hid hj
  clear hj hx
  go_enter Try.func39, Try.ntmps39
  go_wp2
  go_loop [5] (fun i => ∃ k : Nat, k ≤ j ∧ i = .int .i64 k) (fun i => s.size - (intOf i).toNat)
  case atStart => exact ⟨0, by omega, rfl⟩
  case round =>
    obtain ⟨k, hk, rfl⟩ := hrel
    have hkn : k < s.size := by omega
    by_cases hyx : s[k] = u
    · have hb : ((s[k].toNat : Int) == u.toNat) = true := by simp [hyx]
      clear hyx
      go_wp2
      go_ret
      exact ⟨rfl, rfl⟩
    · have hb : ((s[k].toNat : Int) == u.toNat) = false := by
        simp
        intro h
        exact hyx (UInt8.toNat_inj.1 (by omega))
      have hkj : k < j := by
        rcases Nat.lt_or_ge k j with h | h
        · exact h
        · exfalso
          have e : k = j := by omega
          subst e
          have h1 := (List.getElem?_eq_some_iff.1 HJ.out).2
          exact hyx (by rw [← h1]; simp [ByteArray.getElem_eq_getElem_data])
      clear hyx
      go_wp2
      exact ⟨⟨k + 1, by omega, by go_num⟩, by simp [intOf]; omega⟩

set_option maxHeartbeats 1000000 in
/-- A span has a number. -/
theorem hasIn_yes (lo hi n : Int) (w : World) (h1 : lo ≤ n) (h2 : n ≤ hi) : Calls Try.prog 37 #[.agg #[.int .i64 lo, .int .i64 hi], .int .i64 n] w fun e w' => e = .returned (.bool true) ∧ Below w.heap.size w w' := by
  go_enter Try.func37, Try.ntmps37
  go_wp2
  go_ret
  exact ⟨rfl, (Below.refl _ _).alloc (Nat.le_refl _) _⟩
/-- Of: a number of a span. -/
def OfPost (g : Nat) (lo hi : Int) (w : World) (e : Ending) (w' : World) : Prop := ∃ x : Int, e = .returned (.int .i64 x) ∧ lo ≤ x ∧ x ≤ hi ∧ UrnAt w' g ∧ Kg g w w'
set_option maxRecDepth 100000 in
set_option maxHeartbeats 1000000 in
theorem of_any (g : Nat) (lo hi : Int) (w : World) (h1 : -100000 ≤ lo) (h2 : lo ≤ hi) (h3 : hi ≤ 100000) (hu : UrnAt w g) : Calls Try.prog 38 #[.pointer (some ⟨g, 0, none⟩), .agg #[.int .i64 lo, .int .i64 hi]] w (OfPost g lo hi w) := by
  have hgw := hu.size
  have hu1 := hu.alloc (.cells #[.int .i64 lo, .int .i64 hi] 48)
  have HB := Lib.hid (Blok.new w 48 [.int .i64 lo, .int .i64 hi])
  have HU1 := Lib.hid hu1
  have NE := Lib.hid (show w.heap.size ≠ g by omega)
  clear hu hu1
  go_enter Try.func38, Try.ntmps38
  go_wp2
  go_region_held3 (fun w' => w'.cell? ⟨w.heap.size, 0, none⟩ = some (.int .i64 lo) ∧ w'.cell? ⟨w.heap.size, 1, none⟩ = some (.int .i64 hi))
    (first
      | go_keep
      | (go_split_ands; exact ⟨hk3.cell (by assumption) NE.out, hk3.cell (by assumption) NE.out⟩)
      | (go_split_ands; exact ⟨hk2.cell (by assumption) NE.out, hk2.cell (by assumption) NE.out⟩))
    (first
      | (go_at_call 52; refine (any_any g w2.heap.size 3 3 3 [lo, hi, f] _ rfl (by simp) (by simp) (Blok.new w2 3 [.int .i64 lo, .int .i64 hi, .int .i64 f]) (by have := hu2.size; omega) (hu2.alloc _)).mono ?_; rintro e w3 ⟨x, rfl, hx, hu3, hk3⟩)
      | (go_at_call 50; refine (from_any _ _ _ _ (by omega) (by omega) (by omega) (by omega) (by exact HU1.out)).mono ?_; rintro e w2 ⟨f, rfl, f1, f2, hu2, hk2⟩))
  have hx2 : lo ≤ x ∧ x ≤ hi := by simp at hx; omega
  have HU3 := Lib.hid hu3
  have HK3 := Lib.hid (((((Kg.refl g w).alloc _).drew.trans hk2).alloc _).trans hk3)
  clear hx hu3 hk3 hu2 hk2
  go_wp2
  go_ret
  exact ⟨x, rfl, hx2.1, hx2.2, HU3.out, HK3.out⟩
end
section
open Go.RowKit Go.Shelf

set_option maxHeartbeats 1000000 in
theorem in_no (v : Value) (l : List Nat) (x : Nat) (w : World) (hl8 : l.length ≤ 100) (B : Nat) (hv : Ints w B v l) (hx : ¬ x ∈ l) : Calls Try.prog 36 #[v, .int .i64 x] w fun e w' => e = .returned (.bool false) ∧ w = w' := by
  obtain ⟨A, c, rfl, hA⟩ := hv
  obtain ⟨n, hn⟩ : ∃ n, n = l.length := ⟨_, rfl⟩
  rw [← hn] at hl8 hA ⊢
  have HN := Lib.hid hn
  have HA := Lib.hid hA
  have HX := Lib.hid hx
  clear hn hA hx
  go_enter Try.func36, Try.ntmps36
  go_wp2
  go_loop [5] (fun i => ∃ k : Nat, k ≤ n ∧ i = .int .i64 k) (fun i => n - (intOf i).toNat)
  case atStart => exact ⟨0, by omega, rfl⟩
  case round =>
    obtain ⟨k, hk, rfl⟩ := hrel
    by_cases hkn : k < n
    · obtain ⟨b, o, rfl, -, hc⟩ := HA.out (by omega)
      obtain ⟨y, hy⟩ : ∃ y, l[k]? = some y := ⟨_, List.getElem?_eq_getElem (by rw [← HN.out]; exact hkn)⟩
      have hcy := hc k y hy
      have hb : ((y : Int) == x) = false := by
        rw [beq_eq_false_iff_ne]
        intro e
        exact HX.out (by rw [show x = y by omega]; exact List.mem_of_getElem? hy)
      clear hy hc
      go_wp2
      exact ⟨⟨k + 1, by omega, by go_num⟩, by simp [intOf]; omega⟩
    · obtain rfl : k = n := by omega
      go_wp2
      go_ret
      exact ⟨rfl, rfl⟩

set_option maxHeartbeats 1000000 in
theorem has_no (s : ByteArray) (u : UInt8) (w : World) (hs : s.size ≤ 1000) (hx : ¬ u ∈ s.data.toList) : Calls Try.prog 39 #[.string s, .int .u8 u.toNat] w fun e w' => e = .returned (.bool false) ∧ w = w' := by
  have HX := Lib.hid hx
  clear hx
  go_enter Try.func39, Try.ntmps39
  go_wp2
  go_loop [5] (fun i => ∃ k : Nat, k ≤ s.size ∧ i = .int .i64 k) (fun i => s.size - (intOf i).toNat)
  case atStart => exact ⟨0, by omega, rfl⟩
  case round =>
    obtain ⟨k, hk, rfl⟩ := hrel
    by_cases hkn : k < s.size
    · have hb : ((s[k].toNat : Int) == u.toNat) = false := by
        rw [beq_eq_false_iff_ne]
        intro e
        refine HX.out ?_
        have e2 : s[k] = u := UInt8.toNat_inj.1 (by omega)
        rw [← e2, ByteArray.getElem_eq_getElem_data]
        exact Array.getElem_mem_toList _
      go_wp2
      exact ⟨⟨k + 1, by omega, by go_num⟩, by simp [intOf]; omega⟩
    · obtain rfl : k = s.size := by omega
      go_wp2
      go_ret
      exact ⟨rfl, rfl⟩

set_option maxHeartbeats 1000000 in
theorem sameInts_yes (va vb : Value) (l : List Nat) (B B' : Nat) (w : World) (hn : l.length ≤ 100) (ha : Ints w B va l) (hb : Ints w B' vb l) :
    Calls Try.prog 27 #[va, vb] w fun e w' => e = .returned (.bool true) ∧ Below w.heap.size w w' := by
  obtain ⟨A, c, rfl, hA⟩ := ha
  obtain ⟨A', c', rfl, hA'⟩ := hb
  obtain ⟨n, hn2⟩ : ∃ n, n = l.length := ⟨_, rfl⟩
  rw [← hn2] at hA hA' hn ⊢
  have HN := Lib.hid hn2
  have HA := Lib.hid hA
  have HA' := Lib.hid hA'
  clear hn2 hA hA'
  go_enter Try.func27, Try.ntmps27
  go_wp2
  go_loopw [5, 6] (fun s i wr => ∃ k : Nat, k ≤ n ∧ i = .int .i64 k ∧ s = .bool true ∧ Below w.heap.size w wr) (fun _ i _ => n - (intOf i).toNat)
  case atStart => exact ⟨0, by omega, rfl, by simp, Below.refl _ _⟩
  case round =>
    obtain ⟨k, hk, rfl, rfl, hb⟩ := hrel
    have HB := Lib.hid hb
    by_cases hlt : k < n
    · obtain ⟨b, o, rfl, hb1, hr1⟩ := HA.out (by omega)
      obtain ⟨b', o', rfl, hb1', hr1'⟩ := HA'.out (by omega)
      obtain ⟨x, hx⟩ : ∃ x, l[k]? = some x := ⟨_, List.getElem?_eq_getElem (by rw [← HN.out]; exact hlt)⟩
      have d1 := World.block_lt_of_cell? w _ (hr1 k x hx)
      have d2 := World.block_lt_of_cell? w _ (hr1' k x hx)
      have c1 := bcell hb d1 (hr1 k x hx)
      have c2 := bcell hb d2 (hr1' k x hx)
      clear hb hx hr1 hr1' d1 d2
      go_wp2
      go_region
      go_wp2
      exact ⟨⟨k + 1, by omega, by go_num, by simp, HB.out.drew⟩, by simp [intOf]; omega⟩
    · obtain rfl : k = n := by omega
      clear hb
      go_wp2
      go_ret
      exact ⟨rfl, HB.out⟩
end
section
open Go.RowKit Go.Shelf

set_option maxHeartbeats 1000000 in
/-- A span lies within another one. -/
theorem within_yes (a b c d : Int) (w : World) (h1 : c ≤ a) (h2 : b ≤ d) : Calls Try.prog 44 #[.agg #[.int .i64 a, .int .i64 b], .agg #[.int .i64 c, .int .i64 d]] w fun e w' => e = .returned (.bool true) ∧ Below w.heap.size w w' := by
  go_enter Try.func44, Try.ntmps44
  go_wp2
  go_ret
  exact ⟨rfl, ((Below.refl _ _).alloc (Nat.le_refl _) _).alloc (by simp) _⟩

set_option maxRecDepth 100000 in
set_option maxHeartbeats 1000000 in
/-- Each text has only letters of another one. -/
theorem inside_yes (va vb : Value) (A B : List ByteArray) (n bA bB : Nat) (w : World) (hn : 1 ≤ n) (h8 : n ≤ 8) (hA : w.ownsRow bA 9 1 va n (A.map Value.string)) (hB : w.ownsRow bB 9 1 vb n (B.map Value.string))
    (hsz : ∀ (k : Nat) (x : ByteArray), A[k]? = some x → x.size ≤ 256) (hsz' : ∀ (k : Nat) (x : ByteArray), B[k]? = some x → x.size ≤ 256) (hin : ∀ (k : Nat) (x y : ByteArray), A[k]? = some x → B[k]? = some y → ∀ u ∈ x.data.toList, u ∈ y.data.toList) :
    Calls Try.prog 43 #[va, vb] w fun e w' => e = .returned (.bool true) ∧ ∃ d, w' = w.drewN d := by
  have la : A.length = n := by have := hA.1; simpa using this
  have lb : B.length = n := by have := hB.1; simpa using this
  obtain ⟨ga, ca, rfl, -, -⟩ := hA.form (by omega)
  obtain ⟨gb, cb, rfl, -, -⟩ := hB.form (by omega)
  have HA := Lib.hid hA
  have HB := Lib.hid hB
  have HS := Lib.hid hsz
  have HS' := Lib.hid hsz'
  have HIN := Lib.hid hin
  have LA := Lib.hid la
  have LB := Lib.hid lb
  clear hA hB hsz hsz' hin la lb
  go_enter Try.func43, Try.ntmps43
  go_wp2
  go_loopw [5, 6] (fun is i wr => ∃ k d : Nat, k ≤ n ∧ is = .bool true ∧ i = .int .i64 k ∧ wr = w.drewN d) (fun _ i _ => n - (intOf i).toNat)
  case atStart => exact ⟨0, 0, by omega, rfl, rfl, rfl⟩
  case round =>
    obtain ⟨k, d, hk, rfl, rfl, hwr⟩ := hrel
    have HW := Lib.hid hwr
    by_cases hlt : k < n
    · obtain ⟨x, hx⟩ : ∃ x, A[k]? = some x := ⟨_, List.getElem?_eq_getElem (by rw [LA.out]; exact hlt)⟩
      obtain ⟨y, hy⟩ : ∃ y, B[k]? = some y := ⟨_, List.getElem?_eq_getElem (by rw [LB.out]; exact hlt)⟩
      have cxw : w.cell? ⟨ga, k, none⟩ = some (.string x) := (HA.out.cellAt k (by omega)).trans (by rw [List.getElem?_map, hx]; rfl)
      have cyw : w.cell? ⟨gb, k, none⟩ = some (.string y) := (HB.out.cellAt k (by omega)).trans (by rw [List.getElem?_map, hy]; rfl)
      have cx : wr.cell? ⟨ga, k, none⟩ = some (.string x) := by rw [HW.out]; exact cxw
      have hx256 := HS.out k x hx
      have hy256 := HS'.out k y hy
      have HXY := Lib.hid (HIN.out k x y hx hy)
      clear hx hy hwr
      go_wp2
      go_loopw [5, 7] (fun is j wq => ∃ m d : Nat, m ≤ x.size ∧ is = .bool true ∧ j = .int .i64 m ∧ wq = w.drewN d) (fun _ j _ => x.size - (intOf j).toNat)
      case atStart => exact ⟨0, d, by omega, rfl, rfl, HW.out⟩
      case round =>
        obtain ⟨m, d2, hm, rfl, rfl, hwq⟩ := hrel
        have HQ := Lib.hid hwq
        by_cases hlm : m < x.size
        · have cx : wr.cell? ⟨ga, k, none⟩ = some (.string x) := by rw [HQ.out]; exact cxw
          have cy : wr.cell? ⟨gb, k, none⟩ = some (.string y) := by rw [HQ.out]; exact cyw
          clear hwq
          go_wp2
          go_quiet ((go_at_call 39; exact quietL (has_yes y x[m] _ (by omega) (HXY.out _ (by rw [ByteArray.getElem_eq_getElem_data]; exact Array.getElem_mem_toList _)))))
          go_wp2
          go_roundw
          case rel => exact ⟨m + 1, d2 + nq, by omega, rfl, by go_num, by rw [HQ.out, World.drewN_drewN]⟩
          case measure => simp [intOf]; omega
        · obtain rfl : m = x.size := by omega
          have cx : wr.cell? ⟨ga, k, none⟩ = some (.string x) := by rw [HQ.out]; exact cxw
          clear hwq
          go_wp2
          go_roundw
          case rel => exact ⟨k + 1, d2, by omega, rfl, by go_num, HQ.out⟩
          case measure => simp [intOf]; omega
    · obtain rfl : k = n := by omega
      clear hwr
      go_wp2
      go_ret
      exact ⟨rfl, d, HW.out⟩
end
end Go.Proofs.Ythhajbgddifenaa
