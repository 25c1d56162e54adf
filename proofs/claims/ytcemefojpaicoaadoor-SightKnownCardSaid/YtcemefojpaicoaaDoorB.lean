/- What lights tell of a square; the least of some numbers; what each letter needs. -/
import Derived.Test.YtcemefojpaicoaaDoorA
import Derived.Test.YtcemefojpaicoaaDoorM
namespace Go.Proofs.YtcemefojpaicoaaDoor
open Go.RowKit

/-- A callee that draws nothing, met in a region that draws. -/
theorem quietL {P : Program} {f : FuncId} {args : Array Value} {w : World} {n : Nat} {v : Value}
    (h : Calls P f args (w.drewN n) fun e w' => e = .returned v ∧ w.drewN n = w') : Calls P f args (w.drewN n) fun e w'' => e = .returned v ∧ ∃ m, w'' = w.drewN m :=
  h.mono fun _ _ ⟨he, hm⟩ => ⟨he, n, hm.symm⟩
theorem bcell {B : Nat} {w w1 : World} (hb : Below B w w1) {b o : Nat} {v : Value} (h : b < B) (hc : w.cell? ⟨b, o, none⟩ = some v) : w1.cell? ⟨b, o, none⟩ = some v := (hb.cell (p := ⟨b, o, none⟩) h).trans hc
theorem wraps_i64 (n : Int) (h₀ : 0 ≤ n) (h₁ : n < 2 ^ 63) : IntKind.i64.wrap n = n := by rw [IntKind.wrap_i64]; omega
theorem andNot64 (a b : Nat) (ha : a < 2 ^ 63) : bits .andNot .i64 a b = (diff a b : Nat) := andNot_nat .i64 63 (by decide) wraps_i64 a b ha
theorem wrap16 (a : Nat) (ha : a < 65536) : IntKind.u16.wrap (a : Int) = a := wraps_u16 _ (by omega) (by omega)

set_option maxHeartbeats 400000 in
/-- sight.evidence: what was seen, and what was hidden. -/
theorem evidence_any (v : Value) (q : List Light) (w : World) (hq : q.length ≤ 4) (hok : ∀ x ∈ q, x.ok) (hl : Lights w w.heap.size v q) :
    Calls Tryd.prog 39 #[v] w fun e w' => e = .returned (.tuple #[.int .u16 (vis q), .int .u16 (hidn q)]) ∧ Below w.heap.size w w' := by
  obtain ⟨A, c, rfl, hA⟩ := hl
  obtain ⟨n, hn⟩ : ∃ n, n = q.length := ⟨_, rfl⟩
  rw [← hn] at hA hq ⊢
  have HN := Lib.hid hn
  clear hn
  go_enter Tryd.func39, Tryd.ntmps39
  go_wp2
  go_loopw [2, 3, 8] (fun v h i wr => ∃ k : Nat, k ≤ n ∧ i = .int .i64 k ∧ v = .int .u16 (vis (q.take k)) ∧ h = .int .u16 (hidn (q.take k)) ∧ Below w.heap.size w wr) (fun _ _ i _ => n - (intOf i).toNat)
  case atStart => exact ⟨0, by omega, rfl, rfl, rfl, Below.refl _ _⟩
  case round =>
    obtain ⟨k, hk, rfl, rfl, rfl, hb⟩ := hrel
    by_cases hlt : k < n
    · obtain ⟨b, o, rfl, hB, hc⟩ := hA (by omega)
      have hkq : k < q.length := by rw [← HN.out]; exact hlt
      have hx := hok q[k] (List.getElem_mem hkq)
      obtain ⟨c1, c2⟩ := hc k q[k] (List.getElem?_eq_getElem hkq)
      have d1 := bcell hb hB c1
      have d2 := bcell hb hB c2
      have hvk : vis (q.take k) < 1024 := vis_lt _ fun x hx => (hok x (List.mem_of_mem_take hx)).2.1
      have hhk : hidn (q.take k) < 1024 := hidn_lt _ fun x hx => (hok x (List.mem_of_mem_take hx)).1
      have ht : q.take (k + 1) = q.take k ++ [q[k]] := by rw [List.take_succ_eq_append_getElem hkq]
      have E1 : vis (q.take (k + 1)) = vis (q.take k) ||| q[k].seen := by rw [ht, vis_snoc]
      have E2 : hidn (q.take (k + 1)) = hidn (q.take k) ||| diff q[k].shows q[k].seen := by rw [ht, hidn_snoc]
      have x1 := hx.1
      have x2 := hx.2.1
      generalize q[k].shows = a at *
      generalize q[k].seen = s at *
      generalize vis (q.take k) = V at *
      generalize hidn (q.take k) = H at *
      have hd : diff a s < 1024 := diff_lt a s 10 x1
      have o1 := or16 V s (by omega) (by omega)
      have o2 := or16 H (diff a s) (by omega) (by omega)
      have o3 := andNot64 a s (by omega)
      have o4 := wrap16 (diff a s) (by omega)
      have H1 := Lib.hid E1
      have H2 := Lib.hid E2
      clear E1 E2 hc hA hx hok c1 c2 ht
      go_wp2
      go_roundw
      case rel => exact ⟨k + 1, by omega, by go_num, by rw [H1.out], by rw [H2.out], hb.alloc hb.size _⟩
      case measure => simp [intOf]; omega
    · have E1 : vis (q.take k) = vis q := by rw [List.take_of_length_le (by rw [← HN.out]; omega)]
      have E2 : hidn (q.take k) = hidn q := by rw [List.take_of_length_le (by rw [← HN.out]; omega)]
      rw [E1, E2]
      clear E1 E2
      go_wp2
      go_ret2
      exact ⟨rfl, hb⟩

theorem val_int {k : IntKind} {a b : Int} (h : a = b) : Value.int k a = Value.int k b := by rw [h]
/-- Some numbers in a row in memory. -/
def intsR (w : World) (l : List Nat) (b o : Nat) : Prop := ∀ (k x : Nat), l[k]? = some x → w.cell? ⟨b, o + k, none⟩ = some (.int .i64 x)

set_option maxHeartbeats 400000 in
/-- sight.least at int: the least of some numbers. -/
theorem least_any (a : Nat) (v : Value) (l : List Nat) (w : World) (hq : l.length ≤ 100) (B : Nat) (hl : Sl B v l.length (intsR w l)) :
    Calls Tryd.prog 24 #[.int .i64 a, v] w fun e w' => e = .returned (.int .i64 (leastOf a l)) ∧ w = w' := by
  obtain ⟨A, c, rfl, hA⟩ := hl
  obtain ⟨n, hn⟩ : ∃ n, n = l.length := ⟨_, rfl⟩
  rw [← hn] at hA hq ⊢
  have HN := Lib.hid hn
  clear hn
  go_enter Tryd.func24, Tryd.ntmps24
  go_wp2
  go_loop [0, 9] (fun v i => ∃ k : Nat, k ≤ n ∧ i = .int .i64 k ∧ v = .int .i64 (leastOf a (l.take k))) (fun _ i => n - (intOf i).toNat)
  case atStart => exact ⟨0, by omega, rfl, rfl⟩
  case round =>
    obtain ⟨k, hk, rfl, rfl⟩ := hrel
    by_cases hlt : k < n
    · obtain ⟨b, o, rfl, hB, hc⟩ := hA (by omega)
      have hkq : k < l.length := by rw [← HN.out]; exact hlt
      have d1 := hc k l[k] (List.getElem?_eq_getElem hkq)
      have ht : l.take (k + 1) = l.take k ++ [l[k]] := by rw [List.take_succ_eq_append_getElem hkq]
      have E1 : leastOf a (l.take (k + 1)) = min (leastOf a (l.take k)) l[k] := by rw [ht, leastOf_snoc]
      generalize l[k] = s at *
      generalize leastOf a (l.take k) = V at *
      have H1 := Lib.hid E1
      clear E1 hc hA ht
      go_wp2
      go_round
      case rel => exact ⟨k + 1, by omega, by go_num, val_int (by rw [H1.out]; split <;> omega)⟩
      case measure => simp [intOf]; omega
    · have E1 : leastOf a (l.take k) = leastOf a l := by rw [List.take_of_length_le (by rw [← HN.out]; omega)]
      rw [E1]
      clear E1
      go_wp2
      go_ret
      exact ⟨rfl, rfl⟩

/-- A cutter as a value: the slice of its letters, and 64 needs. -/
def cutVal (sv : Value) (N : List Value) : Value := .agg ⟨sv :: N⟩

set_option maxHeartbeats 400000 in
/-- (cutter).fewest: how few marks a square needs. -/
theorem fewest_any (A : Option Addr) (c : Nat) (N : List Value) (q : Nat) (hq : q < 8) (l : List Nat) (hl : l.length ≤ 8)
    (hNl : ∀ (i x : Nat), l[i]? = some x → N[q * 8 + i]? = some (.int .i64 x)) (w : World) :
    Calls Tryd.prog 25 #[cutVal (.slice A l.length c) N, .int .i64 q] w fun e w' => e = .returned (.int .i64 (leastOf 81 l)) ∧ Below w.heap.size w w' := by
  unfold cutVal
  have q0 : (0 : Int) ≤ q := by omega
  have q1 : (q : Int) < 8 := by omega
  have l0 : (0 : Int) ≤ l.length := by omega
  have l1 : (l.length : Int) ≤ 8 := by omega
  have F : ∀ m, Sl (w.heap.size + 1) (.slice (some ⟨w.heap.size, 1 + q * 8, none⟩) l.length 8) l.length (intsR ((w.alloc (.cells ⟨.slice A l.length c :: N⟩ 72)).drewN m) l) := fun m =>
    ⟨_, _, rfl, fun _ => ⟨_, _, rfl, Nat.lt_succ_self _, fun k x hx => by
      show (w.alloc (.cells ⟨.slice A l.length c :: N⟩ 72)).cell? ⟨w.heap.size, 1 + q * 8 + k, none⟩ = _
      rw [cell_of_row _ _ _ _ _ _ (heap_alloc_new w _), show 1 + q * 8 + k = (q * 8 + k) + 1 by omega]
      simpa using hNl k x hx⟩⟩
  have c0 : (w.alloc (.cells ⟨.slice A l.length c :: N⟩ 72)).cell? ⟨w.heap.size, 0, none⟩ = some (.slice A l.length c) := by
    rw [cell_of_row _ _ _ _ _ _ (heap_alloc_new w _)]; rfl
  go_enter Tryd.func25, Tryd.ntmps25
  clear hNl
  go_wp2_with fail
  go_quiet ((go_at_call 24; exact quietL (least_any 81 _ l _ (by omega) _ (F _))))
  clear F c0
  go_wp2
  go_ret
  exact ⟨rfl, below_drewN ((Below.refl _ _).alloc (Nat.le_refl _) _) nq⟩
end Go.Proofs.YtcemefojpaicoaaDoor
