/- Sets of notes: their list and their size. · How great a set of notes is; the kit of comparisons. · How sets of notes compare. · set.compare. · The order of sets of notes is one. · mayBe. · Wrong, but for the list of all sets. -/
import Derived.Test.YtcbdcdpoackplaaLn
import Derived.Test.YtcbdcdpoackplaaRd
import Derived.Test.YtcbdcdpoackplaaShelf
import Derived.Lib.QuietBelow
import Derived.Test.YtcbdcdpoackplaaLt
import Derived.Deep.RegionHeld3
import Derived.Test.YtcbdcdpoackplaaLv
namespace Go.Proofs.Ytcbdcdpoackplaa
section
section
section
open Go.RowKit Dt

/-- The notes of a set below the k-th one. -/
def setTo (s k : Nat) : List Int := ((List.range k).filter fun i => s.testBit i).map fun i : Nat => (i : Int)
theorem setTo_yes (s k : Nat) (h : s.testBit k = true) : setTo s (k + 1) = setTo s k ++ [(k : Int)] := by
  simp [setTo, List.range_succ, h]
theorem setTo_no (s k : Nat) (h : s.testBit k = false) : setTo s (k + 1) = setTo s k := by
  simp [setTo, List.range_succ, h]
theorem setTo_len (s k : Nat) : (setTo s k).length ≤ k := by
  unfold setTo
  rw [List.length_map]
  have := List.length_filter_le (fun i => s.testBit i) (List.range k)
  simpa using this
set_option maxRecDepth 100000 in
theorem setTo_all : ∀ s : Nat, s < 256 → Lib.bitLen s ≤ 8 ∧ setTo s (Lib.bitLen s) = setTo s 8 := by decide +kernel
theorem info_int : (Try.prog.info? 3).map (fun i => (i.zero, i.size, i.bytes)) = some (some (.int .i64 0), 1, 8) := by kernel_rfl
def ListPost (l : List Int) (w : World) (e : Ending) (w' : World) : Prop := ∃ v, e = .returned v ∧ Ints w' w'.heap.size v l ∧ Below w.heap.size w w' ∧ w.drawn ≤ w'.drawn
set_option maxRecDepth 100000 in
set_option maxHeartbeats 1000000 in
theorem list_any (s : Nat) (hs : s < 256) (w : World) : Calls Try.prog 56 #[.int .u64 s] w (ListPost (setTo s 8) w) := by
  obtain ⟨hn8, hall⟩ := setTo_all s hs
  rw [← hall]
  obtain ⟨n, hn⟩ : ∃ n, n = Lib.bitLen s := ⟨_, rfl⟩
  rw [← hn] at hn8 ⊢
  have HLN : Hid (∀ w, Calls Try.prog 68 #[.int .u64 s] w fun e w' => e = .returned (.int .i64 n) ∧ w = w') := Lib.hid fun w => by
    rw [hn]
    refine (Try.bits_Len (s : Int) w (by omega) (by omega)).mono ?_
    rintro e w' ⟨rfl, rfl⟩
    exact ⟨rfl, rfl⟩
  clear hn hall
  obtain ⟨i0, hi, hz0, hz1, hz2⟩ := info_parts info_int
  go_enter Try.func56, Try.ntmps56
  go_wp2_with (go_at_call 68; (with_reducible refine (HLN.out _).mono ?_); rintro e w1 ⟨rfl, rfl⟩)
  go_loopw [3, 7] (fun u i wr => ∃ k : Nat, k ≤ n ∧ i = .int .i64 k ∧ Below w.heap.size w wr ∧ w.drawn ≤ wr.drawn ∧ wr.ownsRow w.heap.size 3 1 u (setTo s k).length ((setTo s k).map (.int .i64))) (fun _ i _ => n - (intOf i).toNat)
  case atStart => exact ⟨0, by omega, rfl, Below.refl _ _, Nat.le_refl _, ⟨rfl, .inl ⟨rfl, rfl⟩⟩⟩
  case round =>
    obtain ⟨k, hk, rfl, hb, hdn, hown⟩ := hrel
    have HDN := Lib.hid hdn
    clear hdn
    by_cases hlt : k < n
    · have HO := Lib.hid hown
      have HBL := Lib.hid hb
      have hzz : w.heap.size ≤ wr.heap.size := hb.size
      have HZZ := Lib.hid hzz
      have HH := Lib.hid (fun w => has_any s k hs (by omega) w)
      clear hown hb hzz
      cases hsb : s.testBit k
      · rw [hsb] at HH
        have HSB := Lib.hid hsb
        clear hsb
        go_wp2_with (go_at_call 69; (with_reducible refine (HH.out _).mono ?_); rintro e w1 ⟨rfl, rfl⟩)
        go_roundw
        case rel => exact ⟨k + 1, by omega, by go_num, HBL.out, HDN.out, by rw [setTo_no _ _ HSB.out]; exact HO.out⟩
        case measure => simp [intOf]; omega
      · rw [hsb] at HH
        have HSB := Lib.hid hsb
        clear hsb
        have hown1 := HO.out.alloc (.cells #[.int .i64 k] 3)
        have hl8 := setTo_len s k
        have hb1 := HBL.out.alloc HZZ.out (.cells #[.int .i64 k] 3)
        have HO1 := Lib.hid hown1
        have HB1 := Lib.hid hb1
        have HL8 := Lib.hid hl8
        clear hown1 hb1 hl8
        go_wp2_with (first
          | (go_at_call 69; (with_reducible refine (HH.out _).mono ?_); rintro e w1 ⟨rfl, rfl⟩)
          | (at_builtin; refine wpList_append_drawn rfl (.tmp 13) (.tmp 15) 22 rfl ?_; intro K1 hK1; refine wp_append_own _ (.tmp 13) (.tmp 15) 22 rfl w.heap.size 3 i0 _ 1 8 Try.underlying22 hi hz0 hz1 hz2 rfl (by decide) u3 _ _ rfl HO1.out ⟨wr.heap.size, 0, none⟩ 1 1 [.int .i64 k] rfl rfl (news_one _ _ (by simp) _ _) (by simp [Value.oneCell']) (by have := HL8.out; unfold maxLen; omega) (by have := HL8.out; omega) (by simp; have := HZZ.out; omega) ?_; intro u6 w6 hown6 hgrow6 _ hdr6; refine hK1 _ _ ?_; clear hK1 K1; have HO6 := Lib.hid hown6; have HG6 := Lib.hid hgrow6; have HD6 := Lib.hid (show wr.drawn ≤ w6.drawn from hdr6); clear hown6 hgrow6 hdr6))
        go_roundw
        case rel =>
          refine ⟨k + 1, by omega, by go_num, HB1.out.grown HG6.out (by simp; have := HZZ.out; omega) (own_blk HO.out), Nat.le_trans HDN.out HD6.out, ?_⟩
          rw [setTo_yes _ _ HSB.out, List.length_append, List.map_append]
          exact HO6.out
        case measure => simp [intOf]; omega
    · obtain rfl : k = n := by omega
      have HB := Lib.hid hb
      have HO := Lib.hid hown
      clear hb hown
      go_wp2_with fail
      go_ret
      refine ⟨u3, rfl, ?_, HB.out, HDN.out⟩
      refine Sl.mono (own_sl HO.out (by rw [List.length_map, Nat.mul_one]) (by omega)) (Nat.le_refl _) fun b o hb hr j x hj => ?_
      obtain ⟨rfl, -, hc⟩ := hr
      rw [Nat.zero_add]
      exact hc j _ (by rw [List.getElem?_map, hj]; rfl)
end
section
open Go.RowKit Dt

def pc1 (n : Int) : Int := IntKind.u64.wrap (Go.bits BinOp.and IntKind.u64 (n / 2) 6148914691236517205 + Go.bits BinOp.and IntKind.u64 n 6148914691236517205)
def pc2 (n : Int) : Int := IntKind.u64.wrap (Go.bits BinOp.and IntKind.u64 (n / 4) 3689348814741910323 + Go.bits BinOp.and IntKind.u64 n 3689348814741910323)
def pc3 (n : Int) : Int := Go.bits BinOp.and IntKind.u64 (IntKind.u64.wrap (n / 16 + n)) 1085102592571150095
def pc4 (n : Int) : Int := IntKind.u64.wrap (n + n / 256)
def pc5 (n : Int) : Int := IntKind.u64.wrap (n + n / 65536)
def pc6 (n : Int) : Int := IntKind.u64.wrap (n + n / 4294967296)
set_option maxRecDepth 100000 in
theorem pc_len : ∀ s : Nat, s < 256 → Go.bits BinOp.and IntKind.i64 (wrap64 (pc6 (pc5 (pc4 (pc3 (pc2 (pc1 (s : Int)))))))) 127 = ((setTo s 8).length : Int) := by decide +kernel
set_option maxRecDepth 100000 in
set_option maxHeartbeats 1000000 in
theorem ones_any (s : Nat) (hs : s < 256) (w : World) : Calls Try.prog 101 #[.int .u64 s] w fun e w' => e = .returned (.int .i64 (setTo s 8).length) ∧ w = w' := by
  go_enter Try.func101, Try.ntmps101
  go_wp2_with fail
  go_ret
  exact ⟨ret_int (pc_len s hs), rfl⟩
set_option maxRecDepth 100000 in
theorem size_any (s : Nat) (hs : s < 256) (w : World) : Calls Try.prog 79 #[.int .u64 s] w fun e w' => e = .returned (.int .i64 (setTo s 8).length) ∧ w = w' := by
  have h1 : ∀ w, Calls Try.prog 94 #[.int .u64 s] w fun e w' => e = .returned (.int .i64 (setTo s 8).length) ∧ w = w' := by
    intro w
    have HO := Lib.hid (fun w => ones_any s hs w)
    go_enter Try.func94, Try.ntmps94
    go_wp2_with (go_at_call 101; (with_reducible refine (HO.out _).mono ?_); rintro e w1 ⟨rfl, rfl⟩)
    go_ret
    exact ⟨rfl, rfl⟩
  have HO := Lib.hid h1
  go_enter Try.func79, Try.ntmps79
  go_wp2_with (go_at_call 94; (with_reducible refine (HO.out _).mono ?_); rintro e w1 ⟨rfl, rfl⟩)
  go_ret
  exact ⟨rfl, rfl⟩
/-- What cmp.Compare answers. -/
def cmpI (a b : Int) : Int := if a < b then -1 else if b < a then 1 else 0
set_option maxRecDepth 100000 in
theorem isNaN_any (a : Int) (w : World) : Calls Try.prog 93 #[.int .i64 a] w fun e w' => e = .returned (.bool false) ∧ w = w' := by
  go_enter Try.func93, Try.ntmps93
  go_wp2_with fail
  go_ret
  exact ⟨ret_bool (by simp), rfl⟩
set_option maxRecDepth 100000 in
theorem compare_any (a b : Int) (w : World) : Calls Try.prog 78 #[.int .i64 a, .int .i64 b] w fun e w' => e = .returned (.int .i64 (cmpI a b)) ∧ w = w' := by
  have HN := Lib.hid (fun a w => isNaN_any a w)
  unfold cmpI
  by_cases h1 : a < b
  · rw [if_pos h1]
    go_enter Try.func78, Try.ntmps78
    go_wp2_with (go_at_call 93; (with_reducible refine (HN.out _ _).mono ?_); rintro e w1 ⟨rfl, rfl⟩)
    go_ret
    exact ⟨rfl, rfl⟩
  · rw [if_neg h1]
    by_cases h2 : b < a
    · rw [if_pos h2]
      go_enter Try.func78, Try.ntmps78
      go_wp2_with (go_at_call 93; (with_reducible refine (HN.out _ _).mono ?_); rintro e w1 ⟨rfl, rfl⟩)
      go_ret
      exact ⟨rfl, rfl⟩
    · rw [if_neg h2]
      go_enter Try.func78, Try.ntmps78
      go_wp2_with (go_at_call 93; (with_reducible refine (HN.out _ _).mono ?_); rintro e w1 ⟨rfl, rfl⟩)
      go_ret
      exact ⟨rfl, rfl⟩
end
end
section
section
open Go.RowKit Dt

/-- What slices.Compare answers. -/
def cmpL : List Int → List Int → Int
  | [], [] => 0
  | [], _ :: _ => -1
  | _ :: _, [] => 1
  | a :: l, b :: m => if cmpI a b = 0 then cmpL l m else cmpI a b
theorem cmpL_in (l m : List Int) (k : Nat) (a b : Int) (ha : l[k]? = some a) (hb : m[k]? = some b) : cmpL (l.drop k) (m.drop k) = if cmpI a b = 0 then cmpL (l.drop (k + 1)) (m.drop (k + 1)) else cmpI a b := by
  obtain ⟨h1, rfl⟩ := List.getElem?_eq_some_iff.1 ha
  obtain ⟨h2, rfl⟩ := List.getElem?_eq_some_iff.1 hb
  rw [List.drop_eq_getElem_cons h1, List.drop_eq_getElem_cons h2]
  rfl
theorem cmpL_over (l m : List Int) (k : Nat) (h1 : k < l.length) (h2 : m.length ≤ k) : cmpL (l.drop k) (m.drop k) = 1 := by
  rw [List.drop_eq_getElem_cons h1, List.drop_eq_nil_of_le h2]
  rfl
theorem cmpL_under (l m : List Int) (k : Nat) (h1 : l.length ≤ k) (h2 : k < m.length) : cmpL (l.drop k) (m.drop k) = -1 := by
  rw [List.drop_eq_nil_of_le h1, List.drop_eq_getElem_cons h2]
  rfl
theorem cmpL_end (l m : List Int) (k : Nat) (h1 : l.length ≤ k) (h2 : m.length ≤ k) : cmpL (l.drop k) (m.drop k) = 0 := by
  rw [List.drop_eq_nil_of_le h1, List.drop_eq_nil_of_le h2]
  rfl
set_option maxRecDepth 100000 in
set_option maxHeartbeats 1000000 in
theorem compareL_any (l m : List Int) (hl : l.length ≤ 8) (hm : m.length ≤ 8) (B : Nat) (vl vm : Value) (w : World) (hvl : Ints w B vl l) (hvm : Ints w B vm m) :
    Calls Try.prog 80 #[vl, vm] w fun e w' => e = .returned (.int .i64 (cmpL l m)) ∧ w = w' := by
  obtain ⟨A1, c1, rfl, h1⟩ := hvl
  obtain ⟨A2, c2, rfl, h2⟩ := hvm
  obtain ⟨n, hn⟩ : ∃ n, n = l.length := ⟨_, rfl⟩
  obtain ⟨q, hq⟩ : ∃ q, q = m.length := ⟨_, rfl⟩
  rw [← hn] at h1 hl ⊢
  rw [← hq] at h2 hm ⊢
  have H1 := Lib.hid h1
  have H2 := Lib.hid h2
  have HN := Lib.hid hn
  have HQ := Lib.hid hq
  clear h1 h2 hn hq
  go_enter Try.func80, Try.ntmps80
  go_wp2_with fail
  go_loopw [11] (fun i wr => ∃ k : Nat, k ≤ n ∧ k ≤ q ∧ i = .int .i64 k ∧ cmpL l m = cmpL (l.drop k) (m.drop k) ∧ w = wr) (fun i _ => n - (intOf i).toNat)
  case atStart => exact ⟨0, by omega, by omega, rfl, rfl, rfl⟩
  case round =>
    obtain ⟨k, hk, hk2, rfl, hc, rfl⟩ := hrel
    by_cases hlt : k < n
    · obtain ⟨a, ha⟩ : ∃ a, l[k]? = some a := ⟨_, List.getElem?_eq_getElem (by rw [← HN.out]; exact hlt)⟩
      obtain ⟨b1, o1, rfl, hb1, hr1⟩ := H1.out (by omega)
      have p1 := hr1 k a ha
      by_cases hlt2 : k < q
      · obtain ⟨b, hb⟩ : ∃ b, m[k]? = some b := ⟨_, List.getElem?_eq_getElem (by rw [← HQ.out]; exact hlt2)⟩
        obtain ⟨b2, o2, rfl, hb2, hr2⟩ := H2.out (by omega)
        have p2 := hr2 k b hb
        obtain ⟨c, hcc⟩ : ∃ c, c = cmpI a b := ⟨_, rfl⟩
        rw [cmpL_in l m k a b ha hb, ← hcc] at hc
        have HC := Lib.hid hc
        have HCM : Hid (∀ w, Calls Try.prog 78 #[.int .i64 a, .int .i64 b] w fun e w' => e = .returned (.int .i64 c) ∧ w = w') := Lib.hid fun w => by rw [hcc]; exact compare_any a b w
        clear hr1 hr2 ha hb hc hcc hb1 hb2
        by_cases h0 : c = 0
        · go_wp2_with (go_at_call 78; (with_reducible refine (HCM.out _).mono ?_); rintro e w1 ⟨rfl, rfl⟩)
          go_roundw
          case rel => exact ⟨k + 1, by omega, by omega, by go_num, by rw [HC.out, if_pos h0], trivial⟩
          case measure => simp [intOf]; omega
        · go_wp2_with (go_at_call 78; (with_reducible refine (HCM.out _).mono ?_); rintro e w1 ⟨rfl, rfl⟩)
          go_ret
          exact ⟨ret_int (by rw [HC.out, if_neg h0]), rfl⟩
      · rw [cmpL_over l m k (by rw [← HN.out]; exact hlt) (by rw [← HQ.out]; omega)] at hc
        have HC := Lib.hid hc
        clear hr1 ha hc hb1
        go_wp2_with fail
        go_ret
        exact ⟨ret_int (by rw [HC.out]), rfl⟩
    · obtain rfl : k = n := by omega
      by_cases hlt2 : k < q
      · rw [cmpL_under l m k (by rw [← HN.out]; exact Nat.le_refl _) (by rw [← HQ.out]; exact hlt2)] at hc
        have HC := Lib.hid hc
        clear hc
        go_wp2_with fail
        go_ret
        exact ⟨ret_int (by rw [HC.out]), rfl⟩
      · rw [cmpL_end l m k (by rw [← HN.out]; exact Nat.le_refl _) (by rw [← HQ.out]; omega)] at hc
        have HC := Lib.hid hc
        clear hc
        go_wp2_with fail
        go_ret
        exact ⟨ret_int (by rw [HC.out]), rfl⟩
def orI (a b : Int) : Int := if a = 0 then b else a
set_option maxRecDepth 100000 in
set_option maxHeartbeats 1000000 in
theorem or_any (a b : Int) (g : Nat) (w : World) (hg : Blok w g 3 [.int .i64 a, .int .i64 b]) :
    Calls Try.prog 77 #[.slice (some ⟨g, 0, none⟩) 2 2] w fun e w' => e = .returned (.int .i64 (orI a b)) ∧ w = w' := by
  have c0 := hg.cell 0
  have c1 := hg.cell 1
  simp at c0 c1
  clear hg
  go_enter Try.func77, Try.ntmps77
  go_wp2_with fail
  go_loopw [8] (fun i wr => ∃ k : Nat, k ≤ 2 ∧ i = .int .i64 k ∧ (0 < k → a = 0) ∧ (1 < k → b = 0) ∧ w = wr) (fun i _ => 2 - (intOf i).toNat)
  case atStart => exact ⟨0, by omega, rfl, by omega, by omega, rfl⟩
  case round =>
    obtain ⟨k, hk, rfl, ha, hb, rfl⟩ := hrel
    obtain rfl | rfl | rfl : k = 0 ∨ k = 1 ∨ k = 2 := by omega
    · clear ha hb
      by_cases h0 : a = 0
      · go_wp2_with fail
        go_roundw
        case rel => exact ⟨1, by omega, by go_num, fun _ => h0, by omega, trivial⟩
        case measure => simp [intOf]
      · go_wp2_with fail
        go_ret
        exact ⟨ret_int (by rw [orI, if_neg h0]), rfl⟩
    · have h0 := ha (by omega)
      clear ha hb
      by_cases h1 : b = 0
      · go_wp2_with fail
        go_roundw
        case rel => exact ⟨2, by omega, by go_num, fun _ => h0, fun _ => h1, trivial⟩
        case measure => simp [intOf]
      · go_wp2_with fail
        go_ret
        exact ⟨ret_int (by rw [orI, if_pos h0]), rfl⟩
    · have h0 := ha (by omega)
      have h1 := hb (by omega)
      clear ha hb
      go_wp2_with fail
      go_ret
      exact ⟨ret_int (by rw [orI, if_pos h0, h1]), rfl⟩
end
section
section
open Go.RowKit Dt

/-- What compare answers of two sets of notes. -/
def cmpS (s t : Nat) : Int := orI (cmpI (setTo s 8).length (setTo t 8).length) (cmpL (setTo s 8) (setTo t 8))
set_option maxRecDepth 100000 in
set_option maxHeartbeats 1000000 in
theorem cmpS_any (s t : Nat) (hs : s < 256) (ht : t < 256) (w : World) :
    Calls Try.prog 67 #[.int .u64 s, .int .u64 t] w fun e w' => e = .returned (.int .i64 (cmpS s t)) ∧ Below w.heap.size w w' ∧ w.drawn ≤ w'.drawn := by
  obtain ⟨c, hc⟩ : ∃ c, c = cmpI (setTo s 8).length (setTo t 8).length := ⟨_, rfl⟩
  obtain ⟨g, hg⟩ : ∃ g, g = cmpL (setTo s 8) (setTo t 8) := ⟨_, rfl⟩
  have hr : cmpS s t = orI c g := by rw [hc, hg]; rfl
  rw [hr]
  have HS := Lib.hid (fun w => size_any s hs w)
  have HT := Lib.hid (fun w => size_any t ht w)
  have HC : Hid (∀ w, Calls Try.prog 78 #[.int .i64 (setTo s 8).length, .int .i64 (setTo t 8).length] w fun e w' => e = .returned (.int .i64 c) ∧ w = w') := Lib.hid fun w => by rw [hc]; exact compare_any _ _ w
  have HL := Lib.hid (fun w => list_any s hs w)
  have HM := Lib.hid (fun w => list_any t ht w)
  have HG : Hid (∀ (vl vm : Value) (w : World), Ints w w.heap.size vl (setTo s 8) → Ints w w.heap.size vm (setTo t 8) → Calls Try.prog 80 #[vl, vm] w fun e w' => e = .returned (.int .i64 g) ∧ w = w') := Lib.hid fun vl vm w h1 h2 => by
    rw [hg]
    exact compareL_any _ _ (setTo_len s 8) (setTo_len t 8) w.heap.size vl vm w h1 h2
  have HO := Lib.hid (fun w => or_any c g w.heap.size (w.alloc (.cells #[.int .i64 c, .int .i64 g] 3)) (Blok.new w _ _))
  clear hr hc hg
  go_enter Try.func67, Try.ntmps67
  go_wp2_with (first
    | (go_at_call 79; (with_reducible refine (HS.out _).mono ?_); rintro e w1 ⟨rfl, rfl⟩)
    | (go_at_call 79; (with_reducible refine (HT.out _).mono ?_); rintro e w1 ⟨rfl, rfl⟩)
    | (go_at_call 78; (with_reducible refine (HC.out _).mono ?_); rintro e w1 ⟨rfl, rfl⟩)
    | (go_at_call 56; (with_reducible refine (HL.out _).mono ?_); rintro e w1 hp; obtain ⟨v1, rfl, hv1, hb1, hd1⟩ := hp; have HV1 := Lib.hid hv1; have HB1 := Lib.hid hb1; have HD1 := Lib.hid hd1; clear hv1 hb1 hd1)
    | (go_at_call 56; (with_reducible refine (HM.out _).mono ?_); rintro e w2 hp; obtain ⟨v2, rfl, hv2, hb2, hd2⟩ := hp; have HD2 := Lib.hid (Nat.le_trans HD1.out hd2); have HV1' := Lib.hid (HV1.out.keep (Same.of_below hb2) hb2.size); have HV2 := Lib.hid hv2; have HB2 := Lib.hid (HB1.out.trans (hb2.mono HB1.out.size)); clear hv2 hb2 hd2)
    | (go_at_call 80; (with_reducible refine (HG.out _ _ _ HV1'.out HV2.out).mono ?_); rintro e w3 ⟨rfl, rfl⟩)
    | (go_at_call 77; (with_reducible refine (HO.out _).mono ?_); rintro e w4 ⟨rfl, rfl⟩))
  go_ret
  exact ⟨rfl, HB2.out.alloc HB2.out.size _, HD2.out⟩
theorem grow_of_below {w w' : World} (h : Below w.heap.size w w') (hd : w.drawn ≤ w'.drawn) : ∃ q os', w' = Sort.grow (w.drewN q) os' := by
  obtain ⟨p, hp⟩ := regrown_of_below h
  have e : w'.drawn = p.d := by rw [hp]; rfl
  refine ⟨p.d - w.drawn, p.os, ?_⟩
  rw [hp]
  have : w.drewN (p.d - w.drawn) = redrawn w p.d := by
    unfold World.drewN redrawn
    rw [show w.drawn + (p.d - w.drawn) = p.d by omega]
  rw [this]
end
section
open Go.RowKit Dt

theorem cmpI_neg (a b : Int) : cmpI b a = - cmpI a b := by
  unfold cmpI
  repeat' split
  all_goals omega
theorem cmpI_le (a b c : Int) (h1 : cmpI a b ≤ 0) (h2 : cmpI b c ≤ 0) : cmpI a c ≤ 0 ∧ (cmpI a b < 0 ∨ cmpI b c < 0 → cmpI a c < 0) := by
  unfold cmpI at *
  revert h1 h2
  repeat' split
  all_goals omega
theorem cmpI_zero (a b : Int) : cmpI a b = 0 ↔ a = b := by
  unfold cmpI
  repeat' split
  all_goals omega
theorem cmpL_neg : ∀ l m : List Int, cmpL m l = - cmpL l m
  | [], [] => rfl
  | [], _ :: _ => rfl
  | _ :: _, [] => rfl
  | a :: l, b :: m => by
    have ih := cmpL_neg l m
    have hn := cmpI_neg a b
    unfold cmpL
    split <;> split <;> omega
theorem cmpL_le : ∀ l m k : List Int, cmpL l m ≤ 0 → cmpL m k ≤ 0 → cmpL l k ≤ 0 ∧ (cmpL l m < 0 ∨ cmpL m k < 0 → cmpL l k < 0)
  | [], [], _, _, h2 => ⟨h2, fun h => by
    rcases h with h | h
    · exact absurd h (by decide)
    · exact h⟩
  | [], _ :: _, [], _, h2 => absurd h2 (by unfold cmpL; decide)
  | [], _ :: _, _ :: _, _, _ => ⟨by unfold cmpL; decide, fun _ => by unfold cmpL; decide⟩
  | _ :: _, [], _, h1, _ => absurd h1 (by unfold cmpL; decide)
  | _ :: _, _ :: _, [], _, h2 => absurd h2 (by unfold cmpL; decide)
  | a :: l, b :: m, c :: k, h1, h2 => by
    have ih := cmpL_le l m k
    have hz1 := cmpI_zero a b
    have hz2 := cmpI_zero b c
    have hz3 := cmpI_zero a c
    have hab := cmpI_le a b c
    unfold cmpL at h1 h2 ⊢
    by_cases e1 : cmpI a b = 0
    · obtain rfl := hz1.1 e1
      rw [if_pos e1] at h1 ⊢
      by_cases e2 : cmpI a c = 0
      · simp only [if_pos e2] at h2 ⊢
        exact ih h1 h2
      · simp only [if_neg e2] at h2 ⊢
        exact ⟨h2, fun _ => by omega⟩
    · rw [if_neg e1] at h1 ⊢
      by_cases e2 : cmpI b c = 0
      · obtain rfl := hz2.1 e2
        rw [if_neg e1, if_pos e2]
        exact ⟨h1, fun _ => by omega⟩
      · rw [if_neg e2] at h2 ⊢
        have h3 := hab h1 h2
        have h4 := h3.2 (.inl (by omega))
        rw [if_neg (by omega)]
        exact ⟨h3.1, fun _ => h4⟩
theorem cmpS_neg (s t : Nat) : cmpS t s = - cmpS s t := by
  have h1 := cmpI_neg (setTo s 8).length (setTo t 8).length
  have h2 := cmpL_neg (setTo s 8) (setTo t 8)
  unfold cmpS orI
  split <;> split <;> omega
theorem cmpS_le (s t u : Nat) (h1 : cmpS s t ≤ 0) (h2 : cmpS t u ≤ 0) : cmpS s u ≤ 0 ∧ (cmpS s t < 0 ∨ cmpS t u < 0 → cmpS s u < 0) := by
  have hi := cmpI_le (setTo s 8).length (setTo t 8).length (setTo u 8).length
  have hl := cmpL_le (setTo s 8) (setTo t 8) (setTo u 8)
  have z1 := cmpI_zero (setTo s 8).length (setTo t 8).length
  have z2 := cmpI_zero (setTo t 8).length (setTo u 8).length
  have z3 := cmpI_zero (setTo s 8).length (setTo u 8).length
  unfold cmpS orI at *
  by_cases e1 : cmpI (setTo s 8).length (setTo t 8).length = 0
  · by_cases e2 : cmpI (setTo t 8).length (setTo u 8).length = 0
    · rw [if_pos e1] at h1 ⊢
      rw [if_pos e2] at h2 ⊢
      rw [if_pos (z3.2 ((z1.1 e1).trans (z2.1 e2)))]
      exact hl h1 h2
    · rw [if_neg e2] at h2 ⊢
      have h3 := hi (by omega) h2
      have h4 := h3.2 (.inr (by omega))
      rw [if_neg (by omega)]
      exact ⟨h3.1, fun _ => h4⟩
  · rw [if_neg e1] at h1 ⊢
    by_cases e2 : cmpI (setTo t 8).length (setTo u 8).length = 0
    · have h3 := hi h1 (by omega)
      have h4 := h3.2 (.inl (by omega))
      rw [if_neg (by omega)]
      exact ⟨h3.1, fun _ => h4⟩
    · rw [if_neg e2] at h2 ⊢
      have h3 := hi h1 h2
      have h4 := h3.2 (.inl (by omega))
      rw [if_neg (by omega)]
      exact ⟨h3.1, fun _ => h4⟩
def cmpF (s t : Fin 256) : Int := cmpS s.val t.val
end
end
end
end
section
section
open Go.RowKit Go.Shelf Dt

attribute [local go_sem] Oper.semAt_some
/-- The notes of a dating but those of a set. -/
def Dat.keptS (d : Dat) (s : Nat) : List Nt := keptTo d.notes s d.notes.length
/-- What is left of a dating without some of its notes. -/
def Dat.leftS (d : Dat) (s : Nat) : List Mat := chooseP 10 ((Dat.keptS d s).map Nt.ways) d.unsaid
def Dat.mayS (d : Dat) (s : Nat) : Bool := !(Dat.leftS d s).isEmpty
def MayI (s : Nat) (l : List Mat) (W : World) : Prop := l = [] ∧ Blok W s 4 [.bool false]
def MayX (s : Nat) (c : Code) (l : List Mat) (W : World) : Prop := c = .ret ∧ l ≠ [] ∧ Blok W s 4 [.bool true]
theorem keeps_mayI (s c : Nat) : Keeps c (fun _ b => b = s) (MayI s) :=
  ⟨fun _ W W' ⟨h1, h2⟩ hi => ⟨⟨h1, (hi.kept s rfl).trans h2⟩, fun _ h => h⟩, fun _ W b ⟨_, h2⟩ hg => by subst hg; exact h2.size⟩
theorem keeps_mayX (s c : Nat) (cd : Code) : Keeps c (fun _ b => b = s) (MayX s cd) :=
  ⟨fun _ W W' ⟨h0, h1, h2⟩ hi => ⟨⟨h0, h1, (hi.kept s rfl).trans h2⟩, fun _ h => h⟩, fun _ W b ⟨_, _, h2⟩ hg => by subst hg; exact h2.size⟩
theorem kept_ok {d : Dat} (hd : d.Ok) (s : Nat) : ∀ x ∈ Dat.keptS d s, x.Ok d := by
  intro x hx
  unfold Dat.keptS keptTo at hx
  rw [List.mem_filterMap] at hx
  obtain ⟨i, -, hi⟩ := hx
  split at hi
  · cases hi
  · exact hd.notes.2 x (List.mem_of_getElem? hi)
set_option maxRecDepth 100000 in
set_option maxHeartbeats 1000000 in
theorem mayBe_any (d : Dat) (hd : d.Ok) (s : Nat) (hs : s < 256) (v : Value) (B0 : Nat) (w : World) (hB0 : B0 ≤ w.heap.size) (hv : DatAt w B0 v d) :
    Calls Try.prog 55 #[v, .int .u64 s] w fun e w' => e = .returned (.bool (Dat.mayS d s)) ∧ Below w.heap.size w w' := by
  obtain ⟨ve, vn, rfl, hve, hvn⟩ := hv
  have hdat : DatAt w B0 (.agg #[.int .i64 d.stones, ve, vn]) d := ⟨ve, vn, rfl, hve, hvn⟩
  clear hve hvn
  obtain ⟨m, hm⟩ : ∃ m, m = (Dat.keptS d s).length := ⟨_, rfl⟩
  refine (callsIn_wide (n := 9)).1 ?_
  refine callsIn_of_wp_marks Try.func55 rfl trivial ?_ rfl
  simp only [Try.ntmps55, List.size_toArray, List.length_cons, List.length_nil, Nat.reduceAdd, Nat.reduceSub, Array.replicate_succ, Array.replicate_zero, List.push_toArray, List.append_toArray, List.nil_append, List.cons_append]
  gi_wp2_with fail
  obtain ⟨W, hW⟩ : ∃ W, W = (w.alloc (.cells #[.int .i64 d.stones, ve, vn] 28)).alloc (.cells #[.bool false] 4) := ⟨_, rfl⟩
  have b1 : Below w.heap.size w W := by rw [hW]; exact ((Below.refl _ w).alloc (Nat.le_refl _) _).alloc (by simp) _
  have k1 : Blok W w.heap.size 28 [.int .i64 d.stones, ve, vn] := by rw [hW]; exact (Blok.new w _ _).alloc _
  have k2 : Blok W (w.heap.size + 1) 4 [.bool false] := by
    rw [hW]
    have := Blok.new (w.alloc (.cells #[.int .i64 d.stones, ve, vn] 28)) 4 [.bool false]
    simpa only [World.size_alloc] using this
  have z1 : W.heap.size = w.heap.size + 2 := by rw [hW]; simp
  rw [← hW]
  clear hW
  have hdW := hdat.keep (Same.of_below (b1.mono hB0)) (Nat.le_refl _)
  have c0 := k1.cell 0
  have c1 := k1.cell 1
  have c2 := k1.cell 2
  simp at c0 c1 c2
  have HNO := Lib.hid (notesOf_low d hd s hs (.agg #[.int .i64 d.stones, ve, vn]) B0 W.drew (show B0 ≤ W.heap.size by omega) (show DatAt W.drew B0 _ d from hdW))
  have HDW := Lib.hid hdW
  have HK1 := Lib.hid k1
  have HK2 := Lib.hid k2
  have HB1 := Lib.hid b1
  have HM := Lib.hid hm
  clear hdat hdW b1 k1 k2 hm
  refine wpIn_mono (Q := NoPanic _) ?_ NoPanic.imp
  gi_region_with (first
    | ((first | refine ⟨trivial, (fun h => by cases h), ?_⟩ | refine ⟨trivial, ?_⟩); (gi_at_call 63; refine (callsIn_wide.2 HNO.out).mono ?_; rintro e w2 hp; obtain ⟨v2, A2, cc2, rfl, rfl, hle2, hr2, hb2⟩ := hp; have HB2 := Lib.hid (show Below W.heap.size W w2 from ⟨hb2.os, hb2.tape, hb2.output, hb2.size, hb2.block⟩); have HLE2 := Lib.hid hle2; have HN2 := Lib.hid hr2; have k2 := HK1.out.below HB2.out HK1.out.size; have c0 := k2.cell 0; have c1 := k2.cell 1; have c2 := k2.cell 2; simp at c0 c1 c2; clear hb2 hr2 hle2 k2))
    | ((first | refine ⟨trivial, (fun h => by cases h), ?_⟩ | refine ⟨trivial, ?_⟩); (gi_at_call 62; refine (callsIn_wide.2 (choices_any _ _ _ _ _ _ _)).mono ?_; rintro e w3 ⟨rfl, rfl⟩)))
  all_goals
    refine NoPanic.normal ?_
    gi_wp2_with fail
    obtain ⟨W1, hW1⟩ : ∃ W1, W1 = (w2.alloc (.cells #[.int .i64 d.stones, ve, vn] 28)).alloc (.cells #[.slice A2 (keptTo d.notes s d.notes.length).length cc2] 99) := ⟨_, rfl⟩
    have b2 := HB2.out
    have h2 : Below w2.heap.size w2 W1 := by rw [hW1]; exact ((Below.refl _ w2).alloc (Nat.le_refl _) _).alloc (by simp) _
    have d1 : Blok W1 w2.heap.size 28 [.int .i64 d.stones, ve, vn] := by rw [hW1]; exact (Blok.new w2 _ _).alloc _
    have d2 : Blok W1 (w2.heap.size + 1) 99 [.slice A2 (keptTo d.notes s d.notes.length).length cc2] := by
      rw [hW1]
      have := Blok.new (w2.alloc (.cells #[.int .i64 d.stones, ve, vn] 28)) 99 [.slice A2 (keptTo d.notes s d.notes.length).length cc2]
      simpa only [World.size_alloc] using this
    have z2 : w2.heap.size + 2 = W1.heap.size := by rw [hW1]; simp
    rw [← hW1]
    clear hW1
    have z0 := b2.size
    have r1 := (HK2.out.below b2 HK2.out.size).below h2 (by omega)
    have hw1 : Below w.heap.size w W1 := HB1.out.trans ((b2.mono HB1.out.size).trans (h2.mono (by omega)))
    have hd1 : DatAt W1 (w.heap.size + 1) (.agg #[.int .i64 d.stones, ve, vn]) d := (HDW.out.keep (Same.of_below (b2.mono (by omega))) (Nat.le_refl _)).keep (Same.of_below (h2.mono (by omega))) (by omega)
    have hn1 : IfNG (fun _ b => b = w.heap.size + 1) (w.heap.size + 1) W1 (.slice A2 (keptTo d.notes s d.notes.length).length cc2) (Dat.keptS d s) := by
      refine ⟨A2, cc2, rfl, HLE2.out, fun h0 => ?_⟩
      obtain ⟨b, h4, h5, h6, h7⟩ := HN2.out h0
      have h5' : W.heap.size ≤ b := h5
      refine ⟨b, 0, h4, by omega, by omega, fun k x hx => ?_⟩
      obtain ⟨vy, h8, h9⟩ := h7 k x hx
      exact ⟨vy, (h2.cell (p := ⟨b, _, none⟩) h6).trans h8, h9.keep (Same.of_below (h2.mono (by omega))) (by omega)⟩
    refine range_any rfl (fun h => by cases h) (gf := 73) (lb := #[.pointer (some ⟨w2.heap.size, 0, none⟩), .pointer (some ⟨w2.heap.size + 1, 0, none⟩)]) rfl trivial (enters_of Try.func73 (by kernel_rfl) rfl)
      (gives_choices _ d hd (Dat.keptS d s) (kept_ok hd s) w2.heap.size (w2.heap.size + 1) (w.heap.size + 1)) (fun _ => rfl) (show w.heap.size + 1 ≤ W1.heap.size by omega)
      (fun _ b => b = w.heap.size + 1) (MayI (w.heap.size + 1)) (MayX (w.heap.size + 1)) (keeps_mayI _ _) (keeps_mayX _ _) ⟨rfl, r1⟩
      (fun W' G' hb' hg' => ⟨by have := hb'.size; omega, ve, vn, _, d1.below hb' d1.size, hd1.keep (Same.of_below (hb'.mono (by omega))) (Nat.le_refl _), d2.below hb' d2.size, ?hn⟩)
      (fun M a' _ => a' = { tmps := #[.agg #[.int .i64 d.stones, ve, vn], .int .u64 s, .pointer (some ⟨w.heap.size, 0, none⟩), undef, .pointer (some ⟨w.heap.size + 1, 0, none⟩), .agg #[.int .i64 d.stones, ve, vn], .agg #[.int .i64 d.stones, ve, vn], .int .u64 s, .slice A2 (keptTo d.notes s d.notes.length).length cc2,
        .func (.func 73) #[] #[.pointer (some ⟨w2.heap.size, 0, none⟩), .pointer (some ⟨w2.heap.size + 1, 0, none⟩)], .agg (cellsM M).toArray], defers := [] })
      (fun M a' w' ll r r' h hl => h)
      ?assign ?body ?done ?stop
    case hn =>
      obtain ⟨A, c, e1, e2, e3⟩ := hn1
      refine ⟨A, c, e1, e2, fun h0 => ?_⟩
      obtain ⟨b, o, h4, h5, h6, h7⟩ := e3 h0
      refine ⟨b, o, h4, Nat.lt_of_lt_of_le h5 hb'.size, fun hg => ?_, fun k x hx => ?_⟩
      · rcases hg' b hg with h | h
        · exact h6 h
        · omega
      · obtain ⟨vy, h8, h9⟩ := h7 k x hx
        exact ⟨vy, (hb'.cell (p := ⟨b, _, none⟩) h5).trans h8, h9.keep (Same.of_below (hb'.mono (by omega))) (Nat.le_refl _)⟩
    case assign =>
      intro ll pre' M W' K hsz hi hK
      have HK := Lib.hid (fun a' h => hK a' W' (Rnd.refl _ _ _) hi h)
      clear hK hi
      gi_wp2_with fail
      refine HK.out _ ?_
      simp
    case body =>
      rintro ll pre' M a' Wb hszb hpre hrb ⟨rfl, hbox⟩ rfl
      have q0 := hbox.cell 0
      have f0 := hbox.free 0
      simp at q0
      have hX : Rnd (w.heap.size + 1) (fun _ b => b = w.heap.size + 1) Wb (Wb.setCell ⟨w.heap.size + 1, 0, none⟩ (.bool true)) ∧ MayX (w.heap.size + 1) .ret ([] ++ [M]) (Wb.setCell ⟨w.heap.size + 1, 0, none⟩ (.bool true)) :=
        ⟨(Rnd.refl _ _ Wb).touch rfl (Nat.le_refl _) 0 _ (fun _ h => h), rfl, by simp, hbox.put 0 (.bool true)⟩
      have HX := Lib.hid hX
      clear hX hbox
      gi_wp2_with fail
      exact HX.out
    case done =>
      rintro D W2 hD hgD hr2 ⟨hxs, hbox⟩ hK
      have q0 := hbox.cell 0
      have f0 := hbox.free 0
      simp at q0
      have hmay : Dat.mayS d s = false := by unfold Dat.mayS Dat.leftS; rw [hxs]; rfl
      have hDlt := (Array.getElem?_eq_some_iff.1 hK).1
      have hK' : (W2.setCell ⟨w.heap.size + 1, 0, none⟩ (.bool false)).heap[D]? = some (.deferred (some [])) := (Below.heap_setCell _ _ _ _ (show D ≠ w.heap.size + 1 from hgD)).trans hK
      have hb' : Blok (W2.setCell ⟨w.heap.size + 1, 0, none⟩ (.bool false)) (w.heap.size + 1) 4 [.bool false] := hbox.put 0 (.bool false)
      have hb'' : Blok ((W2.setCell ⟨w.heap.size + 1, 0, none⟩ (.bool false)).putObj D (.deferred none)) (w.heap.size + 1) 4 [.bool false] := (World.putObj_heap_other (fun e => hgD e.symm)).trans hb'
      have hbel : Below w.heap.size w ((W2.setCell ⟨w.heap.size + 1, 0, none⟩ (.bool false)).putObj D (.deferred none)) :=
        ((hw1.trans (hr2.below.mono (Nat.le_succ _))).setCell (p := ⟨w.heap.size + 1, 0, none⟩) (Nat.le_succ _) _).grown (grownBy_putObj' _ D _) (by simp [World.setCell]; have := hr2.below.size; omega) (fun k e => by cases e; omega)
      have HKD := Lib.hid hK'
      have HBX := Lib.hid hb''
      have HBEL := Lib.hid hbel
      clear hK hK' hb' hb'' hbel hxs hbox
      have HMAY := Lib.hid hmay
      clear hmay
      gi_wp2_with fail
      refine ⟨by simp, .inl ⟨_, _, rfl, run_takeDeferred HKD.out, ?_⟩⟩
      refine ⟨.bool false, ?_, by rw [HMAY.out], HBEL.out⟩
      have := HBX.out.cell 0
      simp at this
      simp [results, Try.results55, go_sem, this]
    case stop =>
      rintro D cd pre' W2 hD hgD hpre hr2 ⟨rfl, hne, hbox⟩ hK
      have hmay : Dat.mayS d s = true := by
        unfold Dat.mayS
        cases hl : Dat.leftS d s with
        | nil =>
          exfalso
          unfold Dat.leftS at hl
          rw [hl] at hpre
          exact hne (List.prefix_nil.1 hpre)
        | cons _ _ => rfl
      have hb'' : Blok (W2.putObj D (.deferred none)) (w.heap.size + 1) 4 [.bool true] := (World.putObj_heap_other (fun e => hgD e.symm)).trans hbox
      have hbel : Below w.heap.size w (W2.putObj D (.deferred none)) :=
        (hw1.trans (hr2.below.mono (Nat.le_succ _))).grown (grownBy_putObj' _ D _) (by have := hr2.below.size; omega) (fun k e => by cases e; omega)
      have HKD := Lib.hid hK
      have HBX := Lib.hid hb''
      have HBEL := Lib.hid hbel
      clear hK hb'' hbel hbox
      have HMAY := Lib.hid hmay
      clear hmay
      gi_wp2_with fail
      refine ⟨by simp, .inl ⟨_, _, rfl, run_takeDeferred HKD.out, ?_⟩⟩
      refine ⟨.bool true, ?_, by rw [HMAY.out], HBEL.out⟩
      have := HBX.out.cell 0
      simp at this
      simp [results, Try.results55, go_sem, this]
end
section
open Go.RowKit Go.Shelf Dt

/-- All sets of n notes, in order. -/
structure Sorted (n : Nat) (l : List Nat) : Prop where
  len : l.length = 2 ^ n
  all : ∀ s, s < 2 ^ n → s ∈ l
  low : ∀ s, s ∈ l → s < 2 ^ n
  up : ∀ (i j : Nat) (s t : Nat), i < j → l[i]? = some s → l[j]? = some t → cmpS s t ≤ 0
def SetsPost (n : Nat) (w : World) (e : Ending) (w' : World) : Prop := ∃ (l : List Nat) (g c : Nat), e = .returned (.slice (some ⟨g, 0, none⟩) (2 ^ n) c) ∧ 2 ^ n ≤ c ∧ Sorted n l ∧ w.heap.size ≤ g ∧ g < w'.heap.size ∧
  (∀ (i s : Nat), l[i]? = some s → w'.cell? ⟨g, i, none⟩ = some (.int .u64 s)) ∧ Below w.heap.size w w'
/-- The fewest notes without which a dating may be, the first of them in order. -/
structure Dat.Least (d : Dat) (s : Nat) : Prop where
  low : s < 2 ^ d.notes.length
  may : Dat.mayS d s = true
  least : ∀ t, t < 2 ^ d.notes.length → Dat.mayS d t = true → cmpS s t ≤ 0
theorem may_none (d : Dat) : Dat.mayS d (2 ^ d.notes.length - 1) = true := by
  have h : Dat.keptS d (2 ^ d.notes.length - 1) = [] := by
    unfold Dat.keptS keptTo
    rw [List.filterMap_eq_nil_iff]
    intro i hi
    rw [List.mem_range] at hi
    rw [Nat.testBit_two_pow_sub_one, if_pos (by simpa using hi)]
  unfold Dat.mayS Dat.leftS
  rw [h]
  rfl
def WrongPost (d : Dat) (w : World) (e : Ending) (w' : World) : Prop := ∃ s v, Dat.Least d s ∧ e = .returned (.tuple #[v, .int .i64 0]) ∧ Ints w' w'.heap.size v (setTo s 8) ∧ Below w.heap.size w w'
theorem pow_le8 {n : Nat} (h : n ≤ 8) : 2 ^ n ≤ 256 := by
  have := Nat.pow_le_pow_right (show 0 < 2 by omega) h
  exact this
set_option maxRecDepth 100000 in
set_option maxHeartbeats 1000000 in
theorem wrong_of (hsets : ∀ (n : Nat), n ≤ 8 → ∀ w, Calls Try.prog 54 #[.int .i64 n] w (SetsPost n w))
    (d : Dat) (hd : d.Ok) (v : Value) (B0 : Nat) (w : World) (hB0 : B0 ≤ w.heap.size) (hv : DatAt w B0 v d) :
    Calls Try.prog 31 #[v] w (WrongPost d w) := by
  have HCK := Lib.hid (fun w' (hb : Below w.heap.size w w') => check_ok d hd v B0 w' (Nat.le_trans hB0 hb.size) (hv.keep (Same.of_below (hb.mono hB0)) (Nat.le_refl _)))
  have HMB := Lib.hid (fun (s : Nat) (hs : s < 256) w' (hb : Below w.heap.size w w') => mayBe_any d hd s hs v B0 w' (Nat.le_trans hB0 hb.size) (hv.keep (Same.of_below (hb.mono hB0)) (Nat.le_refl _)))
  obtain ⟨ve, vn, rfl, -, hvn⟩ := hv
  obtain ⟨A, c, rfl, -⟩ := hvn
  obtain ⟨n, hn⟩ : ∃ n, n = d.notes.length := ⟨_, rfl⟩
  have n8 : n ≤ 8 := by rw [hn]; exact hd.notes.1
  rw [← hn] at HCK HMB ⊢
  have HST := Lib.hid (fun w => hsets n n8 w)
  have HN := Lib.hid hn
  clear hn hsets hd
  go_enter Try.func31, Try.ntmps31
  go_wp2_with fail
  obtain ⟨W, hW⟩ : ∃ W, W = w.alloc (.cells #[.int .i64 d.stones, ve, .slice A n c] 28) := ⟨_, rfl⟩
  have b0 : Below w.heap.size w W := by rw [hW]; exact (Below.refl _ w).alloc (Nat.le_refl _) _
  have k0 : Blok W w.heap.size 28 [.int .i64 d.stones, ve, .slice A n c] := by rw [hW]; exact Blok.new w _ _
  rw [← hW]
  clear hW
  refine (HCK.out _ b0).mono ?_
  rintro e w1 ⟨rfl, hb1⟩
  have b1 := b0.trans (hb1.mono b0.size)
  have k1 := k0.below hb1 k0.size
  have c0 := k1.cell 0
  have c1 := k1.cell 1
  have c2 := k1.cell 2
  simp at c0 c1 c2
  have HB1 := Lib.hid b1
  have HK1 := Lib.hid k1
  clear b0 b1 hb1 k0 k1
  go_wp2_with (go_at_call 54; (refine (HST.out _).mono ?_); rintro e w2 hp; obtain ⟨l, g, cg, rfl, hcg, hso, hg0, hg1, hce, hb2⟩ := hp; obtain ⟨N, hN⟩ : ∃ N, N = 2 ^ n := ⟨_, rfl⟩; rw [← hN] at hcg ⊢; have HSO := Lib.hid hso; have HCE := Lib.hid hce; have HB2 := Lib.hid hb2; have HNN := Lib.hid hN; have n256 : N ≤ 256 := (by rw [hN]; exact pow_le8 n8); clear hso hce hb2 hN)
  have hbz := HB1.out.trans (HB2.out.mono HB1.out.size)
  go_loopw [16] (fun i wr => ∃ k : Nat, k ≤ N ∧ i = .int .i64 k ∧ (∀ (j s : Nat), j < k → l[j]? = some s → Dat.mayS d s = false) ∧ Below w2.heap.size w2 wr) (fun i _ => N - (intOf i).toNat)
  case atStart => exact ⟨0, by omega, rfl, fun j s h => by omega, Below.refl _ _⟩
  case round =>
    obtain ⟨k, hk, rfl, hno, hb⟩ := hrel
    by_cases hlt : k < N
    · obtain ⟨s, hs⟩ : ∃ s, l[k]? = some s := ⟨_, List.getElem?_eq_getElem (by rw [HSO.out.len, ← HNN.out]; exact hlt)⟩
      have q0 : wr.cell? ⟨g, k, none⟩ = some (.int .u64 s) := (hb.cell (p := ⟨g, k, none⟩) hg1).trans (HCE.out k s hs)
      have hsN : s < 2 ^ n := HSO.out.low s (List.mem_of_getElem? hs)
      have hs256 : s < 256 := by have := HNN.out; omega
      have hbw : Below w.heap.size w wr := hbz.trans (hb.mono hbz.size)
      have kr := (HK1.out.below HB2.out HK1.out.size).below hb (Nat.lt_of_lt_of_le HK1.out.size HB2.out.size)
      have c0 := kr.cell 0
      have c1 := kr.cell 1
      have c2 := kr.cell 2
      simp at c0 c1 c2
      have HMS := Lib.hid (HMB.out s hs256 wr hbw)
      have HLS := Lib.hid (fun w => list_any s hs256 w)
      have HS := Lib.hid hs
      have HNO := Lib.hid hno
      have HB := Lib.hid hb
      have HBW := Lib.hid hbw
      have HSN := Lib.hid hsN
      clear hs hno hb hbw kr hsN hs256 hbz
      cases hm : Dat.mayS d s
      · rw [hm] at HMS
        have HM := Lib.hid hm
        clear hm
        go_wp2_with (go_at_call 55; (refine (HMS.out).mono ?_); rintro e w3 ⟨rfl, hb3⟩; have HB3 := Lib.hid (HB.out.trans (hb3.mono HB.out.size)); clear hb3)
        go_roundw
        case rel =>
          refine ⟨k + 1, by omega, by go_num, fun j t hj ht => ?_, HB3.out⟩
          by_cases hjk : j < k
          · exact HNO.out j t hjk ht
          · obtain rfl : j = k := by omega
            rw [HS.out] at ht
            injection ht with ht
            rw [← ht]
            exact HM.out
        case measure => simp [intOf]; omega
      · rw [hm] at HMS
        have HM := Lib.hid hm
        clear hm
        go_wp2_with (first
          | (go_at_call 55; (refine (HMS.out).mono ?_); rintro e w3 ⟨rfl, hb3⟩; have HB3 := Lib.hid (HBW.out.trans (hb3.mono HBW.out.size)); clear hb3)
          | (go_at_call 56; (refine (HLS.out _).mono ?_); rintro e w4 hp; obtain ⟨v4, rfl, hv4, hb4, -⟩ := hp; have HV4 := Lib.hid hv4; have HB4 := Lib.hid (HB3.out.trans (hb4.mono HB3.out.size)); clear hv4 hb4))
        go_ret2
        refine ⟨s, v4, ⟨by rw [← HN.out]; exact HSN.out, HM.out, fun t ht htm => ?_⟩, rfl, HV4.out, HB4.out⟩
        rw [← HN.out] at ht
        obtain ⟨j, hj, hje⟩ := List.mem_iff_getElem.1 (HSO.out.all t ht)
        have hj' : l[j]? = some t := by rw [List.getElem?_eq_getElem hj, hje]
        by_cases hjk : j < k
        · have := HNO.out j t hjk hj'
          rw [htm] at this
          cases this
        · by_cases hkj : k = j
          · subst hkj
            have := HS.out
            rw [hj'] at this
            injection this with this
            subst this
            have := cmpS_neg t t
            omega
          · exact HSO.out.up k j s t (by omega) HS.out hj'
    · exfalso
      obtain rfl : k = N := by omega
      have hp : 0 < 2 ^ n := Nat.pow_pos (by omega)
      obtain ⟨j, hj, hje⟩ := List.mem_iff_getElem.1 (HSO.out.all (2 ^ n - 1) (by omega))
      have := hno j _ (by rw [HNN.out, ← HSO.out.len]; exact hj) (List.getElem?_eq_getElem hj)
      rw [hje, HN.out, may_none d] at this
      cases this
end
end
end Go.Proofs.Ytcbdcdpoackplaa
