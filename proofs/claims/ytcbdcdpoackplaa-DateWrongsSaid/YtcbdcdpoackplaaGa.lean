/- The list of all sets. · The sort of all sets, out of the shelf's law. · Wrong. · timely: the chapter's examples, checked. · What a law holds: an urn, a dating with a truth in variables of its own. One note more: plain. -/
import Derived.Test.YtcbdcdpoackplaaEk
import Derived.Laws.MakeOwn
import Derived.Shelf.SlSortCmp.Kit1
import Derived.Shelf.SlSortCmp.Whole1
import Derived.Test.YtcbdcdpoackplaaShelf
import Derived.Test.YtcbdcdpoackplaaEu
import Derived.Test.YtcbdcdpoackplaaEp
import Derived.Test.YtcbdcdpoackplaaEo
import Derived.Test.YtcbdcdpoackplaaEa
import Derived.Test.YtcbdcdpoackplaaFg
import Derived.Test.YtcbdcdpoackplaaFk
import Derived.Test.YtcbdcdpoackplaaEd
namespace Go.Proofs.Ytcbdcdpoackplaa
section
section
open Go.RowKit Go.Shelf Dt

/-- The row while it is filled. -/
def rowL (N k : Nat) : List Value := (List.range N).map fun i => .int .u64 (if i < k then (i : Int) else 0)
theorem rowL_len (N k : Nat) : (rowL N k).length = N := by simp [rowL]
theorem rowL_at (N k i : Nat) (hi : i < N) : (rowL N k)[i]? = some (.int .u64 (if i < k then (i : Int) else 0)) := by
  unfold rowL
  rw [List.getElem?_map, List.getElem?_range hi]
  rfl
theorem rowL_zero (N : Nat) : madeCells #[.int .u64 0] N = (rowL N 0).toArray := by
  apply Array.ext_getElem?
  intro i
  by_cases hi : i < N
  · rw [Array.getElem?_eq_getElem (by rw [size_madeCells]; exact hi), List.getElem?_toArray, rowL_at N 0 i hi]
    simp [madeCells, Nat.mod_one]
  · rw [Array.getElem?_eq_none (by rw [size_madeCells]; omega), List.getElem?_toArray, List.getElem?_eq_none (by rw [rowL_len]; omega)]
theorem rowL_set (N k : Nat) : (rowL N k).set k (.int .u64 k) = rowL N (k + 1) := by
  apply List.ext_getElem?
  intro i
  by_cases hi : i < N
  · rw [rowL_at N (k + 1) i hi, List.getElem?_set]
    by_cases h : k = i
    · subst h
      rw [if_pos rfl, if_pos (by rw [rowL_len]; exact hi), if_pos (by omega)]
    · rw [if_neg h, rowL_at N k i hi]
      by_cases h2 : i < k
      · rw [if_pos h2, if_pos (by omega)]
      · rw [if_neg h2, if_neg (by omega)]
  · rw [List.getElem?_eq_none (by rw [List.length_set, rowL_len]; omega), List.getElem?_eq_none (by rw [rowL_len]; omega)]
theorem info_set : (Try.prog.info? 87).map (fun i => (i.zero, i.size, i.bytes)) = some (some (.int .u64 0), 1, 8) := by kernel_rfl
/-- What is asked of the sort. -/
def SortPost (g N : Nat) (w : World) (e : Ending) (w' : World) : Prop := e = .returned (.tuple #[]) ∧ ∃ l : List Nat, l.length = N ∧ (∀ s, s < N → s ∈ l) ∧ (∀ s, s ∈ l → s < N) ∧ (∀ (i j : Nat) (s t : Nat), i < j → l[i]? = some s → l[j]? = some t → cmpS s t ≤ 0) ∧
  (∀ (i s : Nat), l[i]? = some s → w'.cell? ⟨g, i, none⟩ = some (.int .u64 s)) ∧ Below g w w'
set_option maxRecDepth 100000 in
set_option maxHeartbeats 1000000 in
theorem sets_of (hsort : ∀ (g N : Nat) (w : World), N ≤ 256 → Blok w g 87 (rowL N N) → Calls Try.prog 66 #[.slice (some ⟨g, 0, none⟩) N N, .func (.func 67) #[] #[]] w (SortPost g N w))
    (n : Nat) (hn : n ≤ 8) (w : World) : Calls Try.prog 54 #[.int .i64 n] w (SetsPost n w) := by
  obtain ⟨N, hN⟩ : ∃ N, N = 2 ^ n := ⟨_, rfl⟩
  have hN256 : N ≤ 256 := by rw [hN]; exact pow_le8 hn
  have hN0 : 0 < N := by rw [hN]; exact Nat.pow_pos (by omega)
  have hpw : (2 : Int) ^ n = (N : Int) := by rw [hN]; simp
  obtain ⟨i0, hi, hz0, hz1, hz2⟩ := info_parts info_set
  have hmk : ∀ w, (Instr.makeSlice 88 (.int .i64 (N : Int)) (.int .i64 (N : Int))).run Try.prog w = .ok (.slice (some ⟨w.heap.size, 0, none⟩) N N) (w.alloc (.cells (rowL N 0).toArray 87)) := fun w => by
    rw [run_make w _ _ i0 _ Try.underlying88 hi hz0 .i64 .i64 N N (by omega) (Int.le_refl _) (by rw [hz2]; omega) (by omega), hz1, Nat.mul_one, ← rowL_zero]
    rfl
  have hn0 : (0 : Int) ≤ (n : Int) := by omega
  have hn8 : (n : Int) ≤ 8 := by omega
  have HS := Lib.hid (fun g w => hsort g N w hN256)
  have HN := Lib.hid hN
  have hw64 : wrap64 ((2 : Int) ^ n) = (N : Int) := by rw [hpw]; unfold wrap64; omega
  clear hN hsort hi hz0 hz1 hz2 hpw
  go_enter Try.func54, Try.ntmps54
  go_upto_region 2 with fail
  clear hw64 hmk
  have k0 := Blok.new w 87 (rowL N 0)
  have b0 := (Below.refl w.heap.size w).alloc (Nat.le_refl _) (.cells (rowL N 0).toArray 87)
  go_wp2_with fail
  go_loopw [10] (fun i wr => ∃ k : Nat, k ≤ N ∧ i = .int .i64 k ∧ Below w.heap.size w wr ∧ Blok wr w.heap.size 87 (rowL N k)) (fun i _ => N - (intOf i).toNat)
  case atStart => exact ⟨0, by omega, rfl, b0, k0⟩
  case round =>
    clear b0 k0
    obtain ⟨k, hk, rfl, hb, hk0⟩ := hrel
    by_cases hlt : k < N
    · have q0 := hk0.cell k
      rw [rowL_at N k k hlt, if_neg (by omega)] at q0
      have f0 := hk0.free k
      have hK := hk0.put k (.int .u64 k)
      rw [rowL_set] at hK
      have HB := Lib.hid (hb.setCell (p := ⟨w.heap.size, k, none⟩) (Nat.le_refl _) (.int .u64 k))
      have HK := Lib.hid hK
      clear hb hk0 hK
      go_wp2_with fail
      go_roundw
      case rel => exact ⟨k + 1, by omega, by go_num, HB.out, HK.out⟩
      case measure => simp [intOf]; omega
    · obtain rfl : k = N := by omega
      have HB := Lib.hid hb
      have HK := Lib.hid hk0
      clear hb hk0
      go_wp2_with (go_at_call 66; (refine (HS.out _ _ HK.out).mono ?_); rintro e w3 hp; obtain ⟨rfl, l, h1, h2, h3, h4, h5, h6⟩ := hp; have HL := Lib.hid (show Sorted n l from ⟨by rw [h1, HN.out], fun s hs => h2 s (by rw [HN.out]; exact hs), fun s hs => by rw [← HN.out]; exact h3 s hs, h4⟩); have HC := Lib.hid h5; have HB3 := Lib.hid (HB.out.trans h6); have HZ := Lib.hid (Nat.lt_of_lt_of_le HK.out.size h6.size); clear h1 h2 h3 h4 h5 h6)
      go_ret
      exact ⟨l, w.heap.size, k, by rw [← HN.out]; rfl, by rw [← HN.out]; exact Nat.le_refl _, HL.out, Nat.le_refl _, HZ.out, HC.out, HB3.out⟩
end
section
open Go.RowKit Go.Shelf Go.Sort Dt

def encF (x : Fin 256) : Value := .int .u64 (x.val : Int)
theorem lt_yes {x y : Fin 256} : ltOf cmpF x y = true ↔ cmpS x.val y.val < 0 := ⟨of_decide_eq_true, decide_eq_true⟩
theorem lt_no {x y : Fin 256} : ltOf cmpF x y = false ↔ ¬ cmpS x.val y.val < 0 := ⟨of_decide_eq_false, decide_eq_false⟩
theorem swo_cmp : SWO (ltOf cmpF) := by
  refine ⟨fun x => lt_no.2 ?_, fun x y z h1 h2 => lt_yes.2 ?_, fun x y z h1 h2 => lt_no.2 ?_⟩
  · have := cmpS_neg x.val x.val
    omega
  · have h1 := lt_yes.1 h1
    have h2 := lt_yes.1 h2
    exact (cmpS_le x.val y.val z.val (by omega) (by omega)).2 (.inl h1)
  · have h1 := lt_no.1 h1
    have h2 := lt_no.1 h2
    have e1 := cmpS_neg x.val y.val
    have e2 := cmpS_neg y.val z.val
    have e3 := cmpS_neg x.val z.val
    have := (cmpS_le z.val y.val x.val (by omega) (by omega)).1
    omega
theorem cmp_lays (blk size : Nat) (w : World) : CmpLays1 Try.prog 67 #[] encF cmpF blk 0 size w := by
  intro m os dk _ x y
  refine (cmpS_any x.val y.val x.isLt y.isLt _).mono ?_
  rintro e w' ⟨rfl, hb, hd⟩
  exact ⟨rfl, grow_of_below hb hd⟩
/-- The numbers below N, as the sort sees them. -/
def allF (N : Nat) : Array (Fin 256) := ((List.range N).map fun i => Fin.ofNat 256 i).toArray
theorem allF_size (N : Nat) : (allF N).size = N := by simp [allF]
theorem allF_val (N : Nat) (hN : N ≤ 256) : (allF N).toList.map Fin.val = List.range N := by
  unfold allF
  rw [List.toList_toArray, List.map_map]
  apply List.ext_getElem?
  intro i
  rw [List.getElem?_map]
  by_cases hi : i < N
  · rw [List.getElem?_range hi]
    show some (i % 256) = some i
    rw [Nat.mod_eq_of_lt (by omega)]
  · rw [List.getElem?_eq_none (by simp; omega)]
    rfl
theorem below_sortWorld (w : World) (g m : Nat) (hg : g < w.heap.size) (d : Array (Fin 256)) (os : Array Obj) : Below g w (sortWorld encF w g 0 m d os) := by
  refine ⟨rfl, rfl, rfl, ?_, fun k hk => ?_⟩
  · unfold sortWorld
    rw [size_grow, size_putRow]
    exact Nat.le_add_right _ _
  · unfold sortWorld
    rw [heap_grow_old _ _ (by rw [size_putRow]; exact Nat.lt_trans hk hg)]
    unfold putRow mapBlock
    simp only [Array.getElem?_modify]
    rw [if_neg (by omega)]
    rfl
theorem at_val (d : Array (Fin 256)) (i s : Nat) (h : (d.toList.map Fin.val)[i]? = some s) : i < d.size ∧ d[i]!.val = s := by
  rw [List.getElem?_map, Option.map_eq_some_iff] at h
  obtain ⟨x, hx, rfl⟩ := h
  rw [Array.getElem?_toList] at hx
  obtain ⟨hi, rfl⟩ := Array.getElem?_eq_some_iff.1 hx
  exact ⟨hi, by rw [getElem!_pos d i hi]⟩
theorem sort_of (hsh : ∀ (blk cap : Nat) (d : Array (Fin 256)) (w : World), Holds encF w blk 0 d → blk < w.heap.size → d.size < 4611686018427387904 →
      Calls Try.prog 66 #[.slice (some ⟨blk, 0, none⟩) d.size cap, .func (.func 67) #[] #[]] w fun e w' =>
        e = .returned (.tuple #[]) ∧ ∃ d' n os, PermIn 0 d.size d d' ∧ SortedIn (ltOf cmpF) 0 d.size d' ∧ w' = sortWorld encF w blk 0 n d' os)
    (g N : Nat) (w : World) (hN : N ≤ 256) (hb : Blok w g 87 (rowL N N)) :
    Calls Try.prog 66 #[.slice (some ⟨g, 0, none⟩) N N, .func (.func 67) #[] #[]] w (SortPost g N w) := by
  have hh : Holds encF w g 0 (allF N) := by
    intro j hj
    rw [allF_size] at hj
    refine ⟨?_, hb.free _⟩
    rw [Nat.zero_add]
    have h1 := hb.cell j
    rw [rowL_at N N j hj, if_pos hj] at h1
    have h2 := (at_val (allF N) j j (by rw [allF_val N hN, List.getElem?_range hj])).2
    rw [h1, encF, h2]
  have h := hsh g N (allF N) w hh hb.size (by rw [allF_size]; omega)
  rw [allF_size] at h
  refine h.mono ?_
  rintro e w' ⟨rfl, d', m, os, ⟨hz, -, hp⟩, hs, rfl⟩
  rw [allF_size] at hz
  have hx : ∀ d : Array (Fin 256), d.size = N → (d.extract 0 N).toList = d.toList := fun d hd => by rw [← hd, Array.extract_size]
  rw [hx d' hz, hx _ (allF_size N)] at hp
  have hpv := hp.map Fin.val
  rw [allF_val N hN] at hpv
  refine ⟨rfl, d'.toList.map Fin.val, ?_, fun s hs => ?_, fun s hs => ?_, fun i j s t hij hi hj => ?_, fun i s hi => ?_, below_sortWorld w g m hb.size d' os⟩
  · rw [hpv.length_eq, List.length_range]
  · exact hpv.mem_iff.2 (List.mem_range.2 hs)
  · exact List.mem_range.1 (hpv.mem_iff.1 hs)
  · obtain ⟨-, rfl⟩ := at_val d' i s hi
    obtain ⟨hj', rfl⟩ := at_val d' j t hj
    have h1 := lt_no.1 (hs i j (Nat.zero_le _) hij (by rw [← hz]; exact hj'))
    have h2 := cmpS_neg d'[j]!.val d'[i]!.val
    omega
  · obtain ⟨hi', rfl⟩ := at_val d' i s hi
    unfold sortWorld
    rw [cell?_grow _ _ _ (by rw [size_putRow]; exact hb.size)]
    have h1 := cell?_putRow encF (Sort.ahead w m) g 0 (allF N) d' (holds_ahead encF w m g 0 _ hh) (by rw [hz, allF_size]) i hi'
    rw [Nat.zero_add] at h1
    exact h1
end
end
section
section
section
open Go.RowKit Go.Shelf Go.Sort Dt

theorem enters_cmp : ∀ args w, (callFunc 67 args).run Try.prog w = .ok (.enter 67 args) w := enters_of Try.func67 (by kernel_rfl) rfl
theorem sort_any (g N : Nat) (w : World) (hN : N ≤ 256) (hb : Blok w g 87 (rowL N N)) :
    Calls Try.prog 66 #[.slice (some ⟨g, 0, none⟩) N N, .func (.func 67) #[] #[]] w (SortPost g N w) :=
  sort_of (fun blk cap d w hH hblk hsz => by
    have h := Any.slices_SortFunc Try.sortS encF (fun _ => rfl) cmpF swo_cmp 67 #[] blk 0 cap d w enters_cmp (cmp_lays blk d.size w) hH hblk hsz
    exact h) g N w hN hb
theorem sets_any (n : Nat) (hn : n ≤ 8) (w : World) : Calls Try.prog 54 #[.int .i64 n] w (SetsPost n w) := sets_of (fun g N w hN hb => sort_any g N w hN hb) n hn w
theorem wrong_any (d : Dat) (hd : d.Ok) (v : Value) (B0 : Nat) (w : World) (hB0 : B0 ≤ w.heap.size) (hv : DatAt w B0 v d) : Calls Try.prog 31 #[v] w (WrongPost d w) :=
  wrong_of (fun n hn w => sets_any n hn w) d hd v B0 w hB0 hv
end
section
open Go.RowKit Dt

def tA : List (Int × Int) := [(-213, -212), (-215, -207), (-200, -177)]
theorem spanList_ex : spanList (exD (-5) 10) 1 3 = tA := by
  obtain ⟨-, h1, h2, h3⟩ := exD_years
  simp only [spanList, List.range_succ, List.range_zero, List.nil_append, List.cons_append, List.map_cons, List.map_nil, Nat.reduceAdd, h1, h2, h3, Nat.add_zero]
  rfl
set_option maxRecDepth 100000 in
set_option maxHeartbeats 2000000 in
theorem timely_any (w : World) : Calls Try.prog 20 #[] w fun e w' => e = .returned (.bool true) ∧ Below w.heap.size w w' := by
  have o1 := exD_ok (-5) 10 (by omega) (by omega) (by omega)
  have o2 := exD_ok 1 10 (by omega) (by omega) (by omega)
  have HY : Hid (∀ v w, DatAt w w.heap.size v (exD (-5) 10) → Calls Try.prog 12 #[v] w (SpanListPost tA w)) := Lib.hid fun v w hv => by
    have h := years_yes (exD (-5) 10) o1 ((may_iff o1).1 exD_years.1) v w.heap.size w (Nat.le_refl _) hv
    rwa [show spanList (exD (-5) 10) 1 (exD (-5) 10).stones = tA from spanList_ex] at h
  have HE : Hid (∀ v w, DatAt w w.heap.size v (exD 1 10) → Calls Try.prog 18 #[v, .int .i64 0, .int .i64 1] w fun e w' => e = .returned (.tuple #[.int .i64 1, .int .i64 0]) ∧ Below w.heap.size w w') := Lib.hid fun v w hv => by
    have h := earlier_yes (exD 1 10) o2 ((may_iff o2).1 exD_earlier.1) 0 1 (by decide) (by decide) v w.heap.size w (Nat.le_refl _) hv
    rwa [show (exD 1 10).laterV (1 + 0) (1 + 1) = 1 from exD_earlier.2] at h
  have HW : Hid (∀ v w, DatAt w w.heap.size v exG → Calls Try.prog 31 #[v] w fun e w' => ∃ u, e = .returned (.tuple #[u, .int .i64 0]) ∧ Ints w' w'.heap.size u [5] ∧ Below w.heap.size w w') := Lib.hid fun v w hv => by
    refine (wrong_any exG exG_ok v w.heap.size w (Nat.le_refl _) hv).mono ?_
    rintro e w' ⟨s, u, hs, rfl, hu, hb⟩
    obtain rfl := exG_least s hs
    exact ⟨u, rfl, by have e5 : setTo 32 8 = [5] := by decide +kernel
                      rwa [e5] at hu, hb⟩
  clear o1 o2
  go_enter Try.func20, Try.ntmps20
  go_upto_region 4 with (first
    | (go_at_call 23; (with_reducible refine (to_any (-5) 10 _).mono ?_); rintro e w1 ⟨rfl, hb⟩; have HB1 := Lib.hid hb; clear hb)
    | (go_at_call 49; (with_reducible refine (with_any (-5) 10 _).mono ?_); rintro e w2 ⟨b1, by_, b2, rfl, hm⟩; have HD2 := Lib.hid hm.dat; have HB2 := Lib.hid (HB1.out.trans (hm.below.mono HB1.out.size)); clear hm)
    | (go_at_call 12; refine (HY.out _ _ HD2.out).mono ?_; rintro e w3 hp; obtain ⟨a, rfl, ha, hb⟩ := hp; have HA3 := Lib.hid (spans_of_own ha); have HB3 := Lib.hid (HB2.out.trans (hb.mono HB2.out.size)); clear ha hb)
    | (go_at_call 50; refine (dating_any _).mono ?_; rintro e w4 ⟨c1, cy, c2, rfl, hm⟩; have HD4 := Lib.hid hm.dat; have HA4 := Lib.hid (HA3.out.keep (Same.of_below hm.below) hm.below.size); have HB4 := Lib.hid (HB3.out.trans (hm.below.mono HB3.out.size)); clear hm)
    | (go_at_call 18; refine (HE.out _ _ HD4.out).mono ?_; rintro e w5 ⟨rfl, hb⟩; have HA5 := Lib.hid (HA4.out.keep (Same.of_below hb) hb.size); have HB5 := Lib.hid (HB4.out.trans (hb.mono HB4.out.size)); clear hb)
    | (go_at_call 51; refine (doubt_any _).mono ?_; rintro e w6 ⟨v6, rfl, hd, hb⟩; have HD6 := Lib.hid hd; have HA6 := Lib.hid (HA5.out.keep (Same.of_below hb) hb.size); have HB6 := Lib.hid (HB5.out.trans (hb.mono HB5.out.size)); clear hb hd)
    | (go_at_call 31; refine (HW.out _ _ HD6.out).mono ?_; rintro e w7 ⟨u, rfl, hu, hb⟩; have HU7 := Lib.hid hu; have HA7 := Lib.hid (HA6.out.keep (Same.of_below hb) hb.size); have HB7 := Lib.hid (HB6.out.trans (hb.mono HB6.out.size)); clear hb hu))
  have hsi : Calls Try.prog 34 #[u, .slice (some ⟨w7.heap.size, 0, none⟩) 1 1] (w7.alloc (.cells #[.int .i64 5] 3)) fun e w' => e = .returned (.bool true) ∧ Below w7.heap.size w7 w' := by
    have ba : Below w7.heap.size w7 (w7.alloc (.cells #[.int .i64 5] 3)) := (Below.refl _ w7).alloc (Nat.le_refl _) _
    have kl := Blok.new w7 3 [.int .i64 5]
    have hl : Ints (w7.alloc (.cells #[.int .i64 5] 3)) (w7.alloc (.cells #[.int .i64 5] 3)).heap.size (.slice (some ⟨w7.heap.size, 0, none⟩) 1 1) [5] := ⟨_, _, rfl, fun _ => ⟨w7.heap.size, 0, rfl, kl.size, fun k x hx => by
      rcases k with _ | k
      · simp at hx
        subst hx
        exact kl.cell 0
      · simp at hx⟩⟩
    refine (sameInts_any [5] [5] (by decide) (by decide) _ _ _ _ (Nat.le_refl _) (HU7.out.keep (Same.of_below ba) ba.size) hl).mono ?_
    rintro e w' ⟨rfl, hb⟩
    exact ⟨ret_bool (by simp), ba.trans (hb.mono ba.size)⟩
  have hss : ∀ w8, Below w7.heap.size w7 w8 → Calls Try.prog 29 #[a, .slice (some ⟨w8.heap.size, 0, none⟩) 3 3] (w8.alloc (.cells #[.int .i64 (-213), .int .i64 (-212), .int .i64 (-215), .int .i64 (-207), .int .i64 (-200), .int .i64 (-177)] 39)) fun e w' => e = .returned (.bool true) ∧ Below w7.heap.size w7 w' := by
    intro w8 h8
    have ba : Below w8.heap.size w8 (w8.alloc (.cells #[.int .i64 (-213), .int .i64 (-212), .int .i64 (-215), .int .i64 (-207), .int .i64 (-200), .int .i64 (-177)] 39)) := (Below.refl _ w8).alloc (Nat.le_refl _) _
    have kl := Blok.new w8 39 [.int .i64 (-213), .int .i64 (-212), .int .i64 (-215), .int .i64 (-207), .int .i64 (-200), .int .i64 (-177)]
    have hl : Spans (w8.alloc (.cells #[.int .i64 (-213), .int .i64 (-212), .int .i64 (-215), .int .i64 (-207), .int .i64 (-200), .int .i64 (-177)] 39)) (w8.alloc (.cells #[.int .i64 (-213), .int .i64 (-212), .int .i64 (-215), .int .i64 (-207), .int .i64 (-200), .int .i64 (-177)] 39)).heap.size (.slice (some ⟨w8.heap.size, 0, none⟩) 3 3) tA := ⟨_, _, rfl, fun _ => ⟨w8.heap.size, 0, rfl, kl.size, fun k x hx => by
      rcases k with _ | _ | _ | k
      · simp [tA] at hx
        subst hx
        exact ⟨kl.cell 0, kl.cell 1⟩
      · simp [tA] at hx
        subst hx
        exact ⟨kl.cell 2, kl.cell 3⟩
      · simp [tA] at hx
        subst hx
        exact ⟨kl.cell 4, kl.cell 5⟩
      · simp [tA] at hx⟩⟩
    have ha8 := (HA7.out.keep (Same.of_below h8) h8.size).keep (Same.of_below ba) ba.size
    refine (sameSpans_any tA tA (by decide) (by decide) _ _ _ _ (Nat.le_refl _) ha8 hl).mono ?_
    rintro e w' ⟨rfl, hb⟩
    exact ⟨ret_bool (by simp), h8.trans ((ba.mono h8.size).trans (hb.mono (Nat.le_trans h8.size ba.size)))⟩
  have HSI := Lib.hid hsi
  have HSS := Lib.hid hss
  clear hsi hss
  go_wp2_with (first
    | (go_at_call 34; refine HSI.out.mono ?_; rintro e w8 ⟨rfl, hb⟩; have HB8 := Lib.hid hb; clear hb)
    | (go_at_call 23; (with_reducible refine (to_any (-213) (-212) _).mono ?_); rintro e w9 ⟨rfl, hb⟩; have HB9 := Lib.hid (HB8.out.trans (hb.mono HB8.out.size)); clear hb)
    | (go_at_call 23; (with_reducible refine (to_any (-215) (-207) _).mono ?_); rintro e wa ⟨rfl, hb⟩; have HBa := Lib.hid (HB9.out.trans (hb.mono HB9.out.size)); clear hb)
    | (go_at_call 23; (with_reducible refine (to_any (-200) (-177) _).mono ?_); rintro e wb ⟨rfl, hb⟩; have HBb := Lib.hid (HBa.out.trans (hb.mono HBa.out.size)); clear hb)
    | (go_at_call 29; refine (HSS.out _ HBb.out).mono ?_; rintro e wc ⟨rfl, hb⟩; have HBc := Lib.hid hb; clear hb))
  go_ret
  exact ⟨rfl, HB7.out.trans (HBc.out.mono HB7.out.size)⟩
end
end
section
open Go.RowKit Dt

structure LC (w : World) (g bd : Nat) (d : Dat) (ys fs : List Int) (ve vn vy vf : Value) (W : World) : Prop where
  urn : UrnAt W g
  hg : w.heap.size ≤ g
  below : Below w.heap.size w W
  kd : Blok W bd 28 [.int .i64 d.stones, ve, vn]
  kw : Blok W (bd + 1) 30 [vy, vf]
  dat : DatO W w.heap.size (.agg #[.int .i64 d.stones, ve, vn]) d
  oy : IntsO W w.heap.size vy ys
  of : IntsO W w.heap.size vf fs
  zd : w.heap.size ≤ bd
section
variable {w W W' : World} {g bd : Nat} {d : Dat} {ys fs : List Int} {ve vn vy vf : Value}
theorem LC.calls (h : LC w g bd d ys fs ve vn vy vf W) (hu : UrnAt W' g) (hk : Kg g W W') : LC w g bd d ys fs ve vn vy vf W' :=
  ⟨hu, h.hg, h.below.trans (hk.below h.below.size h.hg), h.kd.kg hk (h.urn.ne h.kd (by decide)), h.kw.kg hk (h.urn.ne h.kw (by decide)), h.dat.kg h.urn hk, own_kg h.oy h.urn (by decide) hk, own_kg h.of h.urn (by decide) hk, h.zd⟩
theorem LC.to (h : LC w g bd d ys fs ve vn vy vf W) (hk : Below W.heap.size W W') : LC w g bd d ys fs ve vn vy vf W' :=
  ⟨h.urn.keep hk h.urn.size, h.hg, h.below.trans (hk.mono h.below.size), h.kd.below hk h.kd.size, h.kw.below hk h.kw.size, h.dat.below hk, own_fx h.oy (Fx.of_all hk) (fun _ _ _ _ => trivial), own_fx h.of (Fx.of_all hk) (fun _ _ _ _ => trivial), h.zd⟩
theorem LC.alloc (h : LC w g bd d ys fs ve vn vy vf W) (o : Obj) : LC w g bd d ys fs ve vn vy vf (W.alloc o) := h.to ((Below.refl _ W).alloc (Nat.le_refl _) o)
theorem LC.drew (h : LC w g bd d ys fs ve vn vy vf W) : LC w g bd d ys fs ve vn vy vf W.drew := h.to (Below.refl _ W).drew
theorem LC.start {w1 w2 : World} {smax nmax : Nat} (hb1 : Below w.heap.size w w1) (hg : w.heap.size ≤ g) (hD : DatO w2 w1.heap.size (.agg #[.int .i64 d.stones, ve, vn]) d) (hY : IntsO w2 w1.heap.size vy ys) (hF : IntsO w2 w1.heap.size vf fs) (hu : UrnAt w2 g) (hk : Kg g w1 w2) (_ : smax = nmax) :
    LC w g w2.heap.size d ys fs ve vn vy vf ((w2.alloc (.cells #[.int .i64 d.stones, ve, vn] 28)).alloc (.cells #[vy, vf] 30)) := by
  have b2 : Below w.heap.size w w2 := hb1.trans (hk.below hb1.size hg)
  have ba : Below w2.heap.size w2 ((w2.alloc (.cells #[.int .i64 d.stones, ve, vn] 28)).alloc (.cells #[vy, vf] 30)) := ((Below.refl _ w2).alloc (Nat.le_refl _) _).alloc (by simp) _
  have kw : Blok ((w2.alloc (.cells #[.int .i64 d.stones, ve, vn] 28)).alloc (.cells #[vy, vf] 30)) (w2.heap.size + 1) 30 [vy, vf] := by
    have := Blok.new (w2.alloc (.cells #[.int .i64 d.stones, ve, vn] 28)) 30 [vy, vf]
    simpa only [World.size_alloc] using this
  refine ⟨(hu.alloc _).alloc _, hg, b2.trans (ba.mono b2.size), (Blok.new w2 _ _).alloc _, kw, ?_, ?_, ?_, b2.size⟩
  · obtain ⟨ve', vn', e, h1, xs, h2, h3, h4⟩ := hD.below ba
    exact ⟨ve', vn', e, h1.mono hb1.size, xs, h2, h3.mono hb1.size, fun p hp => (h4 p hp).mono hb1.size⟩
  · exact (own_fx hY (Fx.of_all ba) (fun _ _ _ _ => trivial)).mono hb1.size
  · exact (own_fx hF (Fx.of_all ba) (fun _ _ _ _ => trivial)).mono hb1.size
theorem DatO.slices {B : Nat} {v : Value} (h : DatO W B v d) : ∃ Ae ce An cn, v = .agg #[.int .i64 d.stones, .slice Ae d.eras.length ce, .slice An d.notes.length cn] := by
  obtain ⟨ve, vn, rfl, h1, xs, _, h3, _⟩ := h
  obtain ⟨Ae, ce, rfl⟩ := own_slice h1
  obtain ⟨An, cn, rfl⟩ := own_slice h3
  exact ⟨Ae, ce, An, cn, rfl⟩
end
namespace Dt
/-- A dating with one more note. -/
def Dat.plus (d : Dat) (n : Nt) : Dat := ⟨d.stones, d.eras, d.notes ++ [n]⟩
theorem nt_ok {d d' : Dat} {n : Nt} (h : n.Ok d) (h1 : d'.stones = d.stones) (h2 : d'.eras.length = d.eras.length) : n.Ok d' :=
  ⟨by rw [h1]; exact h.stone, h.kind, h.years, h.span, h.within, fun hk => by rw [h2]; exact h.era hk, fun hk => by rw [h1]; exact h.after hk⟩
theorem plus_ok {d : Dat} {n : Nt} (h : d.Ok) (hn : n.Ok d) (h8 : d.notes.length < 8) : (d.plus n).Ok :=
  ⟨h.stones, h.eras, ⟨by simp [Dat.plus]; omega, fun m hm => by
    rcases List.mem_append.1 hm with hm | hm
    · exact nt_ok (h.notes.2 m hm) rfl rfl
    · rw [List.mem_singleton.1 hm]; exact nt_ok hn rfl rfl⟩⟩
theorem plus_is {d : Dat} {n : Nt} (x : Nat → Int) : (d.plus n).Is x ↔ d.Is x ∧ n.right x :=
  ⟨fun h => ⟨⟨h.zero, h.base, fun m hm => h.notes m (List.mem_append_left _ hm)⟩, h.notes n (by simp [Dat.plus])⟩,
   fun ⟨h, hn⟩ => ⟨h.zero, h.base, fun m hm => by
    rcases List.mem_append.1 hm with hm | hm
    · exact h.notes m hm
    · rw [List.mem_singleton.1 hm]; exact hn⟩⟩
/-- The note that a stone is of one year. -/
def yearN (k : Nat) (y : Int) : Nt := ⟨1, k, 0, [y], 0, 0⟩
theorem yearN_ok {d : Dat} {k : Nat} {y : Int} (hk : k < d.stones) (h1 : -3000 ≤ y) (h2 : y ≤ 3000) : (yearN k y).Ok d :=
  ⟨hk, ⟨by simp [yearN], by simp [yearN]⟩, fun _ => ⟨rfl, rfl, rfl, by simp [yearN], by simp [yearN], fun z hz => by rw [List.mem_singleton.1 hz]; exact ⟨h1, h2⟩, List.pairwise_singleton _ _⟩, fun h => absurd rfl h, fun h => by simp [yearN] at h, fun h => by simp [yearN] at h, fun h => by simp [yearN] at h⟩
theorem yearN_right (k : Nat) (y : Int) (x : Nat → Int) : (yearN k y).right x ↔ x (1 + k) = y := by simp [yearN, Nt.right]
structure Told (d : Dat) (k : Nat) (y : Int) : Prop where
  none : (d.plus (yearN k y)).all = [] ↔ d.cutV (1 + k) y = 2
  some : (d.plus (yearN k y)).all ≠ [] → (d.plus (yearN k y)).span (1 + k) = (y, y)
  sure : d.cutV (1 + k) y = 1 ↔ d.span (1 + k) = (y, y)
  rest : d.cutV (1 + k) y = 1 ∨ d.cutV (1 + k) y = 2 ∨ d.cutV (1 + k) y = 3
theorem told {d : Dat} (h : d.Ok) (hm : d.may) {k : Nat} {y : Int} (hk : k < d.stones) (hx : (d.plus (yearN k y)).Ok) : Told d k y := by
  have hs := h.stones
  have hv := cutV_spec h hm (1 + k) (by omega) y
  have hmay : (d.plus (yearN k y)).may ↔ ∃ x, d.Is x ∧ x (1 + k) = y :=
    ⟨fun ⟨x, hx⟩ => ⟨x, ((plus_is x).1 hx).1, (yearN_right k y x).1 ((plus_is x).1 hx).2⟩, fun ⟨x, hx, hy⟩ => ⟨x, (plus_is x).2 ⟨hx, (yearN_right k y x).2 hy⟩⟩⟩
  refine ⟨?_, fun hne => ?_, ?_, hv.rest⟩
  · rw [hv.no]
    constructor
    · intro he x hxi hxy
      exact (may_iff hx).1 (hmay.2 ⟨x, hxi, hxy⟩) he
    · intro hall
      refine Classical.byContradiction fun hne => ?_
      obtain ⟨x, hxi, hxy⟩ := hmay.1 ((may_iff hx).2 hne)
      exact hall x hxi hxy
  · obtain ⟨⟨a, ha, h1⟩, ⟨b, hb, h2⟩, _⟩ := span_spec hx ((may_iff hx).2 hne) (1 + k) (by omega)
    have ea := (yearN_right k y a).1 ((plus_is a).1 ha).2
    have eb := (yearN_right k y b).1 ((plus_is b).1 hb).2
    exact Prod.ext (h1.symm.trans ea) (h2.symm.trans eb)
  · unfold Dat.cutV
    constructor
    · intro hc
      refine Classical.byContradiction fun hn => ?_
      rw [if_neg hn] at hc
      split at hc <;> omega
    · intro hc
      rw [if_pos hc]
end Dt
end
end
end Go.Proofs.Ytcbdcdpoackplaa
