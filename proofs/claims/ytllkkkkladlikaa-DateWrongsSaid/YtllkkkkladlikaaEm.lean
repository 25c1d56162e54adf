/- The list of all sets. · The sort of all sets, out of the shelf's law. -/
import Derived.Test.YtllkkkkladlikaaEk
import Derived.Laws.MakeOwn
import Derived.Shelf.SlSortCmp.Kit1
namespace Go.Proofs.Ytllkkkkladlikaa
section
open Go.RowKit Go.Shelf Dt

/-- The row while it is filled. -/
def rowL (N k : Nat) : List Value := (List.range N).map fun i => .int .u64 (if i < k then (i : Int) else 0)
theorem rowL_len (N k : Nat) : (rowL N k).length = N := by simp [rowL]
theorem rowL_at (N k i : Nat) (hi : i < N) : (rowL N k)[i]? = some (.int .u64 (if i < k then (i : Int) else 0)) := by
  unfold rowL
  rw [List.getElem?_map, List.getElem?_range hi]
  rfl
theorem rowL_zero (N : Nat) : madeCells #[.int .u64 0] N = (rowL N 0).toArray := by
  apply Array.ext_getElem?
  intro i
  by_cases hi : i < N
  · rw [Array.getElem?_eq_getElem (by rw [size_madeCells]; exact hi), List.getElem?_toArray, rowL_at N 0 i hi]
    simp [madeCells, Nat.mod_one]
  · rw [Array.getElem?_eq_none (by rw [size_madeCells]; omega), List.getElem?_toArray, List.getElem?_eq_none (by rw [rowL_len]; omega)]
theorem rowL_set (N k : Nat) : (rowL N k).set k (.int .u64 k) = rowL N (k + 1) := by
  apply List.ext_getElem?
  intro i
  by_cases hi : i < N
  · rw [rowL_at N (k + 1) i hi, List.getElem?_set]
    by_cases h : k = i
    · subst h
      rw [if_pos rfl, if_pos (by rw [rowL_len]; exact hi), if_pos (by omega)]
    · rw [if_neg h, rowL_at N k i hi]
      by_cases h2 : i < k
      · rw [if_pos h2, if_pos (by omega)]
      · rw [if_neg h2, if_neg (by omega)]
  · rw [List.getElem?_eq_none (by rw [List.length_set, rowL_len]; omega), List.getElem?_eq_none (by rw [rowL_len]; omega)]
theorem info_set : (Try.prog.info? 91).map (fun i => (i.zero, i.size, i.bytes)) = some (some (.int .u64 0), 1, 8) := by kernel_rfl
/-- What is asked of the sort. -/
def SortPost (g N : Nat) (w : World) (e : Ending) (w' : World) : Prop := e = .returned (.tuple #[]) ∧ ∃ l : List Nat, l.length = N ∧ (∀ s, s < N → s ∈ l) ∧ (∀ s, s ∈ l → s < N) ∧ (∀ (i j : Nat) (s t : Nat), i < j → l[i]? = some s → l[j]? = some t → cmpS s t ≤ 0) ∧
  (∀ (i s : Nat), l[i]? = some s → w'.cell? ⟨g, i, none⟩ = some (.int .u64 s)) ∧ Below g w w'
set_option maxRecDepth 100000 in
set_option maxHeartbeats 1000000 in
theorem sets_of (hsort : ∀ (g N : Nat) (w : World), N ≤ 256 → Blok w g 91 (rowL N N) → Calls Try.prog 72 #[.slice (some ⟨g, 0, none⟩) N N, .func (.func 73) #[] #[]] w (SortPost g N w))
    (n : Nat) (hn : n ≤ 8) (w : World) : Calls Try.prog 60 #[.int .i64 n] w (SetsPost n w) := by
  obtain ⟨N, hN⟩ : ∃ N, N = 2 ^ n := ⟨_, rfl⟩
  have hN256 : N ≤ 256 := by rw [hN]; exact pow_le8 hn
  have hN0 : 0 < N := by rw [hN]; exact Nat.pow_pos (by omega)
  have hpw : (2 : Int) ^ n = (N : Int) := by rw [hN]; simp
  obtain ⟨i0, hi, hz0, hz1, hz2⟩ := info_parts info_set
  have hmk : ∀ w, (Instr.makeSlice 92 (.int .i64 (N : Int)) (.int .i64 (N : Int))).run Try.prog w = .ok (.slice (some ⟨w.heap.size, 0, none⟩) N N) (w.alloc (.cells (rowL N 0).toArray 91)) := fun w => by
    rw [run_make w _ _ i0 _ Try.underlying92 hi hz0 .i64 .i64 N N (by omega) (Int.le_refl _) (by rw [hz2]; omega) (by omega), hz1, Nat.mul_one, ← rowL_zero]
    rfl
  have hn0 : (0 : Int) ≤ (n : Int) := by omega
  have hn8 : (n : Int) ≤ 8 := by omega
  have HS := Lib.hid (fun g w => hsort g N w hN256)
  have HN := Lib.hid hN
  have hw64 : wrap64 ((2 : Int) ^ n) = (N : Int) := by rw [hpw]; unfold wrap64; omega
  clear hN hsort hi hz0 hz1 hz2 hpw
  go_enter Try.func60, Try.ntmps60
  go_upto_region 2 with fail
  clear hw64 hmk
  have k0 := Blok.new w 91 (rowL N 0)
  have b0 := (Below.refl w.heap.size w).alloc (Nat.le_refl _) (.cells (rowL N 0).toArray 91)
  go_wp2_with fail
  go_loopw [10] (fun i wr => ∃ k : Nat, k ≤ N ∧ i = .int .i64 k ∧ Below w.heap.size w wr ∧ Blok wr w.heap.size 91 (rowL N k)) (fun i _ => N - (intOf i).toNat)
  case atStart => exact ⟨0, by omega, rfl, b0, k0⟩
  case round =>
    clear b0 k0
    obtain ⟨k, hk, rfl, hb, hk0⟩ := hrel
    by_cases hlt : k < N
    · have q0 := hk0.cell k
      rw [rowL_at N k k hlt, if_neg (by omega)] at q0
      have f0 := hk0.free k
      have hK := hk0.put k (.int .u64 k)
      rw [rowL_set] at hK
      have HB := Lib.hid (hb.setCell (p := ⟨w.heap.size, k, none⟩) (Nat.le_refl _) (.int .u64 k))
      have HK := Lib.hid hK
      clear hb hk0 hK
      go_wp2_with fail
      go_roundw
      case rel => exact ⟨k + 1, by omega, by go_num, HB.out, HK.out⟩
      case measure => simp [intOf]; omega
    · obtain rfl : k = N := by omega
      have HB := Lib.hid hb
      have HK := Lib.hid hk0
      clear hb hk0
      go_wp2_with (go_at_call 72; (refine (HS.out _ _ HK.out).mono ?_); rintro e w3 hp; obtain ⟨rfl, l, h1, h2, h3, h4, h5, h6⟩ := hp; have HL := Lib.hid (show Sorted n l from ⟨by rw [h1, HN.out], fun s hs => h2 s (by rw [HN.out]; exact hs), fun s hs => by rw [← HN.out]; exact h3 s hs, h4⟩); have HC := Lib.hid h5; have HB3 := Lib.hid (HB.out.trans h6); have HZ := Lib.hid (Nat.lt_of_lt_of_le HK.out.size h6.size); clear h1 h2 h3 h4 h5 h6)
      go_ret
      exact ⟨l, w.heap.size, k, by rw [← HN.out]; rfl, by rw [← HN.out]; exact Nat.le_refl _, HL.out, Nat.le_refl _, HZ.out, HC.out, HB3.out⟩
end
section
open Go.RowKit Go.Shelf Go.Sort Dt

def encF (x : Fin 256) : Value := .int .u64 (x.val : Int)
theorem lt_yes {x y : Fin 256} : ltOf cmpF x y = true ↔ cmpS x.val y.val < 0 := ⟨of_decide_eq_true, decide_eq_true⟩
theorem lt_no {x y : Fin 256} : ltOf cmpF x y = false ↔ ¬ cmpS x.val y.val < 0 := ⟨of_decide_eq_false, decide_eq_false⟩
theorem swo_cmp : SWO (ltOf cmpF) := by
  refine ⟨fun x => lt_no.2 ?_, fun x y z h1 h2 => lt_yes.2 ?_, fun x y z h1 h2 => lt_no.2 ?_⟩
  · have := cmpS_neg x.val x.val
    omega
  · have h1 := lt_yes.1 h1
    have h2 := lt_yes.1 h2
    exact (cmpS_le x.val y.val z.val (by omega) (by omega)).2 (.inl h1)
  · have h1 := lt_no.1 h1
    have h2 := lt_no.1 h2
    have e1 := cmpS_neg x.val y.val
    have e2 := cmpS_neg y.val z.val
    have e3 := cmpS_neg x.val z.val
    have := (cmpS_le z.val y.val x.val (by omega) (by omega)).1
    omega
theorem cmp_lays (blk size : Nat) (w : World) : CmpLays1 Try.prog 73 #[] encF cmpF blk 0 size w := by
  intro m os dk _ x y
  refine (cmpS_any x.val y.val x.isLt y.isLt _).mono ?_
  rintro e w' ⟨rfl, hb, hd⟩
  exact ⟨rfl, grow_of_below hb hd⟩
/-- The numbers below N, as the sort sees them. -/
def allF (N : Nat) : Array (Fin 256) := ((List.range N).map fun i => Fin.ofNat 256 i).toArray
theorem allF_size (N : Nat) : (allF N).size = N := by simp [allF]
theorem allF_val (N : Nat) (hN : N ≤ 256) : (allF N).toList.map Fin.val = List.range N := by
  unfold allF
  rw [List.toList_toArray, List.map_map]
  apply List.ext_getElem?
  intro i
  rw [List.getElem?_map]
  by_cases hi : i < N
  · rw [List.getElem?_range hi]
    show some (i % 256) = some i
    rw [Nat.mod_eq_of_lt (by omega)]
  · rw [List.getElem?_eq_none (by simp; omega)]
    rfl
theorem below_sortWorld (w : World) (g m : Nat) (hg : g < w.heap.size) (d : Array (Fin 256)) (os : Array Obj) : Below g w (sortWorld encF w g 0 m d os) := by
  refine ⟨rfl, rfl, rfl, ?_, fun k hk => ?_⟩
  · unfold sortWorld
    rw [size_grow, size_putRow]
    exact Nat.le_add_right _ _
  · unfold sortWorld
    rw [heap_grow_old _ _ (by rw [size_putRow]; exact Nat.lt_trans hk hg)]
    unfold putRow mapBlock
    simp only [Array.getElem?_modify]
    rw [if_neg (by omega)]
    rfl
theorem at_val (d : Array (Fin 256)) (i s : Nat) (h : (d.toList.map Fin.val)[i]? = some s) : i < d.size ∧ d[i]!.val = s := by
  rw [List.getElem?_map, Option.map_eq_some_iff] at h
  obtain ⟨x, hx, rfl⟩ := h
  rw [Array.getElem?_toList] at hx
  obtain ⟨hi, rfl⟩ := Array.getElem?_eq_some_iff.1 hx
  exact ⟨hi, by rw [getElem!_pos d i hi]⟩
theorem sort_of (hsh : ∀ (blk cap : Nat) (d : Array (Fin 256)) (w : World), Holds encF w blk 0 d → blk < w.heap.size → d.size < 4611686018427387904 →
      Calls Try.prog 72 #[.slice (some ⟨blk, 0, none⟩) d.size cap, .func (.func 73) #[] #[]] w fun e w' =>
        e = .returned (.tuple #[]) ∧ ∃ d' n os, PermIn 0 d.size d d' ∧ SortedIn (ltOf cmpF) 0 d.size d' ∧ w' = sortWorld encF w blk 0 n d' os)
    (g N : Nat) (w : World) (hN : N ≤ 256) (hb : Blok w g 91 (rowL N N)) :
    Calls Try.prog 72 #[.slice (some ⟨g, 0, none⟩) N N, .func (.func 73) #[] #[]] w (SortPost g N w) := by
  have hh : Holds encF w g 0 (allF N) := by
    intro j hj
    rw [allF_size] at hj
    refine ⟨?_, hb.free _⟩
    rw [Nat.zero_add]
    have h1 := hb.cell j
    rw [rowL_at N N j hj, if_pos hj] at h1
    have h2 := (at_val (allF N) j j (by rw [allF_val N hN, List.getElem?_range hj])).2
    rw [h1, encF, h2]
  have h := hsh g N (allF N) w hh hb.size (by rw [allF_size]; omega)
  rw [allF_size] at h
  refine h.mono ?_
  rintro e w' ⟨rfl, d', m, os, ⟨hz, -, hp⟩, hs, rfl⟩
  rw [allF_size] at hz
  have hx : ∀ d : Array (Fin 256), d.size = N → (d.extract 0 N).toList = d.toList := fun d hd => by rw [← hd, Array.extract_size]
  rw [hx d' hz, hx _ (allF_size N)] at hp
  have hpv := hp.map Fin.val
  rw [allF_val N hN] at hpv
  refine ⟨rfl, d'.toList.map Fin.val, ?_, fun s hs => ?_, fun s hs => ?_, fun i j s t hij hi hj => ?_, fun i s hi => ?_, below_sortWorld w g m hb.size d' os⟩
  · rw [hpv.length_eq, List.length_range]
  · exact hpv.mem_iff.2 (List.mem_range.2 hs)
  · exact List.mem_range.1 (hpv.mem_iff.1 hs)
  · obtain ⟨-, rfl⟩ := at_val d' i s hi
    obtain ⟨hj', rfl⟩ := at_val d' j t hj
    have h1 := lt_no.1 (hs i j (Nat.zero_le _) hij (by rw [← hz]; exact hj'))
    have h2 := cmpS_neg d'[j]!.val d'[i]!.val
    omega
  · obtain ⟨hi', rfl⟩ := at_val d' i s hi
    unfold sortWorld
    rw [cell?_grow _ _ _ (by rw [size_putRow]; exact hb.size)]
    have h1 := cell?_putRow encF (Sort.ahead w m) g 0 (allF N) d' (holds_ahead encF w m g 0 _ hh) (by rw [hz, allF_size]) i hi'
    rw [Nat.zero_add] at h1
    exact h1
end
end Go.Proofs.Ytllkkkkladlikaa
