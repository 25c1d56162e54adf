/- Row: the numbers below n, shuffled. Narrow: a span in a span. -/
import Derived.Test.YtcbdcdpoackplaaGa
namespace Go.Proofs.Ytcbdcdpoackplaa
open Go.RowKit Dt

def RowPost (g n : Nat) (w : World) (e : Ending) (w' : World) : Prop :=
  ∃ (v : Value) (l : List Nat), e = .returned v ∧ l.Perm (List.range n) ∧ w'.ownsRow w.heap.size 3 1 v n (intCells (l.map fun (x : Nat) => (x : Int))) ∧ UrnAt w' g ∧ Kg g w w'
theorem cells_nat_at (l : List Nat) (k x : Nat) (h : l[k]? = some x) : (intCells (l.map fun (x : Nat) => (x : Int)))[k]? = some (.int .i64 (x : Int)) := by simp [intCells, h]
theorem cells_nat_set (l : List Nat) (k x : Nat) : (intCells (l.map fun (x : Nat) => (x : Int))).set k (.int .i64 (x : Int)) = intCells ((l.set k x).map fun (x : Nat) => (x : Int)) := by
  simp [intCells, List.map_set]
set_option maxRecDepth 100000 in
set_option maxHeartbeats 2000000 in
theorem row_any (g n : Nat) (w : World) (hn : n ≤ 100) (hu : UrnAt w g) : Calls Try.prog 28 #[.pointer (some ⟨g, 0, none⟩), .int .i64 n] w (RowPost g n w) := by
  have HU := Lib.hid hu
  clear hu
  obtain ⟨i0, hi, hz0, hz1, hz2⟩ := info_parts info_num
  have HI := Lib.hid hi
  have HI0 := Lib.hid hz0
  have HI1 := Lib.hid hz1
  have HI2 := Lib.hid hz2
  clear hi hz0 hz1 hz2
  go_enter Try.func28, Try.ntmps28
  go_wp2_with fail
  go_loopg [5, 6] n (fun r v i wr => ∃ (k : Nat) (l : List Nat), i = .int .i64 (k : Nat) ∧ k + r = n ∧ l.Perm (List.range k) ∧ wr.ownsRow w.heap.size 3 1 v k (intCells (l.map fun (x : Nat) => (x : Int))) ∧ UrnAt wr g ∧ Kg g w wr)
  case atStart => exact ⟨0, [], rfl, by omega, List.Perm.refl _, World.ownsRow_nil _ _ _ _, HU.out, Kg.refl g w⟩
  case round =>
    obtain ⟨k, l, rfl, hkr, hp, ho, hu, hk⟩ := hrel
    obtain ⟨A, c, rfl⟩ := own_slice ho
    have HP := Lib.hid hp
    have HO := Lib.hid ho
    have HUr := Lib.hid hu
    have HK := Lib.hid hk
    have hkz := hk.size
    clear hp ho hu hk
    by_cases hlt : k < n
    · go_upto_region 6 with (at_builtin; refine wpList_append_lies _ rfl _ _ 22 rfl w.heap.size 3 i0 _ 1 8 Try.underlying22 HI.out HI0.out HI1.out HI2.out rfl (by decide) (.slice A k c) k (intCells (l.map fun (x : Nat) => (x : Int))) (by rfl) (HO.out.alloc _) ⟨wr.heap.size, 0, none⟩ 1 1 [.int .i64 k] (by rfl) (by rfl) (World.news_of_block (cs := #[.int .i64 k]) (t := 3) (fr := (0, 0)) (heap_alloc_new wr _)) (by simp [Value.oneCell']) (by omega) (by unfold maxLen; omega) (by omega) (by simp; omega) _ rfl ?_; intro g8 c8 w8 hown8 hgrow8 hat8 hlt8; have hk8 := (HK.out.alloc (.cells #[.int .i64 k] 3)).grown hgrow8 (fun j e => (HO.out.lt j e).1); have hu8 := (HUr.out.alloc (.cells #[.int .i64 k] 3)).grown hgrow8 (UrnAt.own_ne (HUr.out.alloc (.cells #[.int .i64 k] 3)) (HO.out.alloc (.cells #[.int .i64 k] 3)) (by decide)); have HO8 := Lib.hid hown8; have HK8 := Lib.hid hk8; have HU8 := Lib.hid hu8; clear hown8 hgrow8 hat8 hk8 hu8)
      go_wp2_with fail
      refine (up_any _ _ _ (by omega) HU8.out).mono ?_
      rintro e w9 ⟨q, rfl, hq, hu9, hk9⟩
      have HO9 := Lib.hid (own_kg HO8.out HU8.out (by decide) hk9)
      have HU9 := Lib.hid hu9
      have HK9 := Lib.hid (HK8.out.trans hk9)
      have hqk : q < k + 1 := by omega
      have hll : (l ++ [k]).length = k + 1 := by have := HP.out.length_eq; simp at this ⊢; exact this
      have hpp : (l ++ [k]).Perm (List.range (k + 1)) := by
        rw [List.range_succ]
        exact HP.out.append_right [k]
      have hcells : intCells (l.map fun (x : Nat) => (x : Int)) ++ [.int .i64 (k : Int)] = intCells ((l ++ [k]).map fun (x : Nat) => (x : Int)) := by simp [intCells]
      rw [hcells] at HO9
      obtain ⟨L, hL⟩ : ∃ L, L = l ++ [k] := ⟨_, rfl⟩
      rw [← hL] at HO9 hll hpp
      obtain ⟨a, ha⟩ : ∃ a, L[q]? = some a := ⟨_, List.getElem?_eq_getElem (by omega)⟩
      obtain ⟨b, hb⟩ : ∃ b, L[k]? = some b := ⟨_, List.getElem?_eq_getElem (by omega)⟩
      have ca : w9.cell? ⟨g8, q, none⟩ = some (.int .i64 a) := (HO9.out.cellAt q (by omega)).trans (cells_nat_at L q a ha)
      have cb : w9.cell? ⟨g8, k, none⟩ = some (.int .i64 b) := (HO9.out.cellAt k (by omega)).trans (cells_nat_at L k b hb)
      have fa := HO9.out.frozenAt q
      have fb := HO9.out.frozenAt k
      have hsw : ((L.set k a).set q b).Perm (List.range (k + 1)) := by
        have h1 := @List.set_set_perm Nat L k q (by omega) (by omega)
        have e1 : L[q] = a := (List.getElem?_eq_some_iff.1 ha).2
        have e2 : L[k] = b := (List.getElem?_eq_some_iff.1 hb).2
        rw [e1, e2] at h1
        exact h1.trans hpp
      have HSW := Lib.hid hsw
      have hg8 : w.heap.size ≤ g8 := (HO9.out.lt g8 rfl).1
      have hug : g ≠ g8 := by obtain ⟨x, y, h⟩ := HU9.out; exact fun e => own_ne HO9.out h (by decide) (by rw [e]; rfl)
      have hst2 := (((HO9.out.stored k (.int .i64 (a : Int))).1).stored q (.int .i64 (b : Int))).1
      rw [cells_nat_set, cells_nat_set] at hst2
      have HST := Lib.hid hst2
      clear hst2
      have hs1 := (HO9.out.stored k (.int .i64 (a : Int))).1
      obtain ⟨v', hv'⟩ : ∃ v', (w9.setCell ⟨g8, k, none⟩ (.int .i64 (a : Int))).cell? ⟨g8, q, none⟩ = some v' := by
        rw [hs1.cellAt q (by omega)]
        exact ⟨_, List.getElem?_eq_getElem (by rw [List.length_set, intCells_len, List.length_map]; omega)⟩
      have fs1 := hs1.frozenAt q
      clear hs1
      clear hsw hpp hll hcells ha hb hL hq
      go_wp2_with fail
      go_region
      have hok := HST.out.drew
      have huk := ((HU9.out.far (p := ⟨g8, k, none⟩) hug (.int .i64 (a : Int))).far (p := ⟨g8, q, none⟩) hug (.int .i64 (b : Int))).drew
      have hkk := ((HK9.out.putNew (p := ⟨g8, k, none⟩) hg8 (.int .i64 (a : Int))).putNew (p := ⟨g8, q, none⟩) hg8 (.int .i64 (b : Int))).drew
      have HOK := Lib.hid hok
      have HUK := Lib.hid huk
      have HKK := Lib.hid hkk
      clear hok huk hkk ca cb fa fb hv' fs1
      go_wp2_with fail
      go_roundg (gk - 1)
      case measure => omega
      case rel => exact ⟨k + 1, (L.set k a).set q b, by go_num, by omega, HSW.out, HOK.out, HUK.out, HKK.out⟩
    · obtain rfl : k = n := by omega
      go_wp2_with fail
      go_ret
      exact ⟨.slice A k c, l, rfl, HP.out, HO.out, HUr.out, HK.out⟩
end Go.Proofs.Ytcbdcdpoackplaa
