/- Row: the numbers from 0 up to, but without, n in some order. -/
import Derived.Test.YtmoohefoilaigaaHo
import Derived.Deep.AppendLies
namespace Go.Proofs.Ytmoohefoilaigaa
open Go.RowKit Go.Shelf

theorem swap_perm (l : List Nat) (i k a b : Nat) (hi : l[i]? = some a) (hk : l[k]? = some b) : ((l.set i b).set k a).Perm l := by
  obtain ⟨h1, rfl⟩ := List.getElem?_eq_some_iff.1 hi
  obtain ⟨h2, rfl⟩ := List.getElem?_eq_some_iff.1 hk
  have h := Array.swap_perm (xs := l.toArray) (i := i) (j := k) (by simpa using h1) (by simpa using h2)
  rw [Array.perm_iff_toList_perm] at h
  simpa [Array.toList_swap] using h
def ns (l : List Nat) : List Value := l.map fun (x : Nat) => Value.int .i64 x
theorem ns_get {l : List Nat} {k x : Nat} (h : l[k]? = some x) : (ns l)[k]? = some (.int .i64 x) := by simp [ns, h]
theorem ns_set (l : List Nat) (k x : Nat) : ns (l.set k x) = (ns l).set k (.int .i64 x) := by simp [ns, List.map_set]
theorem ns_snoc (l : List Nat) (x : Nat) : ns (l ++ [x]) = ns l ++ [.int .i64 x] := by simp [ns]
def RowPost (g n : Nat) (w : World) (e : Ending) (w' : World) : Prop :=
  ∃ (v : Value) (ps : List Nat), e = .returned v ∧ ps.Perm (List.range n) ∧ w'.ownsRow w.heap.size 3 1 v n (ns ps) ∧ UrnAt w' g ∧ Kg g w w'
theorem info_int' : (Try.prog.info? 3).map (fun i => (i.zero, i.size, i.bytes)) = some (some (.int .i64 0), 1, 8) := by kernel_rfl
theorem row_urn {w : World} {g base gg cap n : Nat} {xs : List Value} (h : UrnAt w g) (ho : w.ownsRow base 3 1 (.slice (some ⟨gg, 0, none⟩) n cap) n xs) (i j : Nat) (u v : Value) : UrnAt ((w.drew.setCell ⟨gg, i, none⟩ u).setCell ⟨gg, j, none⟩ v) g := by
  have hne : g ≠ gg := fun e => h.own_ne ho (by decide) (by rw [e]; rfl)
  exact (UrnAt.far (w := w.drew) (p := ⟨gg, i, none⟩) h hne u).far (p := ⟨gg, j, none⟩) hne v
theorem row_kg {w w' : World} {g gg cap n : Nat} {xs : List Value} (h : Kg g w w') (ho : w'.ownsRow w.heap.size 3 1 (.slice (some ⟨gg, 0, none⟩) n cap) n xs) (i j : Nat) (u v : Value) : Kg g w ((w'.drew.setCell ⟨gg, i, none⟩ u).setCell ⟨gg, j, none⟩ v) := by
  have hle := (ho.lt gg rfl).1
  exact (h.drew.putNew (p := ⟨gg, i, none⟩) hle u).putNew (p := ⟨gg, j, none⟩) hle v
set_option maxRecDepth 100000 in
set_option maxHeartbeats 1000000 in
theorem row_any (g n : Nat) (w : World) (hn : n ≤ 1000) (hu : UrnAt w g) : Calls Try.prog 45 #[.pointer (some ⟨g, 0, none⟩), .int .i64 n] w (RowPost g n w) := by
  have HU0 := Lib.hid hu
  have hgw := hu.size
  obtain ⟨i0, hi, hz0, hz1, hz2⟩ := info_parts info_int'
  have HI := Lib.hid hi
  have HZ0 := Lib.hid hz0
  have HZ1 := Lib.hid hz1
  have HZ2 := Lib.hid hz2
  clear hu hi hz0 hz1 hz2
  go_enter Try.func45, Try.ntmps45
  go_wp2
  go_loopw [5, 6] (fun l i wr => ∃ (k : Nat) (ps : List Nat), k ≤ n ∧ i = .int .i64 k ∧ ps.Perm (List.range k) ∧ wr.ownsRow w.heap.size 3 1 l k (ns ps) ∧ UrnAt wr g ∧ Kg g w wr) (fun _ i _ => n - (intOf i).toNat)
  case atStart => exact ⟨0, [], by omega, rfl, List.Perm.refl _, World.ownsRow_nil _ _ _ _, HU0.out, Kg.refl g w⟩
  case round =>
    obtain ⟨k, ps, hk, rfl, hp, hown, hu, hkg⟩ := hrel
    obtain ⟨A, cA, rfl⟩ := own_slice hown
    have HO := Lib.hid hown
    have HU := Lib.hid hu
    have HK := Lib.hid hkg
    have HP := Lib.hid hp
    have hsz := hkg.size
    clear hown hu hkg hp HU0
    by_cases hlt : k < n
    · go_wp2_with (at_builtin; refine wpList_append_lies _ rfl _ _ 28 rfl w.heap.size 3 i0 _ 1 8 Try.underlying28 HI.out HZ0.out HZ1.out HZ2.out rfl (by decide) (.slice A k cA) k (ns ps) (by rfl) (HO.out.alloc _) ⟨wr.heap.size, 0, none⟩ 1 1 [.int .i64 k] (by rfl) (by rfl) (cell_one_new _ _ _) (by simp [Value.oneCell']) (by omega) (by unfold maxLen; omega) (by omega) (by simp; omega) _ rfl ?_; intro gg cap w5 hown5 hgrow hat hlt5)
      have hu5 := (HU.out.alloc (.cells #[.int .i64 k] 3)).grown hgrow (HU.out.own_ne HO.out (by decide))
      have hk5 := (HK.out.alloc (.cells #[.int .i64 k] 3)).grown hgrow fun j e => (HO.out.lt j e).1
      have HU5 := Lib.hid hu5
      have HK5 := Lib.hid hk5
      have HO5 := Lib.hid hown5
      have hz5 := hk5.size
      clear hu5 hk5 hown5 hgrow hat HU HK HO hsz
      go_wp2_with fail
      refine (up_any _ _ _ (by omega) HU5.out).mono ?_
      rintro e w6 ⟨r, rfl, hr, hu6, hk6⟩
      have HU6 := Lib.hid hu6
      have HK6 := Lib.hid (HK5.out.trans hk6)
      have ho6 := own_kg HO5.out HU5.out (by decide) hk6
      have hrk : r ≤ k := by omega
      have hlen : ps.length = k := by have := HP.out.length_eq; simpa using this
      obtain ⟨a, ha⟩ : ∃ a, (ps ++ [k])[k]? = some a := ⟨_, List.getElem?_eq_getElem (by simp; omega)⟩
      obtain ⟨b, hb⟩ : ∃ b, (ps ++ [k])[r]? = some b := ⟨_, List.getElem?_eq_getElem (by simp; omega)⟩
      rw [← ns_snoc] at ho6
      have cA : w6.cell? ⟨gg, k, none⟩ = some (.int .i64 a) := (ho6.cellAt k (by omega)).trans (ns_get ha)
      have cB : w6.cell? ⟨gg, r, none⟩ = some (.int .i64 b) := (ho6.cellAt r (by omega)).trans (ns_get hb)
      have fA := ho6.frozenAt k
      have fB := ho6.frozenAt r
      have ho6' := (ho6.stored k (.int .i64 b)).1
      rw [← ns_set] at ho6'
      have hsr : ((ps ++ [k]).set k b)[r]? = some b := by
        rw [List.getElem?_set]
        by_cases e : k = r
        · subst e
          rw [if_pos rfl, if_pos (by simp; omega)]
        · rw [if_neg e, hb]
      have cC : (w6.setCell ⟨gg, k, none⟩ (.int .i64 b)).cell? ⟨gg, r, none⟩ = some (.int .i64 b) := (ho6'.cellAt r (by omega)).trans (ns_get hsr)
      have fC := ho6'.frozenAt r
      clear hsr ho6'
      have ho7 := ((ho6.stored k (.int .i64 b)).1.stored r (.int .i64 a)).1
      rw [← ns_set, ← ns_set] at ho7
      have hpp := swap_perm _ _ _ _ _ ha hb
      have HO7 := Lib.hid ho7
      have HPP := Lib.hid hpp
      have HO6 := Lib.hid ho6
      clear ho7 hpp ho6 ha hb hr hu6 hk6
      have b1 : (0 : Int) ≤ (k : Int) := by omega
      have b2 : (k : Int) < (k : Int) + 1 := by omega
      have b3 : (0 : Int) ≤ (r : Int) := by omega
      have b4 : (r : Int) < (k : Int) + 1 := by omega
      go_wp2_with fail
      go_region
      all_goals
        go_wp2
        go_roundw
        case rel => exact ⟨k + 1, ((ps ++ [k]).set k b).set r a, by omega, by go_num, HPP.out.trans (by rw [List.range_succ]; exact HP.out.append (List.Perm.refl _)), HO7.out, row_urn HU6.out HO6.out _ _ _ _, row_kg HK6.out HO6.out _ _ _ _⟩
        case measure => simp [intOf]; omega
    · obtain rfl : k = n := by omega
      go_wp2
      go_ret
      exact ⟨_, ps, rfl, HP.out, HO.out, HU.out, HK.out⟩
end Go.Proofs.Ytmoohefoilaigaa
