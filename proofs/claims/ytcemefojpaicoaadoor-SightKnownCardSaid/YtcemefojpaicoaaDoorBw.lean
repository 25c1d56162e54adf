/- A strings.Builder at this program: what comes of it when a string is written. -/
import Derived.Test.YtcemefojpaicoaaDoorProg
import Derived.Shelf.Strings.BuilderX
import Derived.Lib.FrozenHead2
import Derived.Lib.OthersKept
import Derived.Lib.Builder
import Derived.WalkKit
import Derived.OwnWalk
import Derived.Laws.Externs
namespace Go.Proofs.YtcemefojpaicoaaDoor
open Go.RowKit Go.Shelf

theorem bld_size : ∃ j, Tryd.prog.info? 78 = some j ∧ j.size = 2 := by
  have h : (Tryd.prog.info? 78).map (·.size) = some 2 := by kernel_rfl
  exact Option.map_eq_some_iff.1 h
theorem bld_lies : liesAt Tryd.prog Tryd.prog.depth 78 (2 / Tryd.prog.cellsOf 78) 0 78 1 = true := by kernel_rfl
theorem byte_info : (Tryd.prog.info? 5).map (fun i => (i.zero, i.size, i.bytes)) = some (some (.int .u8 0), 1, 1) := by kernel_rfl

/-- What copyCheck leaves: the builder has its own address, and its bytes; the rest stands. -/
def Stamped (b : Nat) (bs : List Value) (w : World) (e : Ending) (w' : World) : Prop :=
  e = .returned (.tuple #[]) ∧ Lib.BuilderAtF 78 5 b b (.pointer (some ⟨b, 0, none⟩)) bs w' ∧ Below b w w' ∧ Lib.OthersKept 5 (some b) w w'

set_option maxRecDepth 100000 in
set_option maxHeartbeats 1000000 in
theorem stamp (b : Nat) (bs : List Value) (w : World) (h : Lib.IsBuilderF 78 5 b b bs w) :
    Calls Tryd.prog 35 #[.pointer (some ⟨b, 0, none⟩)] w (Stamped b bs w) := by
  obtain ⟨j, hj, hjs⟩ := bld_size
  have hl := bld_lies
  rcases h with h | h
  · have k0 := h.cell0
    have ks := h.shape
    have kf := h.frozen0
    have H : Stamped b bs w (.returned (.tuple #[])) (w.setCell ⟨b, 0, none⟩ (.pointer (some ⟨b, 0, none⟩))) :=
      ⟨rfl, h.used _, (Below.refl b w).setCell (p := ⟨b, 0, none⟩) (Nat.le_refl b) _, (Lib.OthersKept.refl _ _ w).setCell ⟨b, 0, none⟩ rfl _⟩
    clear h
    go_enter Tryd.func35, Tryd.ntmps35
    go_wp2
    rw [Lib.run_to_unsafe w ⟨b, 0, none⟩ Tryd.underlying75 Tryd.underlying103 hj (by rw [hjs]; decide) ks (Nat.zero_lt_succ 1)]
    simp only [Result.andThen]
    rw [Oper.upon_value]
    go_wp2
    rw [run_callFunc_extern Tryd.func42 (by kernel_rfl) (by kernel_rfl) (by kernel_rfl) (e := Extern.AbiNoEscape.same) (by kernel_rfl), Lib.run_noEscape]
    simp only [Result.andThen]
    rw [Oper.upon_value]
    go_wp2
    rw [Lib.run_from_unsafe w ⟨b, 0, none⟩ Tryd.underlying103 Tryd.underlying75 hj ks hl]
    simp only [Result.andThen]
    rw [Oper.upon_value]
    go_wp2
    go_end0
    exact H
  · have k0 := h.cell0
    have H : Stamped b bs w (.returned (.tuple #[])) w := ⟨rfl, h, Below.refl b w, Lib.OthersKept.refl _ _ w⟩
    clear h
    go_enter Tryd.func35, Tryd.ntmps35
    go_wp2
    rw [Lib.run_neq_ptr_same w _ Tryd.underlying75 hj]
    go_wp2
    go_end0
    exact H

set_option maxRecDepth 100000 in
set_option maxHeartbeats 2000000 in
theorem writeString (b : Nat) (bs : List Value) (s : ByteArray) (w : World) (h : Lib.IsBuilderF 78 5 b b bs w) (hlen : bs.length + s.size ≤ 140737488355328) :
    Calls Tryd.prog 27 #[.pointer (some ⟨b, 0, none⟩), .string s] w fun e w' =>
      e = .returned (.tuple #[.int .i64 s.size, .nilIface]) ∧ Lib.BuilderAtF 78 5 b b (.pointer (some ⟨b, 0, none⟩)) (bs ++ Lib.strCells s) w' ∧ Below b w w' ∧ Lib.OthersKept 5 (some b) w w' := by
  obtain ⟨iB, hiB, iz, isz, iby⟩ := info_parts byte_info
  go_enter Tryd.func27, Tryd.ntmps27
  go_wp2_with (go_at_call 35; refine (stamp b bs _ h).mono ?_)
  rintro e W ⟨rfl, hat, hB, hK⟩
  obtain ⟨-, buf, hbuf, hown, hsep⟩ := hat
  have hin : b < W.heap.size := (Array.getElem?_eq_some_iff.1 hbuf).1
  have k0 : W.cell? ⟨b, 0, none⟩ = some (.pointer (some ⟨b, 0, none⟩)) := by rw [Lib.cell_of_heap hbuf]; rfl
  have k1 : W.cell? ⟨b, 1, none⟩ = some buf := by rw [Lib.cell_of_heap hbuf]; rfl
  have hmax : bs.length + s.size ≤ maxLen := by unfold maxLen; omega
  go_wp2_with (at_builtin; refine Lib.wpList_append_own_stringF _ rfl _ _ 76 9 rfl b 5 iB Tryd.underlying76 Tryd.underlying9 hiB iz isz iby _ _ _ rfl hown s rfl hmax hlen (Nat.le_of_lt hin) ?_)
  intro buf' W' hown' hgrow _
  have hbuf' : W'.heap[b]? = some (.cells #[.pointer (some ⟨b, 0, none⟩), buf] 78 (0, 0)) := (hgrow.block b hin (fun e => hsep e.symm)).trans hbuf
  have m0 : W'.cell? ⟨b, 0, none⟩ = some (.pointer (some ⟨b, 0, none⟩)) := by rw [Lib.cell_of_heap hbuf']; rfl
  have m1 : W'.cell? ⟨b, 1, none⟩ = some buf := by rw [Lib.cell_of_heap hbuf']; rfl
  have mf : W'.frozen? ⟨b, 1, none⟩ = false := Lib.frozen_of_heap hbuf' 1
  have hend : Lib.BuilderAtF 78 5 b b (.pointer (some ⟨b, 0, none⟩)) (bs ++ Lib.strCells s) (W'.setCell ⟨b, 1, none⟩ buf') :=
    Lib.BuilderAtF.put (Nat.le_refl b) hbuf' (by rw [List.length_append, Lib.strCells_length]; exact hown') (by decide)
  have hkeep := (hK.grown hgrow (Lib.ownsRowF_kind hown)).setCell ⟨b, 1, none⟩ rfl buf'
  have hbelow := (hB.grown hgrow (Nat.le_of_lt hin) (fun k hk => (hown.lt k hk).1)).setCell (p := ⟨b, 1, none⟩) (Nat.le_refl b) buf'
  obtain ⟨ao, n', cap, rfl⟩ : ∃ ao n' cap, buf' = .slice ao n' cap := by
    rcases hown'.2 with ⟨hv, _⟩ | ⟨g, cap, cur, fz, hv, _⟩ <;> exact ⟨_, _, _, hv⟩
  clear hown hown' hgrow hK hB hbuf hbuf'
  go_wp2
  go_ret2
  exact ⟨rfl, hend, hbelow, hkeep⟩
end Go.Proofs.YtcemefojpaicoaaDoor
