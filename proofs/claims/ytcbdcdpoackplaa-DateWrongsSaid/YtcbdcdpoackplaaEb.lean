/- Cut$2: may a stone be cut in a year. -/
import Derived.Test.YtcbdcdpoackplaaLx
import Derived.Deep.RegionHeld3
namespace Go.Proofs.Ytcbdcdpoackplaa
open Go.RowKit Dt

/-- What the closure reads. -/
def RegC (by_ bt bk g : Nat) (y : Int) (M : Mat) (w' : World) : Prop :=
  w'.cell? ⟨by_, 0, none⟩ = some (.int .i64 y) ∧ w'.cell? ⟨bt, 0, none⟩ = some (.func (.func 42) #[] #[.pointer (some ⟨bk, 0, none⟩)]) ∧ w'.rangeAt g 0 (cellsM M)
/-- What the closure answers. -/
def mayAt (k : Nat) (y : Int) (M : Mat) : Bool := !outB y (spanIn 0 (1 + k) M).1 (spanIn 0 (1 + k) M).2
set_option maxRecDepth 100000 in
set_option maxHeartbeats 1000000 in
theorem mayAt_any (M : Mat) (hc : Closed 10 M) (hs : Small M) (k : Nat) (hk : k < 6) (y : Int) (by_ bk bt : Nat) (w : World) (hby : Blok w by_ 3 [.int .i64 y]) (hbk : Blok w bk 3 [.int .i64 k])
    (hbt : Blok w bt 78 [.func (.func 42) #[] #[.pointer (some ⟨bk, 0, none⟩)]]) :
    Calls Try.prog 44 #[.agg (cellsM M).toArray, .pointer (some ⟨by_, 0, none⟩), .pointer (some ⟨bt, 0, none⟩)] w fun e w' => e = .returned (.bool (mayAt k y M)) ∧ Below w.heap.size w w' := by
  have hu : Try.prog.underlying 77 = some (.array 10 75) := by kernel_rfl
  have hi : (Try.prog.info? 77).map (·.size) = some (cellsM M).length := by rw [cells_len]; kernel_rfl
  obtain ⟨p, hp⟩ : ∃ p, p = spanIn 0 (1 + k) M := ⟨_, rfl⟩
  obtain ⟨r, hr⟩ : ∃ r, r = outB y p.1 p.2 := ⟨_, rfl⟩
  have hm : mayAt k y M = !r := by unfold mayAt; rw [← hp, hr]
  rw [hm]
  have hT : ∀ w', Blok w' bk 3 [.int .i64 k] → Calls Try.prog 42 #[.agg (cellsM M).toArray, .pointer (some ⟨bk, 0, none⟩)] w' fun e w'' => e = .returned (.agg #[.int .i64 p.1, .int .i64 p.2]) ∧ Below w'.heap.size w' w'' := by
    intro w' hb
    have := tells_cut M hc hs k hk bk w' hb
    unfold TellsAt at this
    rwa [← hp] at this
  have HO := Lib.hid (fun w => outside_is hr.symm w)
  have HT := Lib.hid hT
  clear hm hp hr hT
  have b0 : Below w.heap.size w (w.alloc (.cells (cellsM M).toArray 77)) := (Below.refl _ w).alloc (Nat.le_refl _) _
  have HB0 := Lib.hid b0
  have HBK := Lib.hid (hbk.alloc (.cells (cellsM M).toArray 77))
  have zk := hbk.size
  have zy := hby.size
  have zt := hbt.size
  have hny : by_ ≠ w.heap.size := by omega
  have hnt : bt ≠ w.heap.size := by omega
  go_enter Try.func44, Try.ntmps44
  go_wp2_with fail
  obtain ⟨W, hW⟩ : ∃ W, W = w.alloc (.cells (cellsM M).toArray 77) := ⟨_, rfl⟩
  have c0 : W.cell? ⟨by_, 0, none⟩ = some (.int .i64 y) := by rw [hW]; exact (hby.alloc _).cell 0
  have c1 : W.cell? ⟨bt, 0, none⟩ = some (.func (.func 42) #[] #[.pointer (some ⟨bk, 0, none⟩)]) := by rw [hW]; exact (hbt.alloc _).cell 0
  have c2 : W.rangeAt w.heap.size 0 (cellsM M) := by rw [hW]; exact ra_new _ _ rfl _ _ _
  rw [← hW] at HB0 HBK
  rw [← hW]
  have zW : w.heap.size < W.heap.size := by rw [hW]; simp
  have zyW : by_ < W.heap.size := by omega
  have ztW : bt < W.heap.size := by omega
  clear hW hbk hby hbt b0
  have HBKd := Lib.hid (show Blok W.drew bk 3 [.int .i64 k] from HBK.out)
  have hf0 : ∀ w : World, (Instr.field 39 (.agg #[.int .i64 p.1, .int .i64 p.2]) 0).run Try.prog w = .ok (.int .i64 p.1) w := fun _ => by kernel_rfl
  have hf1 : ∀ w : World, (Instr.field 39 (.agg #[.int .i64 p.1, .int .i64 p.2]) 1).run Try.prog w = .ok (.int .i64 p.2) w := fun _ => by kernel_rfl
  have hS : RegC by_ bt bk w.heap.size y M W.drew := ⟨c0, c1, c2⟩
  refine wp_region_held_drew (S := RegC by_ bt bk w.heap.size y M) (by kernel_rfl) hS (fun _ => ?_)
  refine wpAnyH_take (i := 0) (v := ?_) (by simp only [List.getElem?_toArray, List.getElem?_cons_zero]; rfl) (by kernel_rfl) (by kernel_rfl) (by kernel_rfl) (by exact fun _ _ _ h => h) (Or.inl ⟨by rfl, ?hy0⟩) hS ?rest0
  case hy0 => (intro W' hSW; obtain ⟨x1, x2, x3⟩ := hSW; go_simp; try with_reducible rfl)
  try simp only [Act.put, List.setIfInBounds_toArray, List.set_cons_zero, List.set_cons_succ]
  refine wpAnyH_take (i := 1) (v := ?_) (by simp only [List.getElem?_toArray, List.getElem?_cons_zero, List.getElem?_cons_succ]; rfl) (by kernel_rfl) (by kernel_rfl) (by kernel_rfl) (by exact fun _ _ _ h => h) (Or.inl ⟨by rfl, ?hy1⟩) hS ?rest1
  case hy1 => (intro W' hSW; obtain ⟨x1, x2, x3⟩ := hSW; go_simp; try with_reducible rfl)
  try simp only [Act.put, List.setIfInBounds_toArray, List.set_cons_zero, List.set_cons_succ]
  refine wpAnyH_take (i := 2) (v := .agg (cellsM M).toArray) (by simp only [List.getElem?_toArray, List.getElem?_cons_zero, List.getElem?_cons_succ]; rfl) (by kernel_rfl) (by kernel_rfl) (by kernel_rfl) (by exact fun _ _ _ h => h) (yieldsIf_load_mid (by rfl) 77 (.tmp 3) rfl w.heap.size 0 (by rfl) (cellsM M) (.array 10 75) (fun _ h => h.2.2) hu rfl hi) hS ?rest2
  try simp only [Act.put, List.setIfInBounds_toArray, List.set_cons_zero, List.set_cons_succ]
  refine wpAnyH_take (i := 5) (v := ?_) (by simp only [List.getElem?_toArray, List.getElem?_cons_zero, List.getElem?_cons_succ]; rfl) (by kernel_rfl) (by kernel_rfl) (by kernel_rfl) (by exact fun _ _ _ h => h) (Or.inl ⟨by rfl, ?hy5⟩) hS ?rest5
  case hy5 => (intro W' hSW; obtain ⟨x1, x2, x3⟩ := hSW; go_simp; try with_reducible rfl)
  try simp only [Act.put, List.setIfInBounds_toArray, List.set_cons_zero, List.set_cons_succ]
  refine wpAnyH_take (i := 6) (v := .agg (cellsM M).toArray) (by simp only [List.getElem?_toArray, List.getElem?_cons_zero, List.getElem?_cons_succ]; rfl) (by kernel_rfl) (by kernel_rfl) (by kernel_rfl) (by exact fun _ _ _ h => h) (yieldsIf_load_mid (by rfl) 77 (.tmp 3) rfl w.heap.size 0 (by rfl) (cellsM M) (.array 10 75) (fun _ h => h.2.2) hu rfl hi) hS ?rest6
  try simp only [Act.put, List.setIfInBounds_toArray, List.set_cons_zero, List.set_cons_succ]
  refine wpAnyH_ready (rs := [3]) (by kernel_rfl) (by simp) ?_
  refine AllReadyH.cons (by simp only [List.getElem?_toArray, List.getElem?_cons_zero, List.getElem?_cons_succ]; rfl) (fun K hK => ?_) AllReadyH.nil
  go_simp
  refine (HT.out _ HBKd.out).mono ?_
  rintro e wa ⟨rfl, hba0⟩
  have hba : Below W.heap.size W wa := ⟨hba0.os, hba0.tape, hba0.output, hba0.size, hba0.block⟩
  have hSa : RegC by_ bt bk w.heap.size y M wa := ⟨(hba.cell (p := ⟨by_, 0, none⟩) zyW).trans c0, (hba.cell (p := ⟨bt, 0, none⟩) ztW).trans c1, ra_below c2 hba zW⟩
  have HKa := Lib.hid (HBK.out.below hba HBK.out.size)
  have HBa := Lib.hid hba
  clear hba hba0
  try go_simp
  refine hK.out _ _ hSa (fun _ => ?_)
  clear hK K hS
  try simp only [Act.put, List.setIfInBounds_toArray, List.set_cons_zero, List.set_cons_succ]
  refine wpAnyH_take (i := 4) (v := ?_) (by simp only [List.getElem?_toArray, List.getElem?_cons_zero, List.getElem?_cons_succ]; rfl) (by kernel_rfl) (by kernel_rfl) (by kernel_rfl) (by exact fun _ _ _ h => h) (Or.inl ⟨by rfl, ?hy4⟩) hSa ?rest4
  case hy4 => (intro W' hSW; obtain ⟨x1, x2, x3⟩ := hSW; go_simp; try with_reducible rfl)
  try simp only [Act.put, List.setIfInBounds_toArray, List.set_cons_zero, List.set_cons_succ]
  refine wpAnyH_ready (rs := [7]) (by kernel_rfl) (by simp) ?_
  refine AllReadyH.cons (by simp only [List.getElem?_toArray, List.getElem?_cons_zero, List.getElem?_cons_succ]; rfl) (fun K hK => ?_) AllReadyH.nil
  go_simp
  refine (HT.out _ HKa.out).mono ?_
  rintro e wb ⟨rfl, hbb⟩
  have hSb : RegC by_ bt bk w.heap.size y M wb := ⟨(hbb.cell (p := ⟨by_, 0, none⟩) (Nat.lt_of_lt_of_le zyW HBa.out.size)).trans hSa.1, (hbb.cell (p := ⟨bt, 0, none⟩) (Nat.lt_of_lt_of_le ztW HBa.out.size)).trans hSa.2.1, ra_below hSa.2.2 hbb (Nat.lt_of_lt_of_le zW HBa.out.size)⟩
  have HBb := Lib.hid (HBa.out.trans (hbb.mono HBa.out.size))
  clear hbb
  try go_simp
  refine hK.out _ _ hSb (fun _ => ?_)
  clear hK K hSa
  try simp only [Act.put, List.setIfInBounds_toArray, List.set_cons_zero, List.set_cons_succ]
  refine wpAnyH_take (i := 8) (v := ?_) (by simp only [List.getElem?_toArray, List.getElem?_cons_zero, List.getElem?_cons_succ]; rfl) (by kernel_rfl) (by kernel_rfl) (by kernel_rfl) (by exact fun _ _ _ h => h) (Or.inl ⟨by rfl, ?hy8⟩) hSb ?rest8
  case hy8 => (intro W' hSW; obtain ⟨x1, x2, x3⟩ := hSW; go_simp; try with_reducible rfl)
  try simp only [Act.put, List.setIfInBounds_toArray, List.set_cons_zero, List.set_cons_succ]
  refine wpAnyH_ready (rs := [9]) (by kernel_rfl) (by simp) ?_
  refine AllReadyH.cons (by simp only [List.getElem?_toArray, List.getElem?_cons_zero, List.getElem?_cons_succ]; rfl) (fun K hK => ?_) AllReadyH.nil
  go_simp
  refine (HO.out _).mono ?_
  rintro e wo ⟨rfl, rfl⟩
  try go_simp
  refine hK.out _ _ hSb (fun _ => ?_)
  clear hK K
  try simp only [Act.put, List.setIfInBounds_toArray, List.set_cons_zero, List.set_cons_succ]
  refine wpAnyH_take (i := 10) (v := ?_) (by simp only [List.getElem?_toArray, List.getElem?_cons_zero, List.getElem?_cons_succ]; rfl) (by kernel_rfl) (by kernel_rfl) (by kernel_rfl) (by exact fun _ _ _ h => h) (Or.inl ⟨by rfl, ?hy10⟩) hSb ?rest10
  case hy10 => (intro W' hSW; obtain ⟨x1, x2, x3⟩ := hSW; go_simp; try with_reducible rfl)
  try simp only [Act.put, List.setIfInBounds_toArray, List.set_cons_zero, List.set_cons_succ]
  refine wpAnyH_take (i := 11) (v := ?_) (by simp only [List.getElem?_toArray, List.getElem?_cons_zero, List.getElem?_cons_succ]; rfl) (by kernel_rfl) (by kernel_rfl) (by kernel_rfl) (by exact fun _ _ _ h => h) (Or.inl ⟨by rfl, ?hy11⟩) hSb ?rest11
  case hy11 => (intro W' hSW; obtain ⟨x1, x2, x3⟩ := hSW; go_simp; try with_reducible rfl)
  try simp only [Act.put, List.setIfInBounds_toArray, List.set_cons_zero, List.set_cons_succ]
  refine wpAnyH_done (by kernel_rfl) ?_ _
  go_wp2_with fail
  go_ret
  exact ⟨rfl, HB0.out.trans (HBb.out.mono (Nat.le_of_lt zW))⟩
end Go.Proofs.Ytcbdcdpoackplaa
