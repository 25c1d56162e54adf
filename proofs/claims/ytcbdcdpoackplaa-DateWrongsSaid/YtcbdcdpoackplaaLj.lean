/- The iterators of ways have their contracts. -/
import Derived.Test.YtcbdcdpoackplaaLi
import Derived.RangeFuncNested
import Derived.RangeFuncBound
import Derived.RangeFuncCalls
import Derived.RangeFuncLeaves
import Derived.Shelf.Abstract
import Derived.Shelf.RegionOpen
import Derived.WalkKit
import Derived.OwnWalkIn
import Derived.TacticsInMore
import Derived.LoopNIn
import Derived.LoopIn
import Derived.Sort.LoopGhostIn
import Derived.WalkMore
namespace Go.Proofs.Ytcbdcdpoackplaa
open Go.RowKit Go.Shelf Dt

attribute [local go_sem] Oper.semAt_some
/-- A way is loaded under a name that the walk's simp does not open. -/
def ldW (v : Value) : Sem Value := Instr.loadAt 130 v
theorem ld_w (v : Value) : Instr.loadAt 130 v = ldW v := rfl
theorem run_ldW (w : World) (b : Nat) (wy : Dt.Way) (hc : Blok w b 130 (wayL wy)) : (ldW (.pointer (some ⟨b, 0, none⟩))).run Try.prog w = .ok (wayV wy) w :=
  run_loadAt_mid w b 0 _ _ _ (ra_of_row hc) Try.underlying130 rfl (by kernel_rfl)
attribute [local go_sem ↓] ld_w
set_option maxRecDepth 100000 in
set_option maxHeartbeats 1000000 in
theorem gives_just (n : Nat) (wy : Dt.Way) (c n₀ : Nat) :
    Gives Fence.wide n Try.prog 127 #[.pointer (some ⟨c, 0, none⟩)] (fun w => #[wayV w]) [wy] n₀ (fun G W => Blok W c 130 (wayL wy) ∧ ¬ G W c) := by
  rintro l G J Jx W hJ hJx ⟨hb, -⟩ hY h0
  obtain ⟨fn, tmps, assign, body, hy, hR⟩ := hY [] wy W h0 (List.prefix_refl _)
  dsimp only at hy
  have hld := run_ldW W c wy hb
  refine callsIn_of_wp Try.func127 rfl trivial ?_ rfl
  simp only [Try.ntmps127, List.size_toArray, List.length_cons, List.length_nil, Nat.reduceAdd, Nat.reduceSub, Array.replicate_succ, Array.replicate_zero, List.push_toArray, List.append_toArray, List.nil_append, List.cons_append]
  gi_wp2
  refine ⟨(fun h => by cases h), hR.mono ?_⟩
  clear hR hy hld
  rintro e W3 ⟨hr3, h3⟩
  have H3 : (e = .returned (.bool true) ∧ J [wy] W3) ∨ (e = .returned (.bool false) ∧ Jx [wy] W3) := h3
  rcases H3 with ⟨rfl, hj3⟩ | ⟨rfl, hj3⟩
  · gi_wp2
    go_end0
    exact ⟨⟨_, rfl⟩, hr3, .inl hj3⟩
  · gi_wp2
    go_end0
    exact ⟨⟨_, rfl⟩, hr3, .inr ⟨_, List.prefix_refl _, hj3⟩⟩
set_option maxRecDepth 100000 in
set_option maxHeartbeats 1000000 in
theorem gives_years (n : Nat) (d : Dat) (x : Nt) (hd : d.Ok) (hx : x.Ok d) (hk : x.kind = 1) (c n₀ : Nat) :
    Gives Fence.wide n Try.prog 122 #[.pointer (some ⟨c, 0, none⟩)] (fun w => #[wayV w]) x.ways n₀ (fun G W => (n₀ ≤ W.heap.size ∧ ∃ vy, Blok W c 120 (ntL x vy) ∧ Ints W n₀ vy x.years) ∧ ¬ G W c) := by
  rintro l G J Jx W hJ hJx ⟨⟨hn0, vy, hb, hy⟩, hg⟩ hY h0
  have hways : x.ways = x.years.map fun y => apart 0 (1 + x.stone) y y := by simp [Nt.ways, hk]
  obtain ⟨-, -, -, hl1, hl3, hyb, -⟩ := hx.years hk
  have hs := hx.stone
  have h6 := hd.stones.2
  obtain ⟨A, cp, rfl, hA⟩ := hy
  obtain ⟨m, hm⟩ : ∃ m, m = x.years.length := ⟨_, rfl⟩
  rw [← hm] at hA hl3 hl1 hb
  have HM := Lib.hid hm
  have HW := Lib.hid hways
  have HYB := Lib.hid hyb
  have HBL := Lib.hid hb
  have c1 := hb.cell 1
  have c3 := hb.cell 3
  simp [ntL] at c1 c3
  clear hm hways hyb hb
  refine callsIn_of_wp Try.func122 rfl trivial ?_ rfl
  simp only [Try.ntmps122, List.size_toArray, List.length_cons, List.length_nil, Nat.reduceAdd, Nat.reduceSub, Array.replicate_succ, Array.replicate_zero, List.push_toArray, List.append_toArray, List.nil_append, List.cons_append]
  gi_wp2
  gi_loopg [8] m (fun g i wr => ∃ j : Nat, j + g = m ∧ i = .int .i64 j ∧ J (x.ways.take j) wr ∧ Rnd n₀ G W wr)
  case atStart => exact ⟨0, by omega, rfl, h0, Rnd.refl _ _ _⟩
  case round =>
    clear c1 c3
    obtain ⟨j, hjg, rfl, hj, hr⟩ := hrel
    cases gk with
    | zero =>
      obtain rfl : j = m := by omega
      rw [List.take_of_length_le (by rw [HW.out, List.length_map, ← HM.out]; exact Nat.le_refl _)] at hj
      gi_wp2
      go_end0
      exact ⟨⟨_, rfl⟩, hr, .inl hj⟩
    | succ g =>
      have hlt : j < m := by omega
      obtain ⟨b, o, rfl, hbn, hY2⟩ := hA (by omega)
      obtain ⟨y, hy⟩ : ∃ y, x.years[j]? = some y := ⟨_, List.getElem?_eq_getElem (by rw [← HM.out]; exact hlt)⟩
      obtain ⟨y1, y2⟩ := HYB.out y (List.mem_of_getElem? hy)
      have hcy := bcell hr.below hbn (hY2 j y hy)
      have hbw : Blok wr c 120 _ := (hr.rest c HBL.out.size hg).trans HBL.out
      have c1 := hbw.cell 1
      simp [ntL] at c1
      have HYJ := Lib.hid hy
      have hs1 : (x.stone : Int) ≤ 6 := by omega
      have HA := Lib.hid (fun w => apart_is (a := 0) (ia := 0) (ib := 1 + (x.stone : Int)) rfl (show _ = ((1 + x.stone : Nat) : Int) by simp) y y (by omega) (by omega) w)
      have hw : x.ways[j]? = some (apart 0 (1 + x.stone) y y) := by rw [HW.out, List.getElem?_map, hy]; rfl
      have hsucc : x.ways.take (j + 1) = x.ways.take j ++ [apart 0 (1 + x.stone) y y] := by
        rw [List.take_add_one, hw]; rfl
      have hpre : x.ways.take j ++ [apart 0 (1 + x.stone) y y] <+: x.ways := by rw [← hsucc]; exact List.take_prefix _ _
      have HS := Lib.hid hsucc
      have HP := Lib.hid hpre
      have HR := Lib.hid hr
      have HJ := Lib.hid hj
      clear hbw hw hsucc hpre hr hj hy y1 y2 hs
      gi_wp2_with fail
      refine ⟨trivial, (fun h => by cases h), ((callsIn_wide.2 (HA.out wr))).mono ?_⟩
      rintro e w1 ⟨rfl, hb1⟩
      obtain ⟨hj1, hr1⟩ := (hJ.mono HR.out.below.size).rnd HJ.out (Nat.le_refl _) (Nat.le_trans hn0 HR.out.below.size) hb1
      obtain ⟨fn, tmps, assign, body, hy, hR⟩ := hY _ _ w1 hj1 HP.out
      have HR1 := Lib.hid (HR.out.trans hr1)
      clear hb1 hj1 hr1
      gi_wp2_with fail
      refine ⟨(fun h => by cases h), hR.mono ?_⟩
      clear hR hy
      rintro e W3 ⟨hr3, h3⟩
      have H3 : (e = .returned (.bool true) ∧ J (x.ways.take j ++ [apart 0 (1 + x.stone) y y]) W3) ∨ (e = .returned (.bool false) ∧ Jx (x.ways.take j ++ [apart 0 (1 + x.stone) y y]) W3) := h3
      have HR3 := Lib.hid (HR1.out.trans hr3)
      clear hr3 h3
      rcases H3 with ⟨rfl, hj3⟩ | ⟨rfl, hj3⟩
      · rw [← HS.out] at hj3
        have HJ3 := Lib.hid hj3
        clear hj3
        gi_wp2_with fail
        gi_roundg g
        case measure => omega
        case rel => exact ⟨j + 1, by omega, by go_num, HJ3.out, HR3.out⟩
      · have HJ3 := Lib.hid hj3
        clear hj3
        gi_wp2_with fail
        refine bodyPost_ret (results_none rfl _ _ _) rfl ?_
        exact ⟨⟨_, rfl⟩, HR3.out, .inr ⟨_, HP.out, HJ3.out⟩⟩
/-- Every iterator of ways gives them. -/
theorem gives_ways (n : Nat) (d : Dat) (hd : d.Ok) (x : Nt) (hx : x.Ok d) (gf c n₀ : Nat) (hgf : ∃ w, WayBox n₀ x gf c w) :
    Gives Fence.wide n Try.prog gf #[.pointer (some ⟨c, 0, none⟩)] (fun w => #[wayV w]) x.ways n₀ (fun G W => n₀ ≤ W.heap.size ∧ WayBox n₀ x gf c W ∧ ¬ G W c) := by
  obtain ⟨-, ⟨hk, rfl, -⟩ | ⟨hk, rfl, wy, hwy, -⟩⟩ := hgf
  · intro l G J Jx W hJ hJx hat hY h0
    obtain ⟨h1, h2, h3⟩ := hat
    refine gives_years n d x hd hx hk c n₀ l G J Jx W hJ hJx ⟨⟨h1, ?_⟩, h3⟩ hY h0
    rcases h2 with ⟨-, -, h⟩ | ⟨h, -⟩
    · exact h
    · exact absurd hk h
  · intro l G J Jx W hJ hJx hat hY h0
    obtain ⟨h1, h2, h3⟩ := hat
    rw [hwy] at hY ⊢
    refine gives_just n wy c n₀ l G J Jx W hJ hJx ⟨?_, h3⟩ hY h0
    rcases h2 with ⟨h, -⟩ | ⟨-, -, wy', h, hb⟩
    · exact absurd h hk
    · rw [hwy] at h
      injection h with h
      rw [h]
      exact hb
end Go.Proofs.Ytcbdcdpoackplaa
