/- The iterators of package sight: the letters that may be in a square. -/
import Derived.Test.YtcemefojpaicoaaDoorD
import Derived.RangeFuncNested
import Derived.RangeFuncBound
import Derived.RangeFuncCalls
import Derived.RangeFuncLeaves
import Derived.Shelf.Abstract
import Derived.Shelf.RegionOpen
import Derived.OwnWalkIn
import Derived.TacticsInMore
import Derived.LoopNIn
import Derived.LoopIn
import Derived.Sort.QuietIn
namespace Go.Proofs.YtcemefojpaicoaaDoor
open Go.RowKit Go.Shelf

attribute [local go_sem] Oper.semAt_some

/-- Some blocks of the world are as they were. -/
structure Keep (p : Nat → Prop) (w w' : World) : Prop where
  os : w'.os = w.os
  tape : w'.tape = w.tape
  output : w'.output = w.output
  size : w.heap.size ≤ w'.heap.size
  block : ∀ k, p k → w'.heap[k]? = w.heap[k]?
theorem Keep.refl (p : Nat → Prop) (w : World) : Keep p w w := ⟨rfl, rfl, rfl, Nat.le_refl _, fun _ _ => rfl⟩
theorem Keep.trans {p : Nat → Prop} {a b c : World} (h : Keep p a b) (k : Keep p b c) : Keep p a c :=
  ⟨k.os.trans h.os, k.tape.trans h.tape, k.output.trans h.output, Nat.le_trans h.size k.size, fun i hi => (k.block i hi).trans (h.block i hi)⟩
theorem Keep.cell {p : Nat → Prop} {w w' : World} (h : Keep p w w') {b o : Nat} (hb : p b) : w'.cell? ⟨b, o, none⟩ = w.cell? ⟨b, o, none⟩ := by
  simp [World.cell?, h.block b hb]
theorem Keep.blok {p : Nat → Prop} {w w' : World} (h : Keep p w w') {g : Nat} {t : TypeId} {cs : List Value} (hb : Blok w g t cs) (hg : p g) : Blok w' g t cs := (h.block g hg).trans hb
theorem Keep.same {p : Nat → Prop} {w w' : World} (h : Keep p w w') {B : Nat} (hB : ∀ k, k < B → p k) : Same B w w' := fun _ _ hb => h.cell (hB _ hb)

theorem grown_box (w : World) (o : Obj) : w.grownBy (w.alloc o).drew none :=
  ⟨rfl, rfl, rfl, by show w.heap.size ≤ (w.heap.push o).size; simp, fun k hk _ => (Below.heap_alloc w o k hk)⟩
theorem grown_boxN (w : World) (o : Obj) (n : Nat) : w.grownBy ((w.alloc o).drewN n) none :=
  ⟨rfl, rfl, rfl, by show w.heap.size ≤ (w.heap.push o).size; simp, fun k hk _ => (Below.heap_alloc w o k hk)⟩
/-- A round has gone on, or has left. -/
def Went (b : Bool) (X Y : Prop) : Prop := (b = true ∧ X) ∨ (b = false ∧ Y)
theorem went_of {X Y : World → Prop} : ∀ (e : Ending) (W : World), ((e = .returned (.bool true) ∧ X W) ∨ (e = .returned (.bool false) ∧ Y W)) → ∃ bb : Bool, e = .returned (.bool bb) ∧ Went bb (X W) (Y W) := by
  rintro e W (⟨rfl, h⟩ | ⟨rfl, h⟩)
  · exact ⟨true, rfl, .inl ⟨rfl, h⟩⟩
  · exact ⟨false, rfl, .inr ⟨rfl, h⟩⟩
theorem Keep.sameP {p : Nat → Prop} {w w' : World} (h : Keep p w w') {P : Nat → Prop} (hP : ∀ k, P k → p k) : SameP P w w' := fun _ _ hb => h.cell (hP _ hb)
def letF (n : Nat) : Fin 256 := if h : n < 256 then ⟨n, h⟩ else 0
theorem letF_lt (n : Nat) (h : n < 256) : letF n = ⟨n, h⟩ := dif_pos h
/-- The letters that may be in a square with at most so many marks, as far as k letters of the hand were looked at. -/
def Cutter.upto (c : Cutter) (q most k : Nat) : List (Fin 256) := (List.range k).filterMap fun i => if c.need q i ≤ most then some (letF (c.shapes.getD i ⟨0, 0⟩).letter) else none
def Cutter.choices (c : Cutter) (q most : Nat) : List (Fin 256) := c.upto q most c.shapes.length
theorem Cutter.upto_yes (c : Cutter) (q most k : Nat) (s : Shape) (hs : c.shapes[k]? = some s) (h : c.need q k ≤ most) : c.upto q most (k + 1) = c.upto q most k ++ [letF s.letter] := by
  unfold Cutter.upto
  rw [List.range_succ, List.filterMap_append]
  simp [h, List.getD, hs]
theorem Cutter.upto_no (c : Cutter) (q most k : Nat) (h : ¬ c.need q k ≤ most) : c.upto q most (k + 1) = c.upto q most k := by
  unfold Cutter.upto
  rw [List.range_succ, List.filterMap_append]
  simp [h]
theorem Cutter.upto_len (c : Cutter) (q most k : Nat) : (c.upto q most k).length ≤ k := by
  have := List.length_filterMap_le (fun i => if c.need q i ≤ most then some (letF (c.shapes.getD i ⟨0, 0⟩).letter) else none) (List.range k)
  simpa [Cutter.upto] using this

theorem Cutter.upto_pre (c : Cutter) (q most : Nat) {j k : Nat} (h : j ≤ k) : c.upto q most j <+: c.upto q most k := by
  unfold Cutter.upto
  obtain ⟨r, hr⟩ : List.range j <+: List.range k := by
    refine ⟨(List.range k).drop j, ?_⟩
    have := List.take_append_drop j (List.range k)
    rwa [List.take_range, Nat.min_eq_left h] at this
  rw [← hr, List.filterMap_append]
  exact List.prefix_append _ _
theorem Keep.box (p : Nat → Prop) (w : World) (hp : ∀ k, p k → k < w.heap.size) (o : Obj) : Keep p w (w.alloc o).drew :=
  ⟨rfl, rfl, rfl, by show w.heap.size ≤ (w.heap.push o).size; simp, fun k hk => Below.heap_alloc w o k (hp k hk)⟩

theorem Keep.boxN (p : Nat → Prop) (w : World) (hp : ∀ k, p k → k < w.heap.size) (o : Obj) (n : Nat) : Keep p w ((w.alloc o).drewN n) :=
  ⟨rfl, rfl, rfl, by show w.heap.size ≤ (w.heap.push o).size; simp, fun k hk => Below.heap_alloc w o k (hp k hk)⟩

/-- What the iterator of a square's letters has captured. -/
structure ChoiceBox (w : World) (P : Nat → Prop) (m : Nat) (c : Cutter) (q most B : Nat) (sv : Value) (N : List Value) : Prop where
  cut : Blok w B 72 (sv :: N)
  shapes : ShapesP w P sv c.shapes
  need : NeedCells c m N
  square : Blok w (B + 1) 3 [.int .i64 q]
  most : Blok w (B + 1 + 1) 3 [.int .i64 most]
theorem ChoiceBox.keep {w w' : World} {p : Nat → Prop} {P : Nat → Prop} {m : Nat} {c : Cutter} {q most B : Nat} {sv : Value} {N : List Value} (h : ChoiceBox w P m c q most B sv N) (hk : Keep p w w') (h0 : ∀ k, P k → p k) (h1 : p B) (h2 : p (B + 1)) (h3 : p (B + 1 + 1)) : ChoiceBox w' P m c q most B sv N := by
  obtain ⟨a1, a2, a3, a4, a5⟩ := h
  exact ⟨hk.blok a1 h1, a2.keep (hk.sameP h0) (fun _ h => h), a3, hk.blok a4 h2, hk.blok a5 h3⟩

set_option maxRecDepth 100000 in
set_option maxHeartbeats 1000000 in
theorem choices1_in (n : Nat) (hn : 1 ≤ n) (l m B : Nat) (P : Nat → Prop) (c : Cutter) (q most : Nat) (sv : Value) (N : List Value) (p : Nat → Prop) (hc : c.ok) (hq : q < m) (hm : m ≤ 8) (h0 : ∀ k, P k → p k) (h1 : p B) (h2 : p (B + 1)) (h3 : p (B + 1 + 1))
    (J Jx : List (Fin 256) → World → Prop)
    (hY : ∀ pre x W, J pre W → pre.length < c.shapes.length → YieldAt Fence.wide (n - 1) Tryd.prog l #[.int .u8 x.val] W fun e W' =>
      (e = .returned (.bool true) ∧ J (pre ++ [x]) W' ∧ Keep p W W') ∨ (e = .returned (.bool false) ∧ Jx (pre ++ [x]) W'))
    (W : World) (hJ : AbidesFrom W.heap.size J) (hp : ∀ k, p k → k < W.heap.size) (hbox : ChoiceBox W P m c q most B sv N) (hJ0 : J [] W) :
    CallsIn Fence.wide n Tryd.prog 44 #[.func (.yield l) #[] #[], .pointer (some ⟨B, 0, none⟩), .pointer (some ⟨B + 1, 0, none⟩), .pointer (some ⟨B + 1 + 1, 0, none⟩)] W fun e W' => (∃ v, e = .returned v) ∧
      ((∃ ys, ys = c.choices q most ∧ J ys W') ∨ (∃ pre, pre <+: c.choices q most ∧ Jx pre W')) := by
  obtain ⟨k, hk⟩ : ∃ k, k = c.shapes.length := ⟨_, rfl⟩
  have hk8 : k ≤ 8 := by rw [hk]; exact hc.2.1
  have HK := Lib.hid hk
  have hbox0 := hbox
  obtain ⟨a1, a2, -, -, -⟩ := hbox
  obtain ⟨A, cp, rfl, -⟩ := a2
  rw [← hk] at a1 hbox0
  have c0 : W.cell? ⟨B, 0, none⟩ = some (.slice A k cp) := a1.cell 0
  clear hk a1
  refine callsIn_of_wp Tryd.func44 rfl trivial ?_ rfl
  simp only [Tryd.ntmps44, List.size_toArray, List.length_cons, List.length_nil, Nat.reduceAdd, Nat.reduceSub, Array.replicate_succ, Array.replicate_zero, List.push_toArray, List.append_toArray, List.nil_append, List.cons_append]
  gi_wp2
  gi_loopw [10] (fun i wr => ∃ j : Nat, j ≤ k ∧ i = .int .i64 j ∧ ChoiceBox wr P m c q most B (.slice A k cp) N ∧ J (c.upto q most j) wr ∧ W.heap.size ≤ wr.heap.size) (fun i _ => k - (intOf i).toNat)
  case atStart => exact ⟨0, by omega, rfl, hbox0, hJ0, Nat.le_refl _⟩
  case round =>
    clear c0
    obtain ⟨j, hj, rfl, hb, hJ1, hsz⟩ := hrel
    by_cases hlt : j < k
    · have HB := Lib.hid hb
      obtain ⟨a1, a2, a3, a4, a5⟩ := hb
      obtain ⟨A', cp', e, hA⟩ := a2
      have hjS : j < c.shapes.length := by rw [← HK.out]; exact hlt
      obtain ⟨b, o, rfl, hB, hR⟩ := hA (by omega)
      injection e with e1 e2 e3
      subst e1
      clear e2 e3 hA
      obtain ⟨s, hs⟩ : ∃ s, c.shapes[j]? = some s := ⟨_, List.getElem?_eq_getElem hjS⟩
      obtain ⟨d1, d2⟩ := hR j s hs
      have g1 : wr.cell? ⟨B + 1, 0, none⟩ = some (.int .i64 q) := a4.cell 0
      have g2 : wr.cell? ⟨B + 1 + 1, 0, none⟩ = some (.int .i64 most) := a5.cell 0
      have g3 : wr.cell? ⟨B, 1 + q * 8 + j, none⟩ = some (.int .i64 (c.need q j)) := by
        rw [a1.cell, show 1 + q * 8 + j = (q * 8 + j) + 1 by omega, List.getElem?_cons_succ]
        exact a3.2.2 q j hq hjS
      have z1 := a5.size
      have z2 := a4.size
      have z3 := a1.size
      have q0 : (0 : Int) ≤ q := by omega
      have q1 : (q : Int) < 8 := by omega
      have j0 : (0 : Int) ≤ j := by omega
      have j1 : (j : Int) < 8 := by omega
      have HS := Lib.hid hs
      clear a1 a3 a4 a5 hR hs
      by_cases hle : c.need q j ≤ most
      · have hso := hc.2.2.1 s (List.mem_of_getElem? HS.out)
        have hl : s.letter < 256 := by have := hso.2.1; omega
        have hlen : (c.upto q most j).length < c.shapes.length := Nat.lt_of_le_of_lt (c.upto_len q most j) hjS
        have hJ2 : J (c.upto q most j) (wr.alloc (.cells #[.int .u8 s.letter, .int .i64 s.strokes] 31)).drew := hJ _ _ _ none hJ1 (grown_box _ _) (fun r e => by cases e)
        obtain ⟨fn, tmps, assign, body, hy, hR⟩ := hY _ ⟨s.letter, hl⟩ _ hJ2 hlen
        dsimp only at hy
        clear hso hJ1 hJ2 hlen hY
        gi_wp2_with fail
        have hR' := hR.mono (R' := fun e W' => ∃ bb : Bool, e = .returned (.bool bb) ∧ Went bb (J (c.upto q most j ++ [⟨s.letter, hl⟩]) W' ∧ Keep p (wr.alloc (.cells #[.int .u8 s.letter, .int .i64 s.strokes] 31)).drew W') (Jx (c.upto q most j ++ [⟨s.letter, hl⟩]) W')) (went_of (X := fun W' => J (c.upto q most j ++ [⟨s.letter, hl⟩]) W' ∧ Keep p (wr.alloc (.cells #[.int .u8 s.letter, .int .i64 s.strokes] 31)).drew W') (Y := fun W' => Jx (c.upto q most j ++ [⟨s.letter, hl⟩]) W'))
        clear hR
        have hpre : c.upto q most (j + 1) <+: c.choices q most := c.upto_pre q most (by omega)
        rw [c.upto_yes q most j s HS.out hle, letF_lt s.letter hl] at hpre
        have hup : J (c.upto q most j ++ [⟨s.letter, hl⟩]) = J (c.upto q most (j + 1)) := by rw [c.upto_yes q most j s HS.out hle, letF_lt s.letter hl]
        have HU := Lib.hid hup
        clear hup
        gi_region_with (refine hR'.mono ?_; rintro e W3 ⟨bb, rfl, hw3⟩)
        all_goals
          rcases hw3 with ⟨rfl, hJ3, hk3⟩ | ⟨rfl, hJx3⟩
          · rw [HU.out] at hJ3
            have HB3 := Lib.hid (HB.out.keep ((Keep.box p wr (fun k hk => Nat.lt_of_lt_of_le (hp k hk) hsz) _).trans hk3) h0 h1 h2 h3)
            have HJ3 := Lib.hid hJ3
            have hs3 : W.heap.size ≤ W3.heap.size := by have := hk3.size; simp at this; omega
            clear hJ3 hk3 HB hpre
            gi_wp2
            go_roundw
            case rel => exact ⟨j + 1, by omega, by go_num, HB3.out, HJ3.out, hs3⟩
            case measure => simp [intOf]; omega
          · gi_wp2
            refine bodyPost_ret (results_none rfl _ _ _) rfl ?_
            exact ⟨⟨_, rfl⟩, .inr ⟨_, hpre, hJx3⟩⟩
      · have hd : decide (c.need q j ≤ most) = false := by simpa using hle
        have hup := c.upto_no q most j hle
        have HU := Lib.hid hup
        have hJ3 : ∀ nq, J (c.upto q most j) ((wr.alloc (.cells #[.int .u8 s.letter, .int .i64 s.strokes] 31)).drewN nq) := fun nq => hJ _ _ _ none hJ1 (grown_boxN _ _ _) (fun r e => by cases e)
        have HJ3 := Lib.hid hJ3
        have HB3 := Lib.hid (fun nq => HB.out.keep (Keep.boxN p wr (fun k hk => Nat.lt_of_lt_of_le (hp k hk) hsz) (.cells #[.int .u8 s.letter, .int .i64 s.strokes] 31) nq) h0 h1 h2 h3)
        clear hup hJ1 hJ3 hY HB
        gi_wp2_with fail
        refine wpIn_region_quiet_lit rfl (by kernel_rfl) (by kernel_rfl) ?_
        repeat (gi_big_quiet_step (fail))
        refine BigFrame.wpQuietIn_skip (fun _ _ _ _ => trivial) rfl ?_
        simp only [Act.put, List.setIfInBounds_toArray, List.set_cons_succ, List.set_cons_zero]
        repeat (gi_big_quiet_step (fail))
        refine wpQuietIn_nil ?_
        intro _ hw'
        obtain ⟨nq, hw''⟩ := hw'
        subst hw''
        all_goals
          gi_wp2
          go_roundw
          case rel => exact ⟨j + 1, by omega, by go_num, HB3.out _, by rw [HU.out]; exact HJ3.out _, by simp; omega⟩
          case measure => simp [intOf]; omega
    · obtain rfl : j = k := by omega
      rw [HK.out] at hJ1
      gi_wp2
      go_end0
      exact ⟨⟨_, rfl⟩, .inl ⟨_, rfl, hJ1⟩⟩
/-- What (cutter).choices hands back, as an iterator. -/
theorem choices_stops (n : Nat) (hn : 1 ≤ n) (m B : Nat) (P : Nat → Prop) (c : Cutter) (q most : Nat) (sv : Value) (N : List Value) (p : Nat → Prop) (hc : c.ok) (hq : q < m) (hm : m ≤ 8) (h0 : ∀ k, P k → p k) (h1 : p B) (h2 : p (B + 1)) (h3 : p (B + 1 + 1))
    (w : World) (hp : ∀ k, p k → k < w.heap.size) (hbox : ChoiceBox w P m c q most B sv N) :
    SeqStopsK Fence.wide n Tryd.prog 44 #[.pointer (some ⟨B, 0, none⟩), .pointer (some ⟨B + 1, 0, none⟩), .pointer (some ⟨B + 1 + 1, 0, none⟩)] (fun x : Fin 256 => #[.int .u8 x.val]) (Keep p)
      (fun ys => ys = c.choices q most) (fun pre => pre <+: c.choices q most) c.shapes.length w := fun l J Jx W hW hJ _ hY hj =>
  choices1_in n hn l m B P c q most sv N p hc hq hm h0 h1 h2 h3 J Jx hY W hJ (fun k hk => Nat.lt_of_lt_of_le (hp k hk) hW.size)
    (hbox.keep (p := p) ⟨hW.os, hW.tape, hW.output, hW.size, fun k hk => hW.block k (hp k hk)⟩ h0 h1 h2 h3) hj

set_option maxHeartbeats 400000 in
/-- (cutter).choices: an iterator. -/
theorem choices_any (v : Value) (cs : List Value) (hv : v = .agg cs.toArray) (q most : Nat) (w : World) :
    Calls Tryd.prog 37 #[v, .int .i64 q, .int .i64 most] w fun e w' =>
      e = .returned (.func (.func 44) #[] #[.pointer (some ⟨w.heap.size, 0, none⟩), .pointer (some ⟨w.heap.size + 1, 0, none⟩), .pointer (some ⟨w.heap.size + 1 + 1, 0, none⟩)]) ∧
      w' = ((w.alloc (.cells cs.toArray 72)).alloc (.cells #[.int .i64 q] 3)).alloc (.cells #[.int .i64 most] 3) := by
  subst hv
  go_enter Tryd.func37, Tryd.ntmps37
  go_wp2
  go_ret
  exact ⟨rfl, rfl⟩
end Go.Proofs.YtcemefojpaicoaaDoor
