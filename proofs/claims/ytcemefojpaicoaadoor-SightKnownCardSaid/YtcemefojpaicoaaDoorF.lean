/- The iterator of the hands that fit. -/
import Derived.Test.YtcemefojpaicoaaDoorE
import Derived.Deep.LoopGhost
import Derived.Sort.LoopGhostIn
import Derived.WalkMore
import Derived.Deep.WholeRow
namespace Go.Proofs.YtcemefojpaicoaaDoor
open Go.RowKit Go.Shelf

attribute [local go_sem] Oper.semAt_some

theorem scope_wide {n : Nat} {P : Program} {c : Code} {Q : Exit → Act → World → Prop} {a : Act} {w : World} (h : c.wpIn Fence.wide n P (Exit.noGoto Q) a w) : (Code.scope c).wpIn Fence.wide n P Q a w :=
  wpIn_wide.2 (wp_scope_straight (wpIn_wide.1 h))

/-- How many marks the squares below k need. -/
def Cutter.sum (c : Cutter) (k : Nat) : Nat := ((List.range k).map c.fewest).sum
theorem Cutter.sum_succ (c : Cutter) (k : Nat) : c.sum (k + 1) = c.sum k + c.fewest k := by simp [Cutter.sum, List.range_succ]
theorem Cutter.sum_mono (c : Cutter) {j k : Nat} (h : j ≤ k) : c.sum j ≤ c.sum k := by
  induction k with
  | zero => rw [Nat.le_zero.1 h]; exact Nat.le_refl _
  | succ k ih =>
    rcases Nat.lt_or_ge j (k + 1) with h1 | h1
    · exact Nat.le_trans (ih (by omega)) (by rw [c.sum_succ]; omega)
    · rw [show j = k + 1 by omega]; exact Nat.le_refl _
theorem Cutter.sum_le (c : Cutter) (k : Nat) : c.sum k ≤ 81 * k := by
  induction k with
  | zero => simp [Cutter.sum]
  | succ k ih => rw [c.sum_succ]; have := c.fewest_le k; omega

/-- A hand that fits, by its number, and what is left of Total. -/
abbrev Fit (cs : List Cutter) (m T : Nat) := { x : Nat × Nat // ∃ c, cs[x.1]? = some c ∧ c.sum m + x.2 = T }
def fitAt (cs : List Cutter) (m T i : Nat) : Option (Fit cs m T) :=
  match h : cs[i]? with
  | none => none
  | some c => if h2 : c.sum m ≤ T then some ⟨(i, T - c.sum m), c, h, by omega⟩ else none
theorem fitAt_yes (cs : List Cutter) (m T i : Nat) (c : Cutter) (h : cs[i]? = some c) (h2 : c.sum m ≤ T) : fitAt cs m T i = some ⟨(i, T - c.sum m), c, h, by omega⟩ := by
  unfold fitAt
  split
  · rename_i h'; rw [h] at h'; cases h'
  · rename_i c' h'
    rw [h] at h'
    injection h' with h'
    subst h'
    rw [dif_pos h2]
theorem fitAt_no (cs : List Cutter) (m T i : Nat) (c : Cutter) (h : cs[i]? = some c) (h2 : ¬ c.sum m ≤ T) : fitAt cs m T i = none := by
  unfold fitAt
  split
  · rfl
  · rename_i c' h'
    rw [h] at h'
    injection h' with h'
    subst h'
    rw [dif_neg h2]
def fitsTo (cs : List Cutter) (m T k : Nat) : List (Fit cs m T) := (List.range k).filterMap (fitAt cs m T)
def fits (cs : List Cutter) (m T : Nat) : List (Fit cs m T) := fitsTo cs m T cs.length
theorem fitsTo_succ (cs : List Cutter) (m T k : Nat) : fitsTo cs m T (k + 1) = fitsTo cs m T k ++ (fitAt cs m T k).toList := by
  unfold fitsTo
  rw [List.range_succ, List.filterMap_append]
  cases h : fitAt cs m T k <;> simp [h]
theorem fitsTo_len (cs : List Cutter) (m T k : Nat) : (fitsTo cs m T k).length ≤ k := by
  have := List.length_filterMap_le (fitAt cs m T) (List.range k)
  simpa [fitsTo] using this
theorem fitsTo_pre (cs : List Cutter) (m T : Nat) {j k : Nat} (h : j ≤ k) : fitsTo cs m T j <+: fitsTo cs m T k := by
  unfold fitsTo
  obtain ⟨r, hr⟩ : List.range j <+: List.range k := by
    refine ⟨(List.range k).drop j, ?_⟩
    have := List.take_append_drop j (List.range k)
    rwa [List.take_range, Nat.min_eq_left h] at this
  rw [← hr, List.filterMap_append]
  exact List.prefix_append _ _

/-- What the iterator of the hands has captured: the box of the cutters, and that of the line. -/
structure FitBox (w : World) (P : Nat → Prop) (m : Nat) (cs : List Cutter) (lv : List Value) (cv : Value) (B : Nat) : Prop where
  line : Blok w B 25 lv
  cuts : Blok w (B + 1) 65 [cv]
  mem : Cuts w P m cv cs
theorem FitBox.keep {w w' : World} {p : Nat → Prop} {P : Nat → Prop} {m : Nat} {cs : List Cutter} {lv : List Value} {cv : Value} {B : Nat} (h : FitBox w P m cs lv cv B) (hk : Keep p w w') (h0 : ∀ k, P k → p k) (h1 : p B) (h2 : p (B + 1)) : FitBox w' P m cs lv cv B :=
  ⟨hk.blok h.line h1, hk.blok h.cuts h2, h.mem.keep (hk.sameP h0) (fun _ h => h)⟩

/-- A whole cutter is loaded, and stored, under names that the walk's simp does not open. -/
def ldCut (v : Value) : Sem Value := Instr.loadAt 72 v
theorem ld_cut (v : Value) : Instr.loadAt 72 v = ldCut v := rfl
theorem run_ldCut (w : World) (b o : Nat) (cs : List Value) (hc : w.rangeAt b o cs) (hl : cs.length = 65) : (ldCut (.pointer (some ⟨b, o, none⟩))).run Tryd.prog w = .ok (.agg cs.toArray) w :=
  run_loadAt_mid w b o _ cs _ hc Tryd.underlying72 rfl (by rw [hl]; kernel_rfl)
def stCut (v u : Value) : Sem Unit := Instr.storeAt 72 v u
theorem st_cut (v u : Value) : Instr.storeAt 72 v u = stCut v u := rfl
theorem size_zeros : Tryd.zeroCells72.size = 65 := by kernel_rfl
theorem run_stCut (w : World) (cs : List Value) (hl : cs.length = 65) (h1 : ∀ u ∈ cs, u.oneCell' = true) :
    (stCut (.pointer (some ⟨w.heap.size, 0, none⟩)) (.agg cs.toArray)).run Tryd.prog (w.alloc (.cells Tryd.zeroCells72 72)) = .ok () (w.alloc (.cells cs.toArray 72)) :=
  run_storeAt_new w _ _ _ (by rw [List.size_toArray, hl]; kernel_rfl) (size_zeros.trans (by rw [List.size_toArray, hl])) (all_oneCell_toArray h1)
attribute [local go_sem ↓] ld_cut st_cut

theorem below_grown {w w' : World} (hb : Below w.heap.size w w') : w.grownBy w' none := ⟨hb.os, hb.tape, hb.output, hb.size, fun k hk _ => hb.block k hk⟩
theorem Keep.of_below {p : Nat → Prop} {B : Nat} {w w' : World} (hb : Below B w w') (hp : ∀ k, p k → k < B) : Keep p w w' := ⟨hb.os, hb.tape, hb.output, hb.size, fun k hk => hb.block k (hp k hk)⟩
/-- (cutter).fewest, of a cutter as it lies in memory. -/
theorem fewest_cut (c : Cutter) (m : Nat) (sv : Value) (N : List Value) (hs : ∃ A cp, sv = .slice A c.shapes.length cp) (hN : NeedCells c m N) (hc : c.ok) (q : Nat) (hq : q < m) (hm : m ≤ 8) (w : World) :
    Calls Tryd.prog 25 #[.agg (sv :: N).toArray, .int .i64 q] w fun e w' => e = .returned (.int .i64 (c.fewest q)) ∧ Below w.heap.size w w' := by
  obtain ⟨A, cp, rfl⟩ := hs
  have hl : (c.row q).length = c.shapes.length := by simp [Cutter.row]
  have h := fewest_any A cp N q (by omega) (c.row q) (by rw [hl]; exact hc.2.1) (fun i x hx => by
    have hi : i < c.shapes.length := by rw [← hl]; exact (List.getElem?_eq_some_iff.1 hx).1
    rw [hN.2.2 q i hq hi]
    simp [Cutter.row, hi] at hx
    rw [hx]) w
  rw [hl] at h
  exact h

set_option maxRecDepth 100000 in
set_option maxHeartbeats 1000000 in
theorem fitting1_in (n : Nat) (hn : 1 ≤ n) (l m B T : Nat) (P : Nat → Prop) (cs : List Cutter) (vh : Value) (wn sc : Nat) (AQ : Option Addr) (cQ : Nat) (cv : Value) (p : Nat → Prop) (hcs : cs.length ≤ 4) (hok : ∀ c ∈ cs, c.ok) (hm : m ≤ 8) (hT : T ≤ 40)
    (h0 : ∀ k, P k → p k) (h1 : p B) (h2 : p (B + 1)) (J Jx : List (Fit cs m T) → World → Prop)
    (hY : ∀ pre x W, J pre W → pre.length < cs.length → YieldAt Fence.wide (n - 1) Tryd.prog l #[.int .i64 x.1.1, .int .i64 x.1.2] W fun e W' =>
      (e = .returned (.bool true) ∧ J (pre ++ [x]) W' ∧ Keep p W W') ∨ (e = .returned (.bool false) ∧ Jx (pre ++ [x]) W'))
    (W : World) (hJ : AbidesFrom W.heap.size J) (hp : ∀ k, p k → k < W.heap.size) (hbox : FitBox W P m cs [vh, .int .i64 wn, .int .i64 sc, .int .i64 T, .slice AQ m cQ] cv B) (hJ0 : J [] W) :
    CallsIn Fence.wide n Tryd.prog 32 #[.func (.yield l) #[] #[], .pointer (some ⟨B + 1, 0, none⟩), .pointer (some ⟨B, 0, none⟩)] W fun e W' => (∃ v, e = .returned v) ∧
      ((∃ ys, ys = fits cs m T ∧ J ys W') ∨ (∃ pre, pre <+: fits cs m T ∧ Jx pre W')) := by
  obtain ⟨k, hk⟩ : ∃ k, k = cs.length := ⟨_, rfl⟩
  rw [← hk] at hcs
  have HK := Lib.hid hk
  have hbox0 := hbox
  obtain ⟨a1, a2, a3⟩ := hbox
  obtain ⟨A, cp, rfl, -⟩ := a3
  rw [← hk] at a2 hbox0
  have c0 : W.cell? ⟨B + 1, 0, none⟩ = some (.slice A k cp) := a2.cell 0
  clear hk a1 a2
  refine callsIn_of_wp Tryd.func32 rfl trivial ?_ rfl
  simp only [Tryd.ntmps32, List.size_toArray, List.length_cons, List.length_nil, Nat.reduceAdd, Nat.reduceSub, Array.replicate_succ, Array.replicate_zero, List.push_toArray, List.append_toArray, List.nil_append, List.cons_append]
  gi_wp2
  refine scope_wide ?_
  gi_wp2
  refine wpIn_label ?_
  gi_wp2
  gi_loopg [10] k (fun g i wr => ∃ j : Nat, j + g = k ∧ i = .int .i64 j ∧ FitBox wr P m cs [vh, .int .i64 wn, .int .i64 sc, .int .i64 T, .slice AQ m cQ] (.slice A k cp) B ∧ J (fitsTo cs m T j) wr ∧ W.heap.size ≤ wr.heap.size)
  case atStart => exact ⟨0, by omega, rfl, hbox0, hJ0, Nat.le_refl _⟩
  case round =>
    clear c0
    obtain ⟨j, hjg, rfl, hb, hJ1, hsz⟩ := hrel
    cases gk with
    | zero =>
      obtain rfl : j = k := by omega
      rw [HK.out] at hJ1
      gi_wp2
      rw [Exit.noGoto_normal]
      go_end0
      exact ⟨⟨_, rfl⟩, .inl ⟨_, rfl, hJ1⟩⟩
    | succ g =>
      have hlt : j < k := by omega
      have HB := Lib.hid hb
      obtain ⟨a1, a2, a3⟩ := hb
      obtain ⟨A', cp', e, hA⟩ := a3
      have hjc : j < cs.length := by rw [← HK.out]; exact hlt
      obtain ⟨b, o, rfl, hB, hR⟩ := hA (by omega)
      injection e with e1 e2 e3
      subst e1
      clear e2 e3 hA
      obtain ⟨c, hc⟩ : ∃ c, cs[j]? = some c := ⟨_, List.getElem?_eq_getElem hjc⟩
      have hcok := hok c (List.mem_of_getElem? hc)
      obtain ⟨sv, N, r1, r2, r3, r4⟩ := hR j c hc
      have hsv : ∃ A cp, sv = .slice A c.shapes.length cp := by obtain ⟨A, cp, e, _⟩ := r3; exact ⟨A, cp, e⟩
      have g3 : wr.cell? ⟨B, 3, none⟩ = some (.int .i64 T) := a1.cell 3
      have g4 : wr.cell? ⟨B, 4, none⟩ = some (.slice AQ m cQ) := a1.cell 4
      have z1 := a1.size
      have hld := run_ldCut wr b (o + j * 65) _ r1 (by simp [r4.1])
      have HC := Lib.hid hc
      have hst := run_stCut wr _ (by simp [r4.1]) (one_cons r2 r4.2.1)
      have hx0 : Hid (FitBox (wr.alloc (.cells (sv :: N).toArray 72)) P m cs [vh, .int .i64 wn, .int .i64 sc, .int .i64 T, .slice AQ m cQ] (.slice (some ⟨b, o, none⟩) k cp) B ∧
        J (fitsTo cs m T j) (wr.alloc (.cells (sv :: N).toArray 72)) ∧ wr.heap.size < (wr.alloc (.cells (sv :: N).toArray 72)).heap.size ∧ Blok (wr.alloc (.cells (sv :: N).toArray 72)) wr.heap.size 72 (sv :: N)) :=
        Lib.hid ⟨HB.out.keep (Keep.of_below ((Below.refl _ _).alloc (Nat.le_refl _) _) (fun k hk => Nat.lt_of_lt_of_le (hp k hk) hsz)) h0 h1 h2, hJ _ _ _ none hJ1 (below_grown ((Below.refl _ _).alloc (Nat.le_refl _) _)) (fun r e => by cases e), by simp, Blok.new _ _ _⟩
      have HR4 := Lib.hid r4
      have h65 : (sv :: N).length = 65 := by simp [r4.1]
      clear a1 a2 hR hc hJ1 HB r1 r2 r3 r4
      gi_wp2_with fail
      clear hst hld g3 g4
      obtain ⟨wo, rfl⟩ : ∃ wo : World, wo = wr := ⟨_, rfl⟩
      gi_loopg [6, 20] m (fun g2 lf i2 wx => ∃ q : Nat, q + g2 = m ∧ i2 = .int .i64 q ∧ lf = .int .i64 ((T : Int) - (c.sum q : Int)) ∧ c.sum q ≤ T ∧ FitBox wx P m cs [vh, .int .i64 wn, .int .i64 sc, .int .i64 T, .slice AQ m cQ] (.slice (some ⟨b, o, none⟩) k cp) B ∧
        J (fitsTo cs m T j) wx ∧ wo.heap.size < wx.heap.size ∧ Blok wx wo.heap.size 72 (sv :: N))
      case atStart => exact ⟨0, by omega, rfl, by simp [Cutter.sum], by simp [Cutter.sum], hx0.out⟩
      case round =>
        clear hx0
        obtain ⟨q, hqg, rfl, rfl, hsum, hbx, hJx1, hszx, hblk⟩ := hrel
        cases gk with
        | zero =>
          obtain rfl : q = m := by omega
          have hlen : (fitsTo cs q T j).length < cs.length := Nat.lt_of_le_of_lt (fitsTo_len cs q T j) hjc
          obtain ⟨fn, tmps, assign, body, hy, hR⟩ := hY _ ⟨(j, T - c.sum q), c, HC.out, by omega⟩ _ hJx1 hlen
          dsimp only at hy
          rw [show ((T - c.sum q : Nat) : Int) = (T : Int) - (c.sum q : Int) by omega] at hy
          have hf := fitAt_yes cs q T j c HC.out (by omega)
          have hsucc := fitsTo_succ cs q T j
          rw [hf] at hsucc
          have hpre := fitsTo_pre cs q T (show j + 1 ≤ cs.length by omega)
          rw [hsucc] at hpre
          have HS := Lib.hid hsucc
          have HP := Lib.hid hpre
          have HB := Lib.hid hbx
          clear hf hsucc hpre hbx hY hblk
          gi_wp2
          refine hR.mono ?_
          clear hR hy
          rintro e W3 (⟨rfl, hJ3, hk3⟩ | ⟨rfl, hJx3⟩)
          · have HJ3 : Hid (J (fitsTo cs q T (j + 1)) W3) := Lib.hid (by rw [HS.out]; exact hJ3)
            have HB3 := Lib.hid (HB.out.keep hk3 h0 h1 h2)
            have hs3 : W.heap.size ≤ W3.heap.size := by have := hk3.size; omega
            clear hJ3 hk3
            gi_wp2
            gi_roundg g
            case measure => omega
            case rel => exact ⟨j + 1, by omega, by go_num, HB3.out, HJ3.out, hs3⟩
          · gi_wp2
            rw [Exit.noGoto_ret]
            refine bodyPost_ret (results_none rfl _ _ _) rfl ?_
            exact ⟨⟨_, rfl⟩, .inr ⟨_, HP.out, hJx3⟩⟩
        | succ g2 =>
          have hqm : q < m := by omega
          have hld := run_ldCut wr wo.heap.size 0 (sv :: N) (fun i u hu => by rw [Nat.zero_add, hblk.cell]; exact hu) h65
          have hfl := c.fewest_le q
          have hss := c.sum_succ q
          have hsl := c.sum_le q
          have HX : Hid (∀ w2, Below wr.heap.size wr w2 → FitBox w2 P m cs [vh, .int .i64 wn, .int .i64 sc, .int .i64 T, .slice AQ m cQ] (.slice (some ⟨b, o, none⟩) k cp) B ∧ J (fitsTo cs m T j) w2 ∧ wo.heap.size < w2.heap.size ∧ Blok w2 wo.heap.size 72 (sv :: N)) :=
            Lib.hid fun w2 hb2 => ⟨hbx.keep (Keep.of_below hb2 (fun i hi => by have := hp i hi; omega)) h0 h1 h2, hJ _ _ _ none hJx1 (below_grown hb2) (fun r e => by cases e), by have := hb2.size; omega, hblk.below hb2 hblk.size⟩
          have HSS := Lib.hid hss
          by_cases hfit : c.sum (q + 1) ≤ T
          · have hn : ¬ ((T : Int) - (c.sum q : Int) - (c.fewest q : Int) < 0) := by omega
            clear hbx hJx1 hblk hss hfit
            gi_wp2_with (refine ⟨trivial, ?_⟩; gi_at_call 25; refine (callsIn_wide.2 (fewest_cut c m sv N hsv HR4.out hcok q hqm hm _)).mono ?_; rintro e w2 ⟨rfl, hb2⟩)
            gi_roundg g2
            case measure => omega
            case rel => exact ⟨q + 1, by omega, by go_num, val_int (by rw [HSS.out]; omega), by rw [HSS.out]; omega, HX.out _ hb2⟩
          · have hn : (T : Int) - (c.sum q : Int) - (c.fewest q : Int) < 0 := by omega
            have hno : ¬ c.sum m ≤ T := by have := c.sum_mono (show q + 1 ≤ m by omega); omega
            have hsucc := fitsTo_succ cs m T j
            rw [fitAt_no cs m T j c HC.out hno] at hsucc
            simp only [Option.toList_none, List.append_nil] at hsucc
            have HS := Lib.hid hsucc
            clear hbx hJx1 hblk hss hfit hno hsucc
            gi_wp2_with (refine ⟨trivial, ?_⟩; gi_at_call 25; refine (callsIn_wide.2 (fewest_cut c m sv N hsv HR4.out hcok q hqm hm _)).mono ?_; rintro e w2 ⟨rfl, hb2⟩)
            gi_roundg g
            case measure => omega
            case rel => exact ⟨j + 1, by omega, by go_num, (HX.out _ hb2).1, by rw [HS.out]; exact (HX.out _ hb2).2.1, by have := hb2.size; omega⟩
end Go.Proofs.YtcemefojpaicoaaDoor
