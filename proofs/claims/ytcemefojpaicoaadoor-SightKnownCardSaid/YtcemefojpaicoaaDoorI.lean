/- The letters that fit each square, gathered in maps. -/
import Derived.Test.YtcemefojpaicoaaDoorH
import Derived.Maps.OwnIn
import Derived.Maps.AppendAt
import Derived.Sort.CutIn
namespace Go.Proofs.YtcemefojpaicoaaDoor
open Go.RowKit Go.Shelf

attribute [local go_sem] Oper.semAt_some
attribute [local go_sem ↓] ld_cut st_cut

/-- A set of letters, as a datum: each one that came, put at 'true'. -/
def setD {H : Type} (ys : List (Fin 256)) : DataW H := ys.foldl (fun D x => D.put (.int .u8 x.val) (.lit (.bool true))) (.map [])
theorem setD_snoc {H : Type} (ys : List (Fin 256)) (x : Fin 256) : setD (H := H) (ys ++ [x]) = (setD ys).put (.int .u8 x.val) (.lit (.bool true)) := by simp [setD]

theorem wf_u8 (y : Fin 256) : (Lit.int .u8 (y.val : Int)).wf = true := by
  have key : ∀ y : Fin 256, (Lit.int .u8 (y.val : Int)).wf = true := by decide +kernel
  exact key y
/-- The blocks from mb on are m maps, that of square q with the letters g q. -/
def MapsAre (H : Type) (w : World) (mb m : Nat) (g : Nat → List (Fin 256)) : Prop :=
  ∀ q, q < m → w.ownsMap Tryd.prog 5 (plainElem (H := H) Tryd.prog 4) (mb + q) (g q).length (setD (g q))

/-- What a hand that fits adds to a square. -/
def addOf (cs : List Cutter) (m T : Nat) (q : Nat) (x : Fit cs m T) : List (Fin 256) := (cs.getD x.1.1 ⟨[], fun _ _ => 0⟩).choices q ((cs.getD x.1.1 ⟨[], fun _ _ => 0⟩).fewest q + x.1.2)
def lettersTo (cs : List Cutter) (m T : Nat) (pre : List (Fit cs m T)) (q : Nat) : List (Fin 256) := pre.flatMap (addOf cs m T q)
theorem lettersTo_snoc (cs : List Cutter) (m T : Nat) (pre : List (Fit cs m T)) (x : Fit cs m T) (q : Nat) : lettersTo cs m T (pre ++ [x]) q = lettersTo cs m T pre q ++ addOf cs m T q x := by simp [lettersTo]
theorem addOf_len (cs : List Cutter) (m T : Nat) (q : Nat) (x : Fit cs m T) (hok : ∀ c ∈ cs, c.ok) : (addOf cs m T q x).length ≤ 8 := by
  obtain ⟨c, hc, _⟩ := x.2
  have e : cs.getD x.1.1 ⟨[], fun _ _ => 0⟩ = c := by simp [List.getD, hc]
  unfold addOf
  rw [e]
  exact Nat.le_trans (c.upto_len _ _ _) (hok c (List.mem_of_getElem? hc)).2.1
theorem lettersTo_len (cs : List Cutter) (m T : Nat) (pre : List (Fit cs m T)) (q : Nat) (hok : ∀ c ∈ cs, c.ok) : (lettersTo cs m T pre q).length ≤ 8 * pre.length := by
  induction pre with
  | nil => simp [lettersTo]
  | cons x pre ih =>
    have := addOf_len cs m T q x hok
    simp only [lettersTo, List.flatMap_cons, List.length_append, List.length_cons] at ih ⊢
    omega
/-- The letters that fit a square, of some cutters. -/
def lettersG (cs : List Cutter) (m T q : Nat) : List (Fin 256) := lettersTo cs m T (fits cs m T) q
def allLetters (L : Line) (q : Nat) : List (Fin 256) := lettersTo (cuttersOf L) L.squares.length L.total (fits (cuttersOf L) L.squares.length L.total) q

/-- gather hands back a slice of m maps. -/
def GatherPost (H : Type) (m : Nat) (g : Nat → List (Fin 256)) (w : World) (e : Ending) (w' : World) : Prop :=
  Below w.heap.size w w' ∧ ∃ sb mb, e = .returned (.slice (some ⟨sb, 0, none⟩) m m) ∧ sb < w'.heap.size ∧ w.heap.size ≤ mb ∧ mb + m ≤ w'.heap.size ∧ (∀ q, q < m → w'.cell? ⟨sb, q, none⟩ = some (.map (some (mb + q)))) ∧ MapsAre H w' mb m g

/-- Within gather's first loop. -/
def GatherI (H : Type) (w : World) (lv : List Value) (cv : Value) (sb vb m k : Nat) (wr : World) : Prop :=
  Below w.heap.size w wr ∧ wr.heap.size = vb + 1 + k ∧ Blok wr w.heap.size 25 lv ∧ Blok wr (w.heap.size + 1) 65 [cv] ∧
    (∃ xs : List Value, xs.length = m ∧ Blok wr sb 87 xs ∧ ∀ q, q < k → xs[q]? = some (.map (some (vb + 1 + q)))) ∧
    Blok wr vb 85 [.slice (some ⟨sb, 0, none⟩) m m] ∧ MapsAre H wr (vb + 1) k (fun _ => [])
theorem info_map : (Tryd.prog.info? 87).map (fun i => (i.zero, i.size, i.bytes)) = some (some (.map none), 1, 8) := by kernel_rfl
theorem blok_of_own {w : World} {base : Nat} {e : TypeId} {g n : Nat} {xs : List Value} (h : w.ownsRow base e 1 (.slice (some ⟨g, 0, none⟩) n n) n xs) : Blok w g e xs ∧ xs.length = n := by
  refine ⟨?_, by have := h.1; omega⟩
  rcases h.2 with ⟨h', _⟩ | ⟨g', cap, cur, h', _, hg, _, _, hsz, ht⟩
  · simp at h'
  · simp only [Value.slice.injEq, Option.some.injEq, Addr.mk.injEq, and_true, true_and] at h'
    obtain ⟨rfl, rfl⟩ := h'
    unfold Blok
    rw [hg, ← ht, List.take_of_length_le (by simp; omega)]
theorem GatherI.step {H : Type} {w wr : World} {lv : List Value} {cv : Value} {sb vb m k : Nat} (h : GatherI H w lv cv sb vb m k wr) (hk : k < m) (h1 : w.heap.size + 1 < sb) (h2 : sb < vb) :
    GatherI H w lv cv sb vb m (k + 1) ((wr.setCell ⟨sb, k, none⟩ (.map (some wr.heap.size))).alloc (.map #[] 0)) := by
  obtain ⟨a1, a2, a3, a4, ⟨xs, x1, x2, x3⟩, a5, a6⟩ := h
  have hsz : (wr.setCell ⟨sb, k, none⟩ (.map (some wr.heap.size))).heap.size = wr.heap.size := by simp [World.setCell]
  refine ⟨(a1.setCell (p := ⟨sb, k, none⟩) (by simp; omega) _).alloc (by omega) _, by simp; omega, (a3.far (p := ⟨sb, k, none⟩) (by simp; omega) _).alloc _, (a4.far (p := ⟨sb, k, none⟩) (by simp; omega) _).alloc _, ⟨xs.set k (.map (some wr.heap.size)), by simp [x1], (x2.put _ _).alloc _, fun q hq => ?_⟩, (a5.far (p := ⟨sb, k, none⟩) (by simp; omega) _).alloc _, fun q hq => ?_⟩
  · by_cases e : q = k
    · subst e
      rw [List.getElem?_set_self (by omega), a2]
    · rw [List.getElem?_set_ne (by omega)]
      exact x3 q (by omega)
  · by_cases e : q = k
    · subst e
      have h7 := World.ownsMap_made (H := H) (wr.setCell ⟨sb, q, none⟩ (.map (some wr.heap.size))) Tryd.prog 5 (plainElem Tryd.prog 4)
      rw [hsz] at h7
      rw [← a2]
      exact h7
    · refine World.ownsMap.alloc ?_ _
      obtain ⟨es, ck, e1, e2⟩ := a6 q (by omega)
      exact ⟨es, ck, (heap_setCell_other _ _ _ _ (by simp; omega)).trans e1, e2⟩

set_option maxRecDepth 100000 in
set_option maxHeartbeats 2000000 in
theorem gatherG_any (H : Type) (v : Value) (cv : Value) (L : Line) (cs : List Cutter) (hcok : ∀ c ∈ cs, c.ok) (hcl : cs.length ≤ 4) (P : Nat → Prop) (w : World) (hP : ∀ k, P k → k < w.heap.size) (hL : L.ok) (hv : LineAt w w.heap.size v L) (hc : Cuts w P L.squares.length cv cs) :
    Calls Tryd.prog 30 #[v, cv] w (GatherPost H L.squares.length (lettersG cs L.squares.length L.total) w) := by
  have HCOK := Lib.hid hcok
  have HCL := Lib.hid hcl
  have HL := Lib.hid hL
  have HC := Lib.hid hc
  obtain ⟨vh, vs, rfl, hh, hq⟩ := hv
  obtain ⟨A, c, rfl, -⟩ := hh
  obtain ⟨AQ, cQ, rfl, -⟩ := hq
  obtain ⟨Ac, cc, rfl, -⟩ := hc
  obtain ⟨m, hm⟩ : ∃ m, m = L.squares.length := ⟨_, rfl⟩
  have hm8 : m ≤ 8 := by rw [hm]; exact hL.2.2.2.2.2.2.2.1
  have hm1 : 1 ≤ m := by rw [hm]; exact hL.2.2.2.2.2.2.1
  have HM := Lib.hid hm
  rw [← hm]
  clear hm hL hcok hcl
  refine (callsIn_wide (n := 6)).1 ?_
  refine callsIn_of_wp_marks Tryd.func30 rfl trivial ?_ rfl
  simp only [Tryd.ntmps30, List.size_toArray, List.length_cons, List.length_nil, Nat.reduceAdd, Nat.reduceSub, Array.replicate_succ, Array.replicate_zero, List.push_toArray, List.append_toArray, List.nil_append, List.cons_append]
  refine wpIn_wide.2 ?_
  obtain ⟨i0, hi, hz0, hz1, hz2⟩ := info_parts info_map
  have hmm := @run_makeMap Tryd.prog
  go_wp2_with (at_make; refine wpList_make_full _ rfl _ _ 85 rfl (w.heap.size + 1 + 1) 87 i0 (.map none) 1 Tryd.underlying85 hi hz0 hz1 .i64 .i64 m m m rfl rfl rfl rfl (by rw [hz2]; omega) (by unfold maxLen; omega) (by simp) ?_; intro w1 hown hgrow)
  have hm0 : MapsAre H (w1.alloc (.cells #[.slice (some ⟨w.heap.size + 1 + 1, 0, none⟩) m m] 85)) (w1.heap.size + 1) 0 (fun _ => []) := fun q hq => by omega
  have hst : GatherI H w [.slice A L.hands.length c, .int .i64 L.worn, .int .i64 L.scr, .int .i64 L.total, .slice AQ m cQ] (.slice Ac cs.length cc) (w.heap.size + 1 + 1) w1.heap.size m 0 (w1.alloc (.cells #[.slice (some ⟨w.heap.size + 1 + 1, 0, none⟩) m m] 85)) := by
    obtain ⟨hb, hx⟩ := blok_of_own hown
    simp only [World.size_alloc] at hb
    have k1 := (Blok.new w 25 [.slice A L.hands.length c, .int .i64 L.worn, .int .i64 L.scr, .int .i64 L.total, .slice AQ m cQ]).alloc (.cells [.slice Ac cs.length cc].toArray 65)
    have k2 := Blok.new (w.alloc (.cells [.slice A L.hands.length c, .int .i64 L.worn, .int .i64 L.scr, .int .i64 L.total, .slice AQ m cQ].toArray 25)) 65 [.slice Ac cs.length cc]
    rw [World.size_alloc] at k2
    refine ⟨((((Below.refl _ _).alloc (Nat.le_refl _) _).alloc (by simp) _).grown hgrow (by simp; omega) (fun _ e => by cases e)).alloc (by have := hgrow.size; simp at this; omega) _, by simp, (k1.grown hgrow (by simp)).alloc _, (k2.grown hgrow (by simp)).alloc _, ⟨_, hx, hb.alloc _, fun q hq => by omega⟩, Blok.new w1 _ _, hm0⟩
  have hz1 : w.heap.size + 1 + 1 < w1.heap.size := by have := (blok_of_own hown).1.size; simp only [World.size_alloc] at this; omega
  clear hown hgrow hm0
  go_loopw [18] (fun i wr => ∃ k : Nat, k ≤ m ∧ i = .int .i64 k ∧ GatherI H w [.slice A L.hands.length c, .int .i64 L.worn, .int .i64 L.scr, .int .i64 L.total, .slice AQ m cQ] (.slice Ac cs.length cc) (w.heap.size + 1 + 1) w1.heap.size m k wr) (fun i _ => m - (intOf i).toNat)
  case atStart => exact ⟨0, by omega, rfl, hst⟩
  case round =>
    clear hst
    obtain ⟨k, hk, rfl, hI⟩ := hrel
    by_cases hlt : k < m
    · have HI := Lib.hid hI
      obtain ⟨a1, a2, a3, a4, ⟨xs, x1, x2, x3⟩, a5, a6⟩ := hI
      have c5 : wr.cell? ⟨w1.heap.size, 0, none⟩ = some (.slice (some ⟨w.heap.size + 1 + 1, 0, none⟩) m m) := a5.cell 0
      have ck := x2.cell k
      rw [List.getElem?_eq_getElem (by omega)] at ck
      have fk := x2.free k
      have s5 := a5.size
      have s2 := x2.size
      clear a1 a2 a3 a4 x2 x3 a5 a6
      go_wp2
      go_roundw
      case rel => exact ⟨k + 1, by omega, by go_num, HI.out.step hlt (by omega) (by omega)⟩
      case measure => simp [intOf]; omega
    · obtain rfl : k = m := by omega
      have HI := Lib.hid hI
      obtain ⟨a1, a2, a3, a4, ⟨xs, x1, x2, x3⟩, a5, a6⟩ := hI
      have l0 : wr.cell? ⟨w.heap.size, 0, none⟩ = some (.slice A L.hands.length c) := a3.cell 0
      have l1 : wr.cell? ⟨w.heap.size, 1, none⟩ = some (.int .i64 L.worn) := a3.cell 1
      have l2 : wr.cell? ⟨w.heap.size, 2, none⟩ = some (.int .i64 L.scr) := a3.cell 2
      have l3 : wr.cell? ⟨w.heap.size, 3, none⟩ = some (.int .i64 L.total) := a3.cell 3
      have l4 : wr.cell? ⟨w.heap.size, 4, none⟩ = some (.slice AQ k cQ) := a3.cell 4
      have l5 : wr.cell? ⟨w.heap.size + 1, 0, none⟩ = some (.slice Ac cs.length cc) := a4.cell 0
      clear a1 a2 a3 a4 x1 x2 x3 a5 a6
      go_wp2_with (go_at_call 22; refine (fitting_any [.slice A L.hands.length c, .int .i64 L.worn, .int .i64 L.scr, .int .i64 L.total, .slice AQ k cQ] _ rfl _).mono ?_; rintro e w3 ⟨rfl, rfl⟩)
      refine (wpIn_wide (n := 6)).1 ?_
      have hcok := HCOK.out
      have hcl := HCL.out
      obtain ⟨b1, b2, b3, b4, ⟨xs, x1, x2, x3⟩, b5, b6⟩ := HI.out
      obtain ⟨W5, hW5⟩ : ∃ W5, (wr.alloc (.cells #[.slice A L.hands.length c, .int .i64 L.worn, .int .i64 L.scr, .int .i64 L.total, .slice AQ k cQ] 25)).alloc (.cells #[.slice Ac cs.length cc] 65) = W5 := ⟨_, rfl⟩
      have h25 : Below wr.heap.size wr W5 := by rw [← hW5]; exact ((Below.refl _ _).alloc (Nat.le_refl _) _).alloc (by simp) _
      have hs5 : W5.heap.size = wr.heap.size + 2 := by rw [← hW5]; simp
      have hline : Blok W5 wr.heap.size 25 [.slice A L.hands.length c, .int .i64 L.worn, .int .i64 L.scr, .int .i64 L.total, .slice AQ k cQ] := by
        rw [← hW5]; exact (Blok.new wr _ _).alloc _
      have hcuts : Blok W5 (wr.heap.size + 1) 65 [.slice Ac cs.length cc] := by
        have := Blok.new (wr.alloc (.cells #[.slice A L.hands.length c, .int .i64 L.worn, .int .i64 L.scr, .int .i64 L.total, .slice AQ k cQ] 25)) 65 [.slice Ac cs.length cc]
        rw [World.size_alloc] at this
        rw [← hW5]; exact this
      rw [hW5]
      have h05 : Below w.heap.size w W5 := b1.trans (h25.mono (by omega))
      have hmem : Cuts W5 P k (.slice Ac cs.length cc) cs := by
        rw [HM.out]
        exact HC.out.keep (fun b o hb => h05.cell (p := ⟨b, o, none⟩) (hP b hb)) (fun b hb => hb)
      have hbox : FitBox W5 P k cs [.slice A L.hands.length c, .int .i64 L.worn, .int .i64 L.scr, .int .i64 L.total, .slice AQ k cQ] (.slice Ac cs.length cc) wr.heap.size := ⟨hline, hcuts, hmem⟩
      have hmaps : MapsAre H W5 (w1.heap.size + 1) k (lettersTo cs k L.total []) := fun q hq => (b6 q hq).kept (below_grown h25) (by simp)
      obtain ⟨p, hpd⟩ : ∃ p : Nat → Prop, p = fun j => j < W5.heap.size ∧ ¬ (w1.heap.size + 1 ≤ j ∧ j < w1.heap.size + 1 + k) := ⟨_, rfl⟩
      have hp : ∀ j, p j → j < W5.heap.size := fun j h => by rw [hpd] at h; exact h.1
      have hpP : ∀ j, P j → p j := fun j h => by have := hP j h; rw [hpd]; exact ⟨by omega, by omega⟩
      have hp1 : p wr.heap.size := by rw [hpd]; exact ⟨by omega, by omega⟩
      have hp2 : p (wr.heap.size + 1) := by rw [hpd]; exact ⟨by omega, by omega⟩
      clear hW5 l0 l1 l2 l3 l4 l5
      have HW : Hid (w1.heap.size + 1 + k = wr.heap.size ∧ W5.heap.size = wr.heap.size + 2 ∧ w.heap.size + 1 + 1 < w1.heap.size) := Lib.hid ⟨by omega, hs5, hz1⟩
      have HB := Lib.hid (show Below w.heap.size w wr ∧ Blok wr (w.heap.size + 1) 65 [.slice Ac cs.length cc] ∧ (∃ xs : List Value, xs.length = k ∧ Blok wr (w.heap.size + 1 + 1) 87 xs ∧ ∀ q, q < k → xs[q]? = some (.map (some (w1.heap.size + 1 + q)))) ∧ Blok wr w1.heap.size 85 [.slice (some ⟨w.heap.size + 1 + 1, 0, none⟩) k k] from ⟨b1, b4, ⟨xs, x1, x2, x3⟩, b5⟩)
      have HMEM := Lib.hid hmem
      have H05 := Lib.hid h05
      have H35 : Hid (Below wr.heap.size wr W5) := Lib.hid h25
      clear b1 b2 b3 b4 b5 b6 x1 x2 x3 hs5 h25 hz1 h05
      refine wpIn_rangeFunc_ownH rfl (by omega) (gf := 32) (lb := #[.pointer (some ⟨wr.heap.size + 1, 0, none⟩), .pointer (some ⟨wr.heap.size, 0, none⟩)]) rfl trivial (enters_of Tryd.func32 (by kernel_rfl) rfl)
        (fitting_stops (6 - 1) (by omega) k wr.heap.size L.total P cs (.slice A L.hands.length c) L.worn L.scr AQ cQ (.slice Ac cs.length cc) p hcl hcok hm8 (HL.out.2.2.2.2.2.1) hpP hp1 hp2 W5 hp hbox)
        Keep.trans (Keep.putObj hp) (Below.refl _ _) (fun _ => rfl)
        (fun pre W => Keep p W5 W ∧ MapsAre H W (w1.heap.size + 1) k (lettersTo cs k L.total pre))
        (fun _ _ _ => False)
        (fun s A B row hs hg hr => ⟨hs.1.trans (Keep.of_grown hg (fun j h => Nat.lt_of_lt_of_le (hp j h) hs.1.size) (fun r e h => by have := (hr r e).1; have := hp r h; omega)), fun q hq => (hs.2 q hq).kept hg (fun e => by have := (hr _ e.symm).1; have := HW.out; omega)⟩)
        (fun _ _ _ _ _ hs _ _ => hs) ⟨Keep.refl _ _, hmaps⟩
        (fun x a' _ => a' = { tmps := #[.agg #[.slice A L.hands.length c, .int .i64 L.worn, .int .i64 L.scr, .int .i64 L.total, .slice AQ k cQ], .slice Ac cs.length cc, .pointer (some ⟨w.heap.size, 0, none⟩), .pointer (some ⟨w.heap.size + 1, 0, none⟩), .slice none 0 0, .pointer (some ⟨w1.heap.size, 0, none⟩), u6, .int .i64 x.1.1, .int .i64 x.1.2, undef, undef, undef, .pointer (some ⟨w.heap.size, 4, none⟩), .slice AQ k cQ, .int .i64 k, .slice (some ⟨w.heap.size + 1 + 1, 0, none⟩) k k, .slice (some ⟨w.heap.size + 1 + 1, 0, none⟩) k k, .int .i64 k, .int .i64 k, .bool false, u20, u21, u22, u23, u24, u25, .agg #[.slice A L.hands.length c, .int .i64 L.worn, .int .i64 L.scr, .int .i64 L.total, .slice AQ k cQ], .slice Ac cs.length cc, .func (.func 32) #[] #[.pointer (some ⟨wr.heap.size + 1, 0, none⟩), .pointer (some ⟨wr.heap.size, 0, none⟩)], .int .i64 x.1.1, .int .i64 x.1.2, undef, undef, undef, undef, undef, undef, undef, undef, undef, undef, undef, undef, undef, undef, undef, undef, undef, undef, undef, undef, undef, undef, undef, undef, undef, undef, undef, undef], defers := [] })
        (fun _ _ _ _ _ _ hs _ _ => hs) ?assign ?body ?done ?stop
      case assign =>
        rintro l pre x W K hi hK
        gi_wp2
        exact hK _ _ (KeepsFrom.refl _ _) (Keep.refl _ _) hi rfl
      case body =>
        rintro l pre x a' W hl ⟨r, hr⟩ ⟨hk, hmp⟩ rfl hlen
        obtain ⟨z1, z2, z3⟩ := HW.out
        have hpb : ∀ j, j < w1.heap.size + 1 → p j := fun j h => by rw [hpd]; exact ⟨by omega, by omega⟩
        have hkb : ∀ {g : Nat} {t : TypeId} {cs : List Value}, Blok wr g t cs → g < w1.heap.size + 1 → Blok W g t cs := fun hb hg => hk.blok (hb.below H35.out (by omega)) (hpb _ hg)
        obtain ⟨b1, b4, ⟨xs, x1, x2, x3⟩, b5⟩ := HB.out
        have c4 : Hid (Blok W (w.heap.size + 1) 65 [.slice Ac cs.length cc]) := Lib.hid (hkb b4 (by omega))
        have c2 : Hid (Blok W (w.heap.size + 1 + 1) 87 xs) := Lib.hid (hkb x2 (by omega))
        have c5 : Hid (Blok W w1.heap.size 85 [.slice (some ⟨w.heap.size + 1 + 1, 0, none⟩) k k]) := Lib.hid (hkb b5 (by omega))
        have d5 : W.cell? ⟨w1.heap.size, 0, none⟩ = some (.slice (some ⟨w.heap.size + 1 + 1, 0, none⟩) k k) := c5.out.cell 0
        have HZ := Lib.hid z1
        have HZ2 := Lib.hid z2
        clear z1 z2 b1 b4 b5 x2
        obtain ⟨cu, hcu, hsum⟩ := x.2
        have hcuo := hcok cu (List.mem_of_getElem? hcu)
        have hadd : ∀ q, addOf cs k L.total q x = cu.choices q (cu.fewest q + x.1.2) := fun q => by
          have e : cs.getD x.1.1 ⟨[], fun _ _ => 0⟩ = cu := by simp [List.getD, hcu]
          simp only [addOf, e]
        have hcuts : Cuts W P k (.slice Ac cs.length cc) cs := HMEM.out.keep (hk.sameP hpP) (fun _ h => h)
        obtain ⟨A', cp', e, hA⟩ := hcuts
        have hxl : x.1.1 < cs.length := (List.getElem?_eq_some_iff.1 hcu).1
        obtain ⟨bc, oc, rfl, hPb, hR⟩ := hA (by omega)
        injection e with e1 e2 e3
        subst e1
        clear e2 e3 hA
        obtain ⟨sv, N, r1, r2, r3, r4⟩ := hR x.1.1 cu hcu
        have hsv : ∃ A cp, sv = .slice A cu.shapes.length cp := by obtain ⟨A, cp, e, _⟩ := r3; exact ⟨A, cp, e⟩
        have x0 : (0 : Int) ≤ (x.1.1 : Int) := by omega
        have x1' : (x.1.1 : Int) < (cs.length : Int) := by omega
        have h65 : (sv :: N).length = 65 := by simp [r4.1]
        have HR1 := Lib.hid r1
        have HR3 := Lib.hid r3
        have HR4 := Lib.hid r4
        have HADD := Lib.hid hadd
        have HSUM := Lib.hid hsum
        have HK := Lib.hid hk
        have HPB := Lib.hid hPb
        clear r1 r3 r4 hadd hR hk hsum hkb hcu hPb
        obtain ⟨wo, rfl⟩ : ∃ wo : World, wo = wr := ⟨_, rfl⟩
        gi_wp2
        gi_loopw [33] (fun i wx => ∃ j : Nat, j ≤ k ∧ i = .int .i64 j ∧ Keep p W wx ∧ KeepsFrom W5.heap.size W wx ∧ MapsAre H wx (w1.heap.size + 1) k (fun q => if q < j then lettersTo cs k L.total (pre ++ [x]) q else lettersTo cs k L.total pre q)) (fun i _ => k - (intOf i).toNat)
        case atStart => exact ⟨0, by omega, rfl, Keep.refl _ _, KeepsFrom.refl _ _, fun q hq => by simpa using hmp q hq⟩
        case round =>
          obtain ⟨j, hj, rfl, hkx, hkf, hmx⟩ := hrel
          by_cases hjk : j < k
          · have HKX := Lib.hid hkx
            have HKF := Lib.hid hkf
            have HMX := Lib.hid hmx
            have s1 : W.heap.size ≤ wr.heap.size := hkx.size
            have s0 : W5.heap.size ≤ W.heap.size := HK.out.size
            have l4 : wr.cell? ⟨w.heap.size + 1, 0, none⟩ = some (.slice (some ⟨bc, oc, none⟩) cs.length cc) := (hkx.cell (hpb _ (by omega))).trans (c4.out.cell 0)
            have q4 : w.heap.size + 1 < wr.heap.size := by have := HZ.out; have := HZ2.out; omega
            have hrg : wr.rangeAt bc (oc + x.1.1 * 65) (sv :: N) := fun i u hu => (hkx.cell (hpP _ HPB.out)).trans (HR1.out i u hu)
            have hbcs : bc < wr.heap.size := by have := hp _ (hpP _ HPB.out); omega
            have hld := run_ldCut (wr.alloc (.cells #[.int .i64 j] 3)).drew bc (oc + x.1.1 * 65) _ (fun i u hu => (World.cell?_alloc_lt wr _ ⟨bc, _, none⟩ hbcs).trans (hrg i u hu)) h65
            clear hkx hkf hmx
            have hfl := cu.fewest_le j
            have hx2 : x.1.2 ≤ 40 := by have := HSUM.out; have := HL.out.2.2.2.2.2.1; omega
            have HWS := Lib.hid (show IntKind.i64.wrap ((cu.fewest j : Int) + (x.1.2 : Int)) = ((cu.fewest j + x.1.2 : Nat) : Int) by rw [IntWalk.i64_in _ (by omega)]; omega)
            gi_wp2
            gi_cut [10, 51, 58] from 36 (fun s10 s51 s58 w2 => s10 = .int .i64 ((cu.fewest j + x.1.2 : Nat) : Int) ∧ s51 = undef ∧ s58 = undef ∧ Below (wr.heap.size + 1) (wr.alloc (.cells #[.int .i64 j] 3)).drew w2)
            case first =>
              gi_region_with (refine ⟨trivial, ?_⟩; gi_at_call 25; refine (CallsIn.inRound l (callsIn_wide.2 (fewest_cut cu k sv N hsv HR4.out hcuo j hjk hm8 _))).mono ?_; rintro e w2 ⟨rfl, hb2⟩)
              all_goals
                gi_wp2_with fail
                gi_meet
                case rel => exact ⟨val_int HWS.out, rfl, rfl, by have := hb2; simp at this; exact this⟩
            case rest =>
              obtain ⟨rfl, rfl, rfl, hb2⟩ := hcut
              obtain ⟨wd, rfl⟩ : ∃ wd : World, wd = wc := ⟨_, rfl⟩
              clear hld l4
              have hb02 : Below wr.heap.size wr wd := ((Below.refl _ _).alloc (Nat.le_refl _) _).drew.trans (hb2.mono (Nat.le_succ _))
              have sq2 : wr.heap.size < wd.heap.size := by have := hb2.size; simp at this; omega
              have bq2 : Blok wd wr.heap.size 3 [.int .i64 j] := ((Blok.new wr 3 [.int .i64 j]).drewN 1).below hb2 (Nat.lt_succ_self _)
              have q2 : wd.cell? ⟨wr.heap.size, 0, none⟩ = some (.int .i64 j) := bq2.cell 0
              have q4' : w.heap.size + 1 < wd.heap.size := by omega
              have l4 : wd.cell? ⟨w.heap.size + 1, 0, none⟩ = some (.slice (some ⟨bc, oc, none⟩) cs.length cc) := (hb02.cell (p := ⟨_, _, none⟩) (by simp; omega)).trans ((HKX.out.cell (hpb _ (by omega))).trans (c4.out.cell 0))
              have hld := run_ldCut wd.drew bc (oc + x.1.1 * 65) _ (fun i u hu => (hb02.cell (p := ⟨_, _, none⟩) hbcs).trans (hrg i u hu)) h65
              gi_wp2
              gi_cut [50, 51, 58] from 44 (fun s50 s51 s58 w3 => s51 = undef ∧ s58 = undef ∧ s50 = .func (.func 44) #[] #[.pointer (some ⟨wd.heap.size, 0, none⟩), .pointer (some ⟨wd.heap.size + 1, 0, none⟩), .pointer (some ⟨wd.heap.size + 1 + 1, 0, none⟩)] ∧ Below wd.heap.size wd w3 ∧
                Blok w3 wd.heap.size 72 (sv :: N) ∧ Blok w3 (wd.heap.size + 1) 3 [.int .i64 j] ∧ Blok w3 (wd.heap.size + 1 + 1) 3 [.int .i64 ((cu.fewest j + x.1.2 : Nat) : Int)] ∧ w3.heap.size = wd.heap.size + 3)
              case first =>
                gi_region_with (refine ⟨trivial, ?_⟩; gi_at_call 37; refine (CallsIn.inRound l (callsIn_wide.2 (choices_any _ (sv :: N) rfl j (cu.fewest j + x.1.2) _))).mono ?_; rintro e w3 ⟨rfl, rfl⟩)
                all_goals
                  gi_wp2_with fail
                  gi_meet
                  case rel =>
                    obtain ⟨t1, t2, t3⟩ := three wd.drew (sv :: N) [.int .i64 j] [.int .i64 ((cu.fewest j + x.1.2 : Nat) : Int)] 72 3 3
                    exact ⟨rfl, rfl, rfl, (((Below.refl _ wd).drew.alloc (Nat.le_refl _) _).alloc (by simp) _).alloc (by simp; omega) _, t1, t2, t3, by simp⟩
              case rest =>
                obtain ⟨rfl, rfl, rfl, hb3, t1, t2, t3, hsz3⟩ := hcut
                clear hld l4
                have HT := Lib.hid (show Below wd.heap.size wd wc ∧ Blok wc wd.heap.size 72 (sv :: N) ∧ Blok wc (wd.heap.size + 1) 3 [.int .i64 j] ∧ Blok wc (wd.heap.size + 1 + 1) 3 [.int .i64 ((cu.fewest j + x.1.2 : Nat) : Int)] ∧ wc.heap.size = wd.heap.size + 3 from ⟨hb3, t1, t2, t3, hsz3⟩)
                clear hb3 t1 t2 t3 hsz3
                gi_wp2
                obtain ⟨t1, t2, t3, t4, t5⟩ := HT.out
                have hkc : Keep p W wc := (HKX.out.trans (Keep.of_below hb02 (fun i hi => by have := hp i hi; omega))).trans (Keep.of_below t1 (fun i hi => by have := hp i hi; omega))
                have hfc : KeepsFrom W5.heap.size W wc := (HKF.out.trans (KeepsFrom.of_grownBy (below_grown hb02) (fun _ e => by cases e))).trans (KeepsFrom.of_grownBy (below_grown t1) (fun _ e => by cases e))
                have hbc : Blok wc wr.heap.size 3 [.int .i64 j] := bq2.below t1 sq2
                have hlc : ∃ r, wc.heap[l]? = some (.loop r) := ⟨r, hfc.same l _ hl hr rfl⟩
                obtain ⟨r', hr'⟩ := hlc
                have hmc : MapsAre H wc (w1.heap.size + 1) k (fun q => if q < j then lettersTo cs k L.total (pre ++ [x]) q else if q = j then lettersTo cs k L.total pre q ++ [] else lettersTo cs k L.total pre q) := fun q hq => by
                  have := ((HMX.out q hq).kept (below_grown hb02) (by simp)).kept (below_grown t1) (by simp)
                  by_cases e1 : q < j
                  · simpa [e1] using this
                  · by_cases e2 : q = j
                    · subst e2
                      simpa using this
                    · simpa [e1, e2] using this
                have hch : ChoiceBox wc P k cu j (cu.fewest j + x.1.2) wd.heap.size sv N := ⟨t2, HR3.out.keep (hkc.sameP hpP) (fun _ h => h), HR4.out, t3, t4⟩
                obtain ⟨p', hpd'⟩ : ∃ p' : Nat → Prop, p' = fun i => i < wc.heap.size ∧ ¬ (w1.heap.size + 1 ≤ i ∧ i < w1.heap.size + 1 + k) := ⟨_, rfl⟩
                have hp' : ∀ i, p' i → i < wc.heap.size := fun i h => by rw [hpd'] at h; exact h.1
                have hpp' : ∀ i, p i → p' i := fun i h => by have h0 := hp i h; rw [hpd] at h; rw [hpd']; exact ⟨by omega, h.2⟩
                have hz := HZ.out
                have hz2 := HZ2.out
                have g1 : p' wd.heap.size := by rw [hpd']; exact ⟨by omega, by omega⟩
                have g2 : p' (wd.heap.size + 1) := by rw [hpd']; exact ⟨by omega, by omega⟩
                have g3 : p' (wd.heap.size + 1 + 1) := by rw [hpd']; exact ⟨by omega, by omega⟩
                have hwrn : ¬ (w1.heap.size + 1 ≤ wr.heap.size ∧ wr.heap.size < w1.heap.size + 1 + k) := by omega
                have HNUM := Lib.hid (show w1.heap.size + 1 + k ≤ wr.heap.size ∧ W5.heap.size ≤ wc.heap.size ∧ wr.heap.size < wc.heap.size ∧ W.heap.size ≤ wc.heap.size from ⟨by omega, by omega, by omega, by omega⟩)
                clear hz hz2 t1 t2 t3 t4 t5
                refine wpIn_rangeFunc_ownN (l₀ := l) (r₀ := r') rfl hr' (by omega) (gf := 44) (lb := #[.pointer (some ⟨wd.heap.size, 0, none⟩), .pointer (some ⟨wd.heap.size + 1, 0, none⟩), .pointer (some ⟨wd.heap.size + 1 + 1, 0, none⟩)]) rfl trivial (enters_of Tryd.func44 (by kernel_rfl) rfl)
                  ((choices_stops (6 - 1 - 1 - 1) (by omega) k wd.heap.size P cu j (cu.fewest j + x.1.2) sv N p' hcuo hjk hm8 (fun i hi => hpp' i (hpP i hi)) g1 g2 g3 wc hp' hch).inRound l)
                  Keep.trans (Keep.putObj hp') (Below.refl _ _) (fun _ => rfl)
                  (fun pre' W' => (Keep p W W' ∧ Blok W' wr.heap.size 3 [.int .i64 j] ∧ MapsAre H W' (w1.heap.size + 1) k (fun q => if q < j then lettersTo cs k L.total (pre ++ [x]) q else if q = j then lettersTo cs k L.total pre q ++ pre' else lettersTo cs k L.total pre q) ∧ wc.heap.size ≤ W'.heap.size) ∧ KeepsFrom W5.heap.size W W')
                  (fun _ _ _ => False)
                  (OwnFrom.and (fun s X Y row hs hg hrr => by
                    have hn := HNUM.out
                    refine ⟨hs.1.trans (Keep.of_grown hg (fun i h => by have := hp i h; have := hs.1.size; omega) (fun r e h => by have := (hrr r e).1; have := hp r h; omega)), hs.2.1.grown hg (fun e => ?_), fun q hq => (hs.2.2.1 q hq).kept hg (fun e => by have := (hrr _ e.symm).1; omega), Nat.le_trans hs.2.2.2 hg.size⟩
                    have := (hrr _ e).1
                    omega) (ownFrom_keepsFrom HNUM.out.2.2.2))
                  (fun _ _ _ _ _ hs _ _ => hs) ⟨⟨hkc, hbc, hmc, Nat.le_refl _⟩, hfc⟩
                  (fun y a'' _ => a'' = { tmps := #[.agg #[.slice A L.hands.length c, .int .i64 L.worn, .int .i64 L.scr, .int .i64 L.total, .slice AQ k cQ], .slice (some ⟨bc, oc, none⟩) cs.length cc, .pointer (some ⟨w.heap.size, 0, none⟩), .pointer (some ⟨w.heap.size + 1, 0, none⟩), .slice none 0 0, .pointer (some ⟨w1.heap.size, 0, none⟩), u6, .int .i64 x.1.1, .int .i64 x.1.2, .pointer (some ⟨wr.heap.size, 0, none⟩), .int .i64 ((cu.fewest j + x.1.2 : Nat) : Int), .int .u8 y.val, .pointer (some ⟨w.heap.size, 4, none⟩), .slice AQ k cQ, .int .i64 k, .slice (some ⟨w.heap.size + 1 + 1, 0, none⟩) k k, .slice (some ⟨w.heap.size + 1 + 1, 0, none⟩) k k, .int .i64 k, .int .i64 k, .bool false, u20, u21, u22, u23, u24, u25, .agg #[.slice A L.hands.length c, .int .i64 L.worn, .int .i64 L.scr, .int .i64 L.total, .slice AQ k cQ], .slice (some ⟨bc, oc, none⟩) cs.length cc, .func (.func 32) #[] #[.pointer (some ⟨wo.heap.size + 1, 0, none⟩), .pointer (some ⟨wo.heap.size, 0, none⟩)], .int .i64 x.1.1, .int .i64 x.1.2, .slice (some ⟨w.heap.size + 1 + 1, 0, none⟩) k k, .int .i64 k, .int .i64 j, .bool true, .int .i64 j, u36, u37, u38, u39, u40, u41, u42, u43, u44, u45, u46, u47, u48, u49, .func (.func 44) #[] #[.pointer (some ⟨wd.heap.size, 0, none⟩), .pointer (some ⟨wd.heap.size + 1, 0, none⟩), .pointer (some ⟨wd.heap.size + 1 + 1, 0, none⟩)], .int .u8 y.val, u52, u53, u54, u55, u56, u57, undef], defers := [] })
                  (fun _ _ _ _ _ _ hs _ _ => hs) ?assign2 ?body2 ?done2 ?stop2
                case assign2 =>
                  rintro l2 pre' y W' K hi hK
                  gi_wp2
                  exact hK _ _ (KeepsFrom.refl _ _) (Keep.refl _ _) hi rfl
                case body2 =>
                  rintro l2 pre' y a'' W' _ _ ⟨⟨hk2, hbq, hm2, hsW⟩, hf2⟩ rfl hlen2
                  have hn := HNUM.out
                  have v5 : W'.cell? ⟨w1.heap.size, 0, none⟩ = some (.slice (some ⟨w.heap.size + 1 + 1, 0, none⟩) k k) := (hk2.cell (hpb _ (by omega))).trans (c5.out.cell 0)
                  have vq : W'.cell? ⟨wr.heap.size, 0, none⟩ = some (.int .i64 j) := hbq.cell 0
                  have vm : W'.cell? ⟨w.heap.size + 1 + 1, j, none⟩ = some (.map (some (w1.heap.size + 1 + j))) := (hk2.cell (hpb _ (by omega))).trans ((c2.out.cell j).trans (x3 j hjk))
                  have j0 : (0 : Int) ≤ (j : Int) := by omega
                  have j1 : (j : Int) < (k : Int) := by omega
                  have hown := hm2 j hjk
                  simp only [Nat.lt_irrefl, if_false, if_true] at hown
                  have hll : (lettersTo cs k L.total pre j ++ pre').length ≤ 100 := by
                    have e1 := lettersTo_len cs k L.total pre j hcok
                    have e2 := hcuo.2.1
                    rw [List.length_append]
                    omega
                  have HM2 := Lib.hid hm2
                  have HK2 := Lib.hid hk2
                  have HBQ := Lib.hid hbq
                  have HF2 := Lib.hid hf2
                  clear hm2 hk2 hbq hf2 hn
                  gi_wp2_with (gi_at_mapUpdate; refine wpListIn_mapUpdate_own _ rfl _ _ _ 87 rfl 5 4 (Maps.int_keyed Tryd.underlying5) Tryd.underlying87 _ (w1.heap.size + 1 + j) (lettersTo cs k L.total pre j ++ pre').length _ rfl hown (by unfold maxLen; omega) _ _ _ rfl rfl (Maps.keyOf_int_mk Tryd.underlying5 (wf_u8 y)) _ [] (plainElem_bool Tryd.underlying4 true) ?_; intro w4 hown4 hgrow4)
                  have hn := HNUM.out
                  have hnp : ¬ p (w1.heap.size + 1 + j) := by rw [hpd]; intro h; omega
                  have hnp' : ¬ p' (w1.heap.size + 1 + j) := by rw [hpd']; intro h; omega
                  have hz := HZ.out
                  have hz2 := HZ2.out
                  have hs4 := hgrow4.size
                  refine ⟨KeepsFrom.of_grownBy hgrow4 (fun i e => by cases e; omega), Keep.of_grown hgrow4 (fun i h => by have := hp' i h; omega) (fun r e h => by cases e; exact hnp' h), ⟨HK2.out.trans (Keep.of_grown hgrow4 (fun i h => by have := hp i h; omega) (fun r e h => by cases e; exact hnp h)), HBQ.out.grown hgrow4 (fun e => by injection e with e; omega), fun q hq => ?_, by omega⟩, HF2.out.trans (KeepsFrom.of_grownBy hgrow4 (fun i e => by cases e; omega))⟩
                  by_cases e2 : q = j
                  · subst e2
                    simp only [Nat.lt_irrefl, if_false, if_true, ← List.append_assoc]
                    rw [setD_snoc, List.length_append]
                    exact hown4
                  · have h5 := (HM2.out q hq).kept hgrow4 (by simp; omega)
                    simpa [e2] using h5
                case done2 =>
                  rintro ys W' rfl ⟨⟨hk2, hbq, hm2, _⟩, hf2⟩
                  have hm3 : MapsAre H W' (w1.heap.size + 1) k (fun q => if q < j + 1 then lettersTo cs k L.total (pre ++ [x]) q else lettersTo cs k L.total pre q) := fun q hq => by
                    have h5 := hm2 q hq
                    by_cases e1 : q < j
                    · have e3 : q < j + 1 := by omega
                      simpa [e1, e3] using h5
                    · by_cases e2 : q = j
                      · subst e2
                        simp only [Nat.lt_irrefl, if_false, if_true, ← HADD.out, ← lettersTo_snoc] at h5
                        simpa using h5
                      · have e3 : ¬ q < j + 1 := by omega
                        simpa [e1, e2, e3] using h5
                  clear hm2
                  gi_wp2
                  go_roundw
                  case rel => exact ⟨j + 1, by omega, by go_num, hk2, hf2, hm3⟩
                  case measure => simp [intOf]; omega
                case stop2 =>
                  rintro c pre' W' _ h
                  exact h.elim
          · obtain rfl : j = k := by omega
            have hm3 : MapsAre H wr (w1.heap.size + 1) j (lettersTo cs j L.total (pre ++ [x])) := fun q hq => by
              have h5 := hmx q hq
              simpa [hq] using h5
            have hk3 : Keep p W5 wr := HK.out.trans hkx
            clear hmx
            gi_wp2
            exact ⟨hkf, hkx, hk3, hm3⟩
      case done =>
        rintro D xs' W hD rfl ⟨hk, hmp⟩ hK
        obtain ⟨z1, z2, z3⟩ := HW.out
        have hpb : ∀ j, j < w1.heap.size + 1 → p j := fun j h => by rw [hpd]; exact ⟨by omega, by omega⟩
        obtain ⟨b1, b4, ⟨xs, x1, x2, x3⟩, b5⟩ := HB.out
        have hkb : ∀ {g : Nat} {t : TypeId} {cs : List Value}, Blok wr g t cs → g < w1.heap.size + 1 → Blok W g t cs := fun hb hg => hk.blok (hb.below H35.out (by omega)) (hpb _ hg)
        have c2 := hkb x2 (by omega)
        have c5 := hkb b5 (by omega)
        have d5 : W.cell? ⟨w1.heap.size, 0, none⟩ = some (.slice (some ⟨w.heap.size + 1 + 1, 0, none⟩) k k) := c5.cell 0
        have hs := hk.size
        have hg5 := grownBy_putObj' W D (.deferred none)
        have hfin : GatherPost H k (lettersG cs k L.total) w (.returned (.slice (some ⟨w.heap.size + 1 + 1, 0, none⟩) k k)) (W.putObj D (.deferred none)) := by
          refine ⟨(H05.out.trans (hk.below (fun i hi => hpb i (by omega)))).trans (belowK_b (w := W5) (by omega) W D _ _ hD hK rfl rfl), w.heap.size + 1 + 1, w1.heap.size + 1, rfl, by have := hg5.size; omega, by omega, by have := hg5.size; omega, fun q hq => ?_, fun q hq => ?_⟩
          · have c2' := c2.grown hg5 (fun e => by injection e with e; omega)
            rw [c2'.cell]
            exact x3 q hq
          · have h5 := (hmp q hq).kept hg5 (by simp; omega)
            have e : lettersG cs k L.total q = lettersTo cs k L.total (fits cs k L.total) q := rfl
            rw [e]
            exact h5
        have HF := Lib.hid hfin
        clear hfin hmp c2 c5 x2 b5 b4 hkb z1 z2
        go_wp2
        refine ⟨by simp, .inl ⟨_, _, rfl, run_takeDeferred hK, ?_⟩⟩
        exact ⟨_, by simp [results, Tryd.results30, go_sem], HF.out⟩
      case stop =>
        rintro D c pre W _ _ h _
        exact h.elim
theorem gather_any (H : Type) (v : Value) (cv : Value) (L : Line) (P : Nat → Prop) (w : World) (hP : ∀ k, P k → k < w.heap.size) (hL : L.ok) (hv : LineAt w w.heap.size v L) (hc : Cuts w P L.squares.length cv (cuttersOf L)) :
    Calls Tryd.prog 30 #[v, cv] w (GatherPost H L.squares.length (allLetters L) w) :=
  gatherG_any H v cv L (cuttersOf L) (cutterOf_ok L hL) (by simp [cuttersOf]; exact hL.2.1) P w hP hL hv hc
end Go.Proofs.YtcemefojpaicoaaDoor
