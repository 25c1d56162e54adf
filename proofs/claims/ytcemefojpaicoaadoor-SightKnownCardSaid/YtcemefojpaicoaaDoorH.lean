/- The hands that fit a line. -/
import Derived.Test.YtcemefojpaicoaaDoorF
import Derived.Test.YtcemefojpaicoaaDoorG
import Derived.RangeFuncWrites
import Derived.RangeFuncBox
import Derived.OneCell
namespace Go.Proofs.YtcemefojpaicoaaDoor
open Go.RowKit Go.Shelf

attribute [local go_sem] Oper.semAt_some

/-- What fitting hands back, as an iterator. -/
theorem fitting_stops (n : Nat) (hn : 1 ≤ n) (m B T : Nat) (P : Nat → Prop) (cs : List Cutter) (vh : Value) (wn sc : Nat) (AQ : Option Addr) (cQ : Nat) (cv : Value) (p : Nat → Prop) (hcs : cs.length ≤ 4) (hok : ∀ c ∈ cs, c.ok) (hm : m ≤ 8) (hT : T ≤ 40)
    (h0 : ∀ k, P k → p k) (h1 : p B) (h2 : p (B + 1)) (w : World) (hp : ∀ k, p k → k < w.heap.size) (hbox : FitBox w P m cs [vh, .int .i64 wn, .int .i64 sc, .int .i64 T, .slice AQ m cQ] cv B) :
    SeqStopsK Fence.wide n Tryd.prog 32 #[.pointer (some ⟨B + 1, 0, none⟩), .pointer (some ⟨B, 0, none⟩)] (fun x : Fit cs m T => #[.int .i64 x.1.1, .int .i64 x.1.2]) (Keep p)
      (fun ys => ys = fits cs m T) (fun pre => pre <+: fits cs m T) cs.length w := fun l J Jx W hW hJ _ hY hj =>
  fitting1_in n hn l m B T P cs vh wn sc AQ cQ cv p hcs hok hm hT h0 h1 h2 J Jx hY W hJ (fun k hk => Nat.lt_of_lt_of_le (hp k hk) hW.size)
    (hbox.keep (p := p) ⟨hW.os, hW.tape, hW.output, hW.size, fun k hk => hW.block k (hp k hk)⟩ h0 h1 h2) hj

set_option maxHeartbeats 400000 in
/-- sight.fitting: an iterator. -/
theorem fitting_any (l : List Value) (cv : Value) (hcv : cv.oneCell' = true) (w : World) :
    Calls Tryd.prog 22 #[.agg l.toArray, cv] w fun e w' =>
      e = .returned (.func (.func 32) #[] #[.pointer (some ⟨w.heap.size + 1, 0, none⟩), .pointer (some ⟨w.heap.size, 0, none⟩)]) ∧
      w' = (w.alloc (.cells l.toArray 25)).alloc (.cells #[cv] 65) := by
  have hc : cv.cells = #[cv] := by cases cv <;> first | rfl | cases hcv
  go_enter Tryd.func22, Tryd.ntmps22
  go_wp2
  go_ret
  exact ⟨rfl, rfl⟩

theorem Keep.of_grown {p : Nat → Prop} {w w' : World} {row : Option Nat} (hg : w.grownBy w' row) (hp : ∀ k, p k → k < w.heap.size) (hr : ∀ r, row = some r → ¬ p r) : Keep p w w' :=
  ⟨hg.os, hg.tape, hg.output, hg.size, fun k hk => hg.block k (hp k hk) (fun e => hr k e.symm hk)⟩
theorem Keep.putObj {p : Nat → Prop} {B : Nat} (hp : ∀ k, p k → k < B) (W : World) (l : Nat) (o o' : Obj) (hl : B ≤ l) (h : W.heap[l]? = some o) (_ : o.isCells = false) (_ : o.isWalk = false) : Keep p W (W.putObj l o') :=
  Keep.of_grown (grownBy_putObj' W l o') (fun k hk => by have := hp k hk; have := (Array.getElem?_eq_some_iff.1 h).1; omega) (fun r e hr => by cases e; have := hp _ hr; omega)
theorem Keep.below {p : Nat → Prop} {B : Nat} {w w' : World} (h : Keep p w w') (hB : ∀ k, k < B → p k) : Below B w w' := ⟨h.os, h.tape, h.output, h.size, fun k hk => h.block k (hB k hk)⟩
theorem Blok.grown {w w' : World} {g : Nat} {t : TypeId} {cs : List Value} {row : Option Nat} (h : Blok w g t cs) (hg : w.grownBy w' row) (hr : row ≠ some g) : Blok w' g t cs := (hg.block g h.size (fun e => hr e.symm)).trans h
theorem own_ne {w : World} {base : Nat} {e t : TypeId} {size n g : Nat} {v : Value} {xs cs : List Value} (h : w.ownsRow base e size v n xs) (hb : Blok w g t cs) (hne : e ≠ t) : v.ownBlock ≠ some g := by
  rcases h.2 with ⟨rfl, _⟩ | ⟨g', cap, cur, rfl, _, hh, _⟩
  · simp [Value.ownBlock]
  · intro he
    have e1 : g' = g := by simpa [Value.ownBlock] using he
    subst e1
    unfold Blok at hb
    rw [hh] at hb
    injection hb with hb
    injection hb with _ ht
    exact hne ht
/-- A loop that collects: what its round may be handed. -/
def Collect {β : Type} (p : Nat → Prop) (W5 : World) (hb : Nat) (t e : TypeId) (base : Nat) (f : β → Value) (pre : List β) (W : World) : Prop :=
  Keep p W5 W ∧ ∃ v, Blok W hb t [v] ∧ W.ownsRow base e 1 v pre.length (pre.map f)
theorem collect_own {β : Type} {p : Nat → Prop} {W5 : World} {hb : Nat} {t e : TypeId} {base : Nat} {f : β → Value} (hp : ∀ k, p k → k < W5.heap.size) : OwnFrom W5.heap.size (Collect (β := β) p W5 hb t e base f) := by
  rintro s A B row ⟨hk, v, hv, ho⟩ hg hr
  refine ⟨hk.trans (Keep.of_grown hg (fun k h => Nat.lt_of_lt_of_le (hp k h) hk.size) (fun r e h => ?_)), v, hv.grown hg (fun e => ?_), ho.kept hg ?_⟩
  · have := (hr r e).1
    have := hp r h
    omega
  · obtain ⟨_, o, ho, hc⟩ := hr _ e
    unfold Blok at hv
    rw [ho] at hv
    cases hv
    cases hc
  · rcases ho.2 with ⟨rfl, _⟩ | ⟨g, cap, cur, rfl, _, hh, _⟩
    · exact .inl rfl
    · refine .inr fun e => ?_
      obtain ⟨_, o, ho', hc⟩ := hr g e.symm
      rw [hh] at ho'
      cases ho'
      cases hc

theorem collect_step {β : Type} {p : Nat → Prop} {W5 W w3 : World} {hb : Nat} {t e : TypeId} {f : β → Value} {pre : List β} {x : β} {v v' : Value} (hp : ∀ k, p k → k < W5.heap.size) (hh : ¬ p hb) (hne' : e ≠ t) (hk : Keep p W5 W) (hv : Blok W hb t [v]) (hown : W.ownsRow W5.heap.size e 1 v pre.length (pre.map f))
    (o : Obj) (hgrow : (W.alloc o).grownBy w3 v.ownBlock) (hown' : w3.ownsRow W5.heap.size e 1 v' (pre.length + 1) (pre.map f ++ [f x])) :
    KeepsFrom W5.heap.size W (w3.setCell ⟨hb, 0, none⟩ v') ∧ Keep p W (w3.setCell ⟨hb, 0, none⟩ v') ∧ Collect p W5 hb t e W5.heap.size f (pre ++ [x]) (w3.setCell ⟨hb, 0, none⟩ v') := by
  have hne : v.ownBlock ≠ some hb := own_ne hown hv hne'
  have hv3 := (hv.alloc o).grown hgrow hne
  have hk3 : Keep p W (w3.setCell ⟨hb, 0, none⟩ v') := by
    have k1 : Keep p W (W.alloc o) := Keep.of_below ((Below.refl _ _).alloc (Nat.le_refl _) _) (fun k h => Nat.lt_of_lt_of_le (hp k h) hk.size)
    have k2 : Keep p (W.alloc o) w3 := Keep.of_grown hgrow (fun k h => by have := hp k h; have := hk.size; simp; omega) (fun r e h => by have := (hown.lt r e).1; have := hp r h; omega)
    have k3 : Keep p w3 (w3.setCell ⟨hb, 0, none⟩ v') := ⟨rfl, rfl, rfl, by simp [World.setCell], fun k h => heap_setCell_other w3 _ k v' (fun e => hh (by have e' : k = hb := e; rw [← e']; exact h))⟩
    exact (k1.trans k2).trans k3
  refine ⟨?_, hk3, hk.trans hk3, v', ?_, ?_⟩
  · refine KeepsOthers.from (((KeepsOthers.alloc W o).trans (KeepsOthers.of_grownBy hgrow ?_)).trans (KeepsOthers.setCell _ _ _)) _
    intro j o' hj ho'
    rcases (hown.alloc o).2 with ⟨rfl, _⟩ | ⟨g, cap, cur, rfl, _, hg, _⟩
    · simp [Value.ownBlock] at hj
    · simp [Value.ownBlock] at hj
      subst hj
      rw [hg] at ho'
      cases ho'
      rfl
  · have := hv3.put 0 v'
    exact this
  · rw [List.length_append, List.map_append]
    refine ownsRow_setCell_other hown' (fun e => ?_) _
    rcases hown'.2 with ⟨rfl, h0⟩ | ⟨g, cap, cur, rfl, _, hg, _⟩
    · omega
    · simp [Value.ownBlock] at e
      subst e
      unfold Blok at hv3
      rw [hg] at hv3
      injection hv3 with hv3
      injection hv3 with _ ht
      exact hne' ht

/-- The numbers of the hands that fit. -/
def handsOf (L : Line) : List Nat := (fits (cuttersOf L) L.squares.length L.total).map fun x => x.1.1
def Ints (w : World) (B : Nat) (v : Value) (l : List Nat) : Prop := Sl B v l.length (intsR w l)
theorem ints_of_own {w : World} {base : Nat} {t : TypeId} {v : Value} {l : List Nat} (h : w.ownsRow base t 1 v l.length (l.map fun (n : Nat) => .int .i64 n)) : Ints w w.heap.size v l := by
  rcases h.2 with ⟨rfl, hn⟩ | ⟨g, cap, cur, rfl, hbg, hg, hcap, _, hsz, htake⟩
  · exact ⟨none, 0, by rw [hn], fun h0 => by omega⟩
  · refine ⟨_, _, rfl, fun _ => ⟨g, 0, rfl, (Array.getElem?_eq_some_iff.1 hg).1, fun k x hx => ?_⟩⟩
    have hk : k < l.length := (List.getElem?_eq_some_iff.1 hx).1
    have h8 : (List.take (l.length * 1) cur.toList)[k]? = some (.int .i64 x) := by rw [htake, List.getElem?_map, hx]; rfl
    rw [List.getElem?_take, if_pos (by omega)] at h8
    rw [cell_of_row w g _ cur t (0, 0) hg, Nat.zero_add]
    simpa using h8
/-- A slice that is no longer than its room. -/
def HasCap (v : Value) : Prop := ∀ A n c, v = .slice A n c → n ≤ c
theorem own_cap {w : World} {base n size : Nat} {e : TypeId} {v : Value} {xs : List Value} (h : w.ownsRow base e size v n xs) : HasCap v := by
  intro A m c hv
  rcases h.2 with ⟨rfl, h0⟩ | ⟨g, cap, cur, rfl, _, _, hcap, _⟩
  · injection hv with _ h1 h2
    omega
  · injection hv with _ h1 h2
    omega
/-- Hands answers ErrClash, or the numbers. -/
def HandsPost (L : Line) (w : World) (e : Ending) (w' : World) : Prop :=
  Below w.heap.size w w' ∧ ((handsOf L = [] ∧ e = .returned (.tuple #[.slice none 0 0, .int .i64 9])) ∨ (handsOf L ≠ [] ∧ ∃ v, e = .returned (.tuple #[v, .int .i64 0]) ∧ Ints w' w'.heap.size v (handsOf L) ∧ HasCap v))

theorem info_int : (Tryd.prog.info? 3).map (fun i => (i.zero, i.size, i.bytes)) = some (some (.int .i64 0), 1, 8) := by kernel_rfl

set_option maxRecDepth 100000 in
set_option maxHeartbeats 2000000 in
theorem hands_any (v : Value) (L : Line) (w : World) (hL : L.ok) (hv : LineAt w w.heap.size v L) :
    Calls Tryd.prog 8 #[v] w (HandsPost L w) := by
  have HL := Lib.hid hL
  have HV := Lib.hid hv
  obtain ⟨vh, vs, rfl, hh, hq⟩ := hv
  obtain ⟨A, c, rfl, -⟩ := hh
  obtain ⟨AQ, cQ, rfl, -⟩ := hq
  refine (callsIn_wide (n := 3)).1 ?_
  refine callsIn_of_wp_marks Tryd.func8 rfl trivial ?_ rfl
  simp only [Tryd.ntmps8, List.size_toArray, List.length_cons, List.length_nil, Nat.reduceAdd, Nat.reduceSub, Array.replicate_succ, Array.replicate_zero, List.push_toArray, List.append_toArray, List.nil_append, List.cons_append]
  refine wpIn_wide.2 ?_
  go_wp2_with (go_at_call 7; refine (check_ok _ L _ HL.out (HV.out.keep (Same.of_below ((Below.refl _ _).alloc (Nat.le_refl _) _)) (by simp))).mono ?_; rintro e w1 ⟨rfl, hb1⟩)
  have hbx := (Blok.new w 25 [.slice A L.hands.length c, .int .i64 L.worn, .int .i64 L.scr, .int .i64 L.total, .slice AQ L.squares.length cQ]).below hb1 (by simp)
  have l0 : w1.cell? ⟨w.heap.size, 0, none⟩ = some (.slice A L.hands.length c) := hbx.cell 0
  have l1 : w1.cell? ⟨w.heap.size, 1, none⟩ = some (.int .i64 L.worn) := hbx.cell 1
  have l2 : w1.cell? ⟨w.heap.size, 2, none⟩ = some (.int .i64 L.scr) := hbx.cell 2
  have l3 : w1.cell? ⟨w.heap.size, 3, none⟩ = some (.int .i64 L.total) := hbx.cell 3
  have l4 : w1.cell? ⟨w.heap.size, 4, none⟩ = some (.slice AQ L.squares.length cQ) := hbx.cell 4
  have z1 := hbx.size
  have HB1 : Hid (Below w.heap.size w w1) := Lib.hid (((Below.refl _ _).alloc (Nat.le_refl _) _).trans (hb1.mono (by simp)))
  clear hbx hb1 hL
  go_region_held3 (fun w' => w'.cell? ⟨w.heap.size, 0, none⟩ = some (.slice A L.hands.length c) ∧ w'.cell? ⟨w.heap.size, 1, none⟩ = some (.int .i64 L.worn) ∧ w'.cell? ⟨w.heap.size, 2, none⟩ = some (.int .i64 L.scr) ∧ w'.cell? ⟨w.heap.size, 3, none⟩ = some (.int .i64 L.total) ∧ w'.cell? ⟨w.heap.size, 4, none⟩ = some (.slice AQ L.squares.length cQ))
    (first
      | go_keep
      | (refine ⟨?_, ?_, ?_, ?_, ?_⟩ <;> (refine (hb2.cell (p := ⟨_, _, none⟩) (by simp; try omega)).trans ?_; simp [*])))
    (first
      | (go_at_call 23; refine (cutters_any _ L _ w.heap.size (by simp; omega) HL.out (HV.out.keep (Same.of_below ((HB1.out.alloc HB1.out.size _).drew)) (Nat.le_refl _))).mono ?_; rintro e w2 ⟨cv, rfl, hcut, hb2⟩; have HCUT := Lib.hid hcut; obtain ⟨Ac, cc, rfl, -⟩ := hcut; have hz2 : w.heap.size < w2.heap.size := (by have := hb2.size; simp at this; omega))
      | (go_at_call 22; refine (fitting_any [.slice A L.hands.length c, .int .i64 L.worn, .int .i64 L.scr, .int .i64 L.total, .slice AQ L.squares.length cQ] _ rfl _).mono ?_; rintro e w3 ⟨rfl, rfl⟩))
  go_wp2_with fail
  refine (wpIn_wide (n := 3)).1 ?_
  have hcok : ∀ c ∈ cuttersOf L, c.ok := cutterOf_ok L HL.out
  have hcl : (cuttersOf L).length ≤ 4 := by simp [cuttersOf]; exact HL.out.2.1
  have hm8 : L.squares.length ≤ 8 := HL.out.2.2.2.2.2.2.2.1
  have hw1 := HB1.out.size
  have hs2 : w1.heap.size + 1 ≤ w2.heap.size := by have := hb2.size; simp at this; exact this
  have hv0 : Blok w2 w1.heap.size 40 [.slice none 0 0] := ((Blok.new w1 40 [.slice none 0 0]).drewN 1).below hb2 (by simp)
  obtain ⟨W5, hW5⟩ : ∃ W5, (w2.alloc (.cells #[.slice A L.hands.length c, .int .i64 L.worn, .int .i64 L.scr, .int .i64 L.total, .slice AQ L.squares.length cQ] 25)).alloc (.cells #[.slice Ac (cuttersOf L).length cc] 65) = W5 := ⟨_, rfl⟩
  have h25 : Below w2.heap.size w2 W5 := by rw [← hW5]; exact ((Below.refl _ _).alloc (Nat.le_refl _) _).alloc (by simp) _
  have hs5 : W5.heap.size = w2.heap.size + 2 := by rw [← hW5]; simp
  have hline : Blok W5 w2.heap.size 25 [.slice A L.hands.length c, .int .i64 L.worn, .int .i64 L.scr, .int .i64 L.total, .slice AQ L.squares.length cQ] := by
    rw [← hW5]; exact (Blok.new w2 _ _).alloc _
  have hcuts : Blok W5 (w2.heap.size + 1) 65 [.slice Ac (cuttersOf L).length cc] := by
    have := Blok.new (w2.alloc (.cells #[.slice A L.hands.length c, .int .i64 L.worn, .int .i64 L.scr, .int .i64 L.total, .slice AQ L.squares.length cQ] 25)) 65 [.slice Ac (cuttersOf L).length cc]
    rw [World.size_alloc] at this
    rw [← hW5]; exact this
  rw [hW5]
  have hbox : FitBox W5 (fun k => k < w.heap.size ∨ w1.heap.size + 1 + 1 ≤ k ∧ k < w2.heap.size) L.squares.length (cuttersOf L) [.slice A L.hands.length c, .int .i64 L.worn, .int .i64 L.scr, .int .i64 L.total, .slice AQ L.squares.length cQ] (.slice Ac (cuttersOf L).length cc) w2.heap.size := by
    refine ⟨hline, hcuts, HCUT.out.keep (fun b o hb => h25.cell (p := ⟨b, o, none⟩) (show b < w2.heap.size by simp at hb; omega)) (fun b hb => by simpa using hb)⟩
  have hp : ∀ k, (k < W5.heap.size ∧ k ≠ w1.heap.size) → k < W5.heap.size := fun k h => h.1
  have hv5 := hv0.below h25 (by omega)
  have hown0 : W5.ownsRow W5.heap.size 3 1 (.slice none 0 0) 0 [] := World.ownsRow_nil _ _ _ _
  obtain ⟨i0, hi, hz0, hz1, hz2⟩ := info_parts info_int
  clear hW5 l0 l1 l2 l3 l4
  refine wpIn_rangeFunc_ownG rfl (by omega) (gf := 32) (lb := #[.pointer (some ⟨w2.heap.size + 1, 0, none⟩), .pointer (some ⟨w2.heap.size, 0, none⟩)]) rfl trivial (enters_of Tryd.func32 (by kernel_rfl) rfl)
    (fitting_stops (3 - 1) (by omega) L.squares.length w2.heap.size L.total _ (cuttersOf L) (.slice A L.hands.length c) L.worn L.scr AQ cQ (.slice Ac (cuttersOf L).length cc) (fun k => k < W5.heap.size ∧ k ≠ w1.heap.size) hcl hcok hm8 (HL.out.2.2.2.2.2.1) (fun k hk => by omega) (by omega) (by omega) W5 hp hbox)
    Keep.trans (Keep.putObj hp) (Below.refl _ _) (fun _ => rfl)
    (Collect (fun k => k < W5.heap.size ∧ k ≠ w1.heap.size) W5 w1.heap.size 40 3 W5.heap.size (fun x : Fit (cuttersOf L) L.squares.length L.total => .int .i64 x.1.1))
    (fun _ _ _ => False) (collect_own hp) (fun _ _ _ _ _ hs _ _ => hs) ⟨Keep.refl _ _, _, hv5, hown0⟩
    (fun x => { tmps := #[.agg #[.slice A L.hands.length c, .int .i64 L.worn, .int .i64 L.scr, .int .i64 L.total, .slice AQ L.squares.length cQ], .pointer (some ⟨w.heap.size, 0, none⟩), .slice none 0 0, .int .i64 0, .int .i64 0, .pointer (some ⟨w1.heap.size, 0, none⟩), .int .i64 x.1.1,
      .agg #[.slice A L.hands.length c, .int .i64 L.worn, .int .i64 L.scr, .int .i64 L.total, .slice AQ L.squares.length cQ], .int .i64 0, .int .i64 0, .bool false, undef,
      .agg #[.slice A L.hands.length c, .int .i64 L.worn, .int .i64 L.scr, .int .i64 L.total, .slice AQ L.squares.length cQ], .agg #[.slice A L.hands.length c, .int .i64 L.worn, .int .i64 L.scr, .int .i64 L.total, .slice AQ L.squares.length cQ],
      .slice Ac (cuttersOf L).length cc, .func (.func 32) #[] #[.pointer (some ⟨w2.heap.size + 1, 0, none⟩), .pointer (some ⟨w2.heap.size, 0, none⟩)], .int .i64 x.1.1, .int .i64 x.1.2, undef, undef, undef, undef, undef, undef, undef, undef], defers := [] }) ?assign ?body ?done ?stop
  case assign =>
    intro l x W K hK
    gi_wp2
    exact hK
  case body =>
    rintro l pre x W ⟨hk, v, hv, hown⟩ hlen
    have hcv : W.cell? ⟨w1.heap.size, 0, none⟩ = some v := hv.cell 0
    have hne : v.ownBlock ≠ some w1.heap.size := own_ne hown hv (by decide)
    have hz := hv.size
    have hkz := hk.size
    gi_wp2_with (gi_at_builtin; refine wpListIn_append_own _ rfl _ _ 40 rfl W5.heap.size 3 i0 (.int .i64 0) 1 8 Tryd.underlying40 hi hz0 hz1 hz2 rfl (by decide) v pre.length _ (by rfl) (hown.alloc _) ⟨W.heap.size, 0, none⟩ 1 1 [.int .i64 x.1.1] rfl rfl (cell_one_new _ _ _) (by simp [Value.oneCell']) (by unfold maxLen; omega) (by omega) (by simp; omega) ?_; intro v' w3 hown' hgrow _; obtain ⟨g', cap', rfl⟩ := ownsRow_succ hown'; have hv3 := (hv.alloc (.cells #[.int .i64 x.1.1] 3)).grown hgrow hne; have hc3 := hv3.cell 0; have hf3 := hv3.free 0)
    exact collect_step hp (by omega) (by decide) hk hv hown _ hgrow hown'
  case done =>
    rintro D xs W hD rfl ⟨hk, v, hv, hown⟩ hK
    obtain ⟨n, hn⟩ : ∃ n, n = (fits (cuttersOf L) L.squares.length L.total).length := ⟨_, rfl⟩
    have HN := Lib.hid hn
    have HO := Lib.hid hown
    rw [← hn] at hown
    have hform : ∃ Av cv, v = .slice Av n cv := by
      rcases hown.2 with ⟨rfl, h0⟩ | ⟨g, cap, cur, rfl, _⟩
      · exact ⟨none, 0, by rw [h0]⟩
      · exact ⟨_, _, rfl⟩
    obtain ⟨Av, cv, rfl⟩ := hform
    have hcv : W.cell? ⟨w1.heap.size, 0, none⟩ = some (.slice Av n cv) := hv.cell 0
    have hB : Below w.heap.size w (W.putObj D (.deferred none)) := by
      have hB5 : Below w.heap.size w W5 := (HB1.out.trans ((((Below.refl _ _).alloc hw1 _).drew.trans ((hb2.mono (by simp; omega)))))).trans (h25.mono (by omega))
      exact (hB5.trans (hk.below (fun k hk => by omega))).trans (belowK_b (w := W5) (by omega) W D _ _ hD hK rfl rfl)
    have HB := Lib.hid hB
    have HK := Lib.hid hk
    clear hk hB hown hn
    by_cases h0 : n = 0
    · have h0' : ((n : Int) == 0) = true := by simp [h0]
      have hnil : handsOf L = [] := by
        have : (handsOf L).length = 0 := by unfold handsOf; rw [List.length_map, ← HN.out, h0]
        exact List.eq_nil_of_length_eq_zero this
      have HNIL := Lib.hid hnil
      clear h0 hnil
      go_wp2
      refine ⟨by simp, .inl ⟨_, _, rfl, run_takeDeferred hK, ?_⟩⟩
      refine ⟨_, by simp [results, Tryd.results8, go_sem]; rfl, ?_⟩
      exact ⟨HB.out, .inl ⟨HNIL.out, rfl⟩⟩
    · have h0' : ((n : Int) == 0) = false := by simpa using h0
      go_wp2
      refine ⟨by simp, .inl ⟨_, _, rfl, run_takeDeferred hK, ?_⟩⟩
      refine ⟨_, by simp [results, Tryd.results8, go_sem]; rfl, ?_⟩
      have hlen : (handsOf L).length = n := by unfold handsOf; rw [List.length_map, ← HN.out]
      have ho := ownsRow_putObj HO.out (.deferred none) hK rfl
      have hmap : (fits (cuttersOf L) L.squares.length L.total).map (fun x => Value.int .i64 x.1.1) = (handsOf L).map fun (n : Nat) => Value.int .i64 n := by unfold handsOf; rw [List.map_map]; rfl
      rw [← HN.out, hmap, ← hlen] at ho
      refine ⟨HB.out, .inr ⟨fun e => h0 (by rw [← hlen, e]; rfl), _, rfl, ?_⟩⟩
      rw [← hlen]
      exact ⟨ints_of_own ho, own_cap ho⟩
  case stop =>
    rintro D c pre W _ _ h _
    exact h.elim
end Go.Proofs.YtcemefojpaicoaaDoor
