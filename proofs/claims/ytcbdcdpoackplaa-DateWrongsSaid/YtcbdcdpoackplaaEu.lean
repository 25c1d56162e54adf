/- The chapter's dating, made. · The chapter's dating, read; with another span. · The chapter's dating G, made. -/
import Derived.Test.YtcbdcdpoackplaaLv
import Derived.Test.YtcbdcdpoackplaaDe
import Derived.Test.YtcbdcdpoackplaaLn
import Derived.Deep.AppendLies
import Derived.Deep.RegionLaw
namespace Go.Proofs.Ytcbdcdpoackplaa
section
section
open Go.RowKit Dt

set_option maxRecDepth 100000 in
theorem to_any (a b : Int) (w : World) : Calls Try.prog 23 #[.int .i64 a, .int .i64 b] w fun e w' => e = .returned (.agg #[.int .i64 a, .int .i64 b]) ∧ Below w.heap.size w w' := by
  have hb : Below w.heap.size w (w.alloc (.cells #[.int .i64 a, .int .i64 b] 39)) := (Below.refl _ w).alloc (Nat.le_refl _) _
  have HB := Lib.hid hb
  have HR := Lib.hid (Blok.new w 39 [.int .i64 a, .int .i64 b])
  clear hb
  go_enter Try.func23, Try.ntmps23
  go_wp2_with fail
  refine bodyPost_ret (v := .agg #[.int .i64 a, .int .i64 b]) ?_ rfl ⟨rfl, ?_⟩
  · exact results_cell_row Try.results23 _ _ w.heap.size 39 _ (0, 0) _ rfl HR.out Try.underlying39 rfl (by kernel_rfl)
  · exact HB.out
/-- The cells of D's notes. -/
def noteL (y : Value) (lo hi : Int) : List Value :=
  [.int .i64 3, .int .i64 0, .int .i64 0, .slice none 0 0, .int .i64 100, .int .i64 100, .int .i64 1, .int .i64 1, .int .i64 0, y, .int .i64 0, .int .i64 0, .int .i64 4, .int .i64 1, .int .i64 0, .slice none 0 0, .int .i64 lo, .int .i64 hi,
   .int .i64 2, .int .i64 2, .int .i64 0, .slice none 0 0, .int .i64 (-200), .int .i64 (-150), .int .i64 4, .int .i64 2, .int .i64 1, .slice none 0 0, .int .i64 0, .int .i64 30]
/-- The dating D in blocks of its own. -/
structure MadeD (w w' : World) (lo hi : Int) (b1 by_ b2 : Nat) : Prop where
  eras : Blok w' b1 39 [.int .i64 (-312), .int .i64 (-311)]
  years : Blok w' by_ 3 [.int .i64 (-215), .int .i64 (-207)]
  notes : Blok w' b2 51 (noteL (.slice (some ⟨by_, 0, none⟩) 2 2) lo hi)
  new1 : w.heap.size ≤ b1
  newy : w.heap.size ≤ by_
  new2 : w.heap.size ≤ b2
  below : Below w.heap.size w w'
def dV (b1 b2 : Nat) : Value := .agg #[.int .i64 3, .slice (some ⟨b1, 0, none⟩) 1 1, .slice (some ⟨b2, 0, none⟩) 5 5]
set_option maxRecDepth 100000 in
set_option maxHeartbeats 1000000 in
theorem dating_any (w : World) : Calls Try.prog 50 #[] w fun e w' => ∃ b1 by_ b2, e = .returned (dV b1 b2) ∧ MadeD w w' 1 10 b1 by_ b2 := by
  have k0 := Blok.new w 28 [.int .i64 0, .slice none 0 0, .slice none 0 0]
  have HK0 := Lib.hid k0
  have HW0 := Lib.hid ((Below.refl w.heap.size w).alloc (Nat.le_refl _) (.cells #[.int .i64 0, .slice none 0 0, .slice none 0 0] 28))
  clear k0
  go_enter Try.func50, Try.ntmps50
  go_wp2_with (first
    | (go_at_call 23; (with_reducible refine (to_any (-312) (-311) _).mono ?_); rintro e w1 ⟨rfl, hb⟩; have HK1 := Lib.hid (HK0.out.below hb HK0.out.size); have HW1 := Lib.hid (HW0.out.trans (hb.mono HW0.out.size)); clear hb)
    | (go_at_call 23; (with_reducible refine (to_any 100 100 _).mono ?_); rintro e w2 ⟨rfl, hb⟩; have HS2 := Lib.hid ((Blok.new w1 39 [.int .i64 (-312), .int .i64 (-311)]).below hb (by simp)); have HK2 := Lib.hid ((HK1.out.alloc _).below hb (by have := HK1.out.size; simp; omega)); have HW2 := Lib.hid ((HW1.out.alloc HW1.out.size _).trans (hb.mono (by have := HW1.out.size; simp; omega))); have HZ2 := Lib.hid (show w1.heap.size + 1 ≤ w2.heap.size by have := hb.size; simpa using this); clear hb)
    | (go_at_call 23; (with_reducible refine (to_any 1 10 _).mono ?_); rintro e w3 ⟨rfl, hb⟩; have HY3 := Lib.hid ((Blok.new w2 3 [.int .i64 (-215), .int .i64 (-207)]).below hb (by simp)); have HK3 := Lib.hid ((HK2.out.alloc _).below hb (by have := HK2.out.size; simp; omega)); have HS3 := Lib.hid ((HS2.out.alloc _).below hb (by have := HS2.out.size; simp; omega)); have HW3 := Lib.hid ((HW2.out.alloc HW2.out.size _).trans (hb.mono (by have := HW2.out.size; simp; omega))); have HZ3 := Lib.hid (show w2.heap.size + 1 ≤ w3.heap.size by have := hb.size; simpa using this); clear hb)
    | (go_at_call 23; (with_reducible refine (to_any (-200) (-150) _).mono ?_); rintro e w4 ⟨rfl, hb⟩; have HY4 := Lib.hid (HY3.out.below hb HY3.out.size); have HK4 := Lib.hid (HK3.out.below hb HK3.out.size); have HS4 := Lib.hid (HS3.out.below hb HS3.out.size); have HW4 := Lib.hid (HW3.out.trans (hb.mono HW3.out.size)); clear hb)
    | (go_at_call 23; (with_reducible refine (to_any 0 30 _).mono ?_); rintro e w5 ⟨rfl, hb⟩; have HY5 := Lib.hid (HY4.out.below hb HY4.out.size); have k5 := HK4.out.below hb HK4.out.size; have c0 := k5.cell 0; have c1 := k5.cell 1; have c2 := k5.cell 2; have f0 := k5.free 0; have f1 := k5.free 1; have f2 := k5.free 2; simp at c0 c1 c2; have z5 := k5.size; have hne5 : w.heap.size ≠ w5.heap.size := (by omega); have HK5 := Lib.hid k5; have HS5 := Lib.hid (HS4.out.below hb HS4.out.size); have HW5 := Lib.hid (HW4.out.trans (hb.mono HW4.out.size)); clear hb k5))
  have z1 := HK1.out.size
  have z2 := HZ2.out
  have z3 := HZ3.out
  have hs1 := HS5.out.size
  have hy1 := HY5.out.size
  have n1 : w1.heap.size ≠ w.heap.size := by omega
  have n2 : w2.heap.size ≠ w.heap.size := by omega
  obtain ⟨W, hW⟩ : ∃ W, W = ((w5.setCell ⟨w.heap.size, 0, none⟩ (.int .i64 3)).setCell ⟨w.heap.size, 1, none⟩ (.slice (some ⟨w1.heap.size, 0, none⟩) 1 1)).setCell ⟨w.heap.size, 2, none⟩ (.slice (some ⟨w5.heap.size, 0, none⟩) 5 5) := ⟨_, rfl⟩
  have hz : W.heap.size = w5.heap.size := by rw [hW]; simp [World.setCell]
  have kS : Blok W w1.heap.size 39 [.int .i64 (-312), .int .i64 (-311)] := by rw [hW]; exact ((HS5.out.far n1 _).far n1 _).far n1 _
  have kY : Blok W w2.heap.size 3 [.int .i64 (-215), .int .i64 (-207)] := by rw [hW]; exact ((HY5.out.far n2 _).far n2 _).far n2 _
  have kR : Blok W w.heap.size 28 [.int .i64 3, .slice (some ⟨w1.heap.size, 0, none⟩) 1 1, .slice (some ⟨w5.heap.size, 0, none⟩) 5 5] := by rw [hW]; exact ((HK5.out.put 0 _).put 1 _).put 2 _
  have bW : Below w.heap.size w W := by rw [hW]; exact ((HW5.out.setCell (p := ⟨w.heap.size, 0, none⟩) (Nat.le_refl _) _).setCell (p := ⟨w.heap.size, 1, none⟩) (Nat.le_refl _) _).setCell (p := ⟨w.heap.size, 2, none⟩) (Nat.le_refl _) _
  have kN := Blok.new W 51 (noteL (.slice (some ⟨w2.heap.size, 0, none⟩) 2 2) 1 10)
  rw [hz] at kN
  rw [← hW]
  clear hW
  refine bodyPost_ret (v := dV w1.heap.size w5.heap.size) ?_ rfl ⟨w1.heap.size, w2.heap.size, w5.heap.size, rfl, kS.alloc _, kY.alloc _, kN, by omega, by omega, by omega, bW.alloc bW.size _⟩
  exact results_cell_row Try.results50 _ _ w.heap.size 28 _ (0, 0) _ rfl (kR.alloc _) Try.underlying28 rfl (by kernel_rfl)
end
section
open Go.RowKit Dt

theorem ints_nil (w : World) (B : Nat) : Ints w B (.slice none 0 0) [] := ⟨none, 0, rfl, fun h => absurd h (by simp)⟩
theorem MadeD.dat {w w' : World} {lo hi : Int} {b1 by_ b2 : Nat} (h : MadeD w w' lo hi b1 by_ b2) : DatAt w' w'.heap.size (dV b1 b2) (exD lo hi) := by
  refine ⟨_, _, rfl, ⟨_, _, rfl, fun _ => ⟨b1, 0, rfl, h.eras.size, fun k x hx => ?_⟩⟩, ⟨_, _, rfl, fun _ => ⟨b2, 0, rfl, h.notes.size, fun k x hx => ?_⟩⟩⟩
  · rcases k with _ | k
    · simp [exD] at hx
      subst hx
      exact ⟨h.eras.cell 0, h.eras.cell 1⟩
    · simp [exD] at hx
  · have hy : Ints w' w'.heap.size (.slice (some ⟨by_, 0, none⟩) 2 2) [-215, -207] := ⟨_, _, rfl, fun _ => ⟨by_, 0, rfl, h.years.size, fun k x hx => by
      rcases k with _ | _ | k
      · simp at hx
        subst hx
        exact h.years.cell 0
      · simp at hx
        subst hx
        exact h.years.cell 1
      · simp at hx⟩⟩
    rcases k with _ | _ | _ | _ | _ | k
    · simp [exD] at hx
      subst hx
      exact ⟨h.notes.cell 0, h.notes.cell 1, h.notes.cell 2, ⟨_, h.notes.cell 3, ints_nil _ _⟩, h.notes.cell 4, h.notes.cell 5⟩
    · simp [exD] at hx
      subst hx
      exact ⟨h.notes.cell 6, h.notes.cell 7, h.notes.cell 8, ⟨_, h.notes.cell 9, hy⟩, h.notes.cell 10, h.notes.cell 11⟩
    · simp [exD] at hx
      subst hx
      exact ⟨h.notes.cell 12, h.notes.cell 13, h.notes.cell 14, ⟨_, h.notes.cell 15, ints_nil _ _⟩, h.notes.cell 16, h.notes.cell 17⟩
    · simp [exD] at hx
      subst hx
      exact ⟨h.notes.cell 18, h.notes.cell 19, h.notes.cell 20, ⟨_, h.notes.cell 21, ints_nil _ _⟩, h.notes.cell 22, h.notes.cell 23⟩
    · simp [exD] at hx
      subst hx
      exact ⟨h.notes.cell 24, h.notes.cell 25, h.notes.cell 26, ⟨_, h.notes.cell 27, ints_nil _ _⟩, h.notes.cell 28, h.notes.cell 29⟩
    · simp [exD] at hx
set_option maxRecDepth 100000 in
set_option maxHeartbeats 1000000 in
theorem with_any (lo hi : Int) (w : World) : Calls Try.prog 49 #[.agg #[.int .i64 lo, .int .i64 hi]] w fun e w' => ∃ b1 by_ b2, e = .returned (dV b1 b2) ∧ MadeD w w' lo hi b1 by_ b2 := by
  go_enter Try.func49, Try.ntmps49
  obtain ⟨W, hW⟩ : ∃ W, W = (w.alloc (.cells #[.int .i64 lo, .int .i64 hi] 39)).alloc (.cells #[.int .i64 0, .slice none 0 0, .slice none 0 0] 28) := ⟨_, rfl⟩
  have b0 : Below w.heap.size w W := by rw [hW]; exact ((Below.refl _ w).alloc (Nat.le_refl _) _).alloc (by simp) _
  have k0 : Blok W w.heap.size 39 [.int .i64 lo, .int .i64 hi] := by rw [hW]; exact (Blok.new w _ _).alloc _
  have k1 : Blok W (w.heap.size + 1) 28 [.int .i64 0, .slice none 0 0, .slice none 0 0] := by
    rw [hW]
    have := Blok.new (w.alloc (.cells #[.int .i64 lo, .int .i64 hi] 39)) 28 [.int .i64 0, .slice none 0 0, .slice none 0 0]
    simpa only [World.size_alloc] using this
  go_wp2_with fail
  rw [← hW]
  clear hW
  refine (dating_any W).mono ?_
  rintro e w1 ⟨b1, by_, b2, rfl, hm⟩
  have K0 := Lib.hid (k0.below hm.below k0.size)
  have K1 := Lib.hid (k1.below hm.below k1.size)
  have HB := Lib.hid (b0.trans (hm.below.mono b0.size))
  have c0 := K0.out.cell 0
  have c1 := K0.out.cell 1
  simp at c0 c1
  have n16 := hm.notes.cell 16
  have n17 := hm.notes.cell 17
  have f16 := hm.notes.free 16
  have f17 := hm.notes.free 17
  simp [noteL] at n16 n17
  have q0 := K1.out.cell 0
  have q1 := K1.out.cell 1
  have q2 := K1.out.cell 2
  have f0 := K1.out.free 0
  have f1 := K1.out.free 1
  have f2 := K1.out.free 2
  simp at q0 q1 q2
  have z2 := hm.notes.size
  have z0 := K1.out.size
  have z00 := K0.out.size
  have y2 := hm.new2
  have zW : w.heap.size + 1 < W.heap.size := k1.size
  have HM := Lib.hid hm
  clear hm k0 k1 b0
  unfold dV
  go_wp2_with fail
  have hm := HM.out
  have nb2 : b2 ≠ w.heap.size + 1 := by omega
  have nb1 : b1 ≠ w.heap.size + 1 := by have := hm.new1; omega
  have nby : by_ ≠ w.heap.size + 1 := by have := hm.newy; omega
  have nby2 : by_ ≠ b2 := fun e => by
    have h1 := hm.years
    have h2 := hm.notes
    subst e
    rw [Blok, h1] at h2
    injection h2 with h2
    injection h2 with h3 h4 h5
    exact absurd h4 (by decide)
  have nb12 : b1 ≠ b2 := fun e => by
    have h1 := hm.eras
    have h2 := hm.notes
    subst e
    rw [Blok, h1] at h2
    injection h2 with h2
    injection h2 with h3 h4 h5
    exact absurd h4 (by decide)
  obtain ⟨V, hV⟩ : ∃ V, V = ((((w1.setCell ⟨b2, 16, none⟩ (.int .i64 lo)).setCell ⟨b2, 17, none⟩ (.int .i64 hi)).setCell ⟨w.heap.size + 1, 0, none⟩ (.int .i64 3)).setCell ⟨w.heap.size + 1, 1, none⟩ (.slice (some ⟨b1, 0, none⟩) 1 1)).setCell ⟨w.heap.size + 1, 2, none⟩ (.slice (some ⟨b2, 0, none⟩) 5 5) := ⟨_, rfl⟩
  have kE : Blok V b1 39 [.int .i64 (-312), .int .i64 (-311)] := by rw [hV]; exact ((((hm.eras.far nb12 _).far nb12 _).far nb1 _).far nb1 _).far nb1 _
  have kY : Blok V by_ 3 [.int .i64 (-215), .int .i64 (-207)] := by rw [hV]; exact ((((hm.years.far nby2 _).far nby2 _).far nby _).far nby _).far nby _
  have kN : Blok V b2 51 (noteL (.slice (some ⟨by_, 0, none⟩) 2 2) lo hi) := by rw [hV]; exact ((((hm.notes.put 16 (.int .i64 lo)).put 17 (.int .i64 hi)).far nb2 _).far nb2 _).far nb2 _
  have kR : Blok V (w.heap.size + 1) 28 [.int .i64 3, .slice (some ⟨b1, 0, none⟩) 1 1, .slice (some ⟨b2, 0, none⟩) 5 5] := by rw [hV]; exact ((((K1.out.far nb2.symm _).far nb2.symm _).put 0 _).put 1 _).put 2 _
  have bV : Below w.heap.size w V := by
    rw [hV]
    exact ((((HB.out.setCell (p := ⟨b2, 16, none⟩) (show w.heap.size ≤ b2 by omega) _).setCell (p := ⟨b2, 17, none⟩) (show w.heap.size ≤ b2 by omega) _).setCell (p := ⟨w.heap.size + 1, 0, none⟩) (Nat.le_succ _) _).setCell (p := ⟨w.heap.size + 1, 1, none⟩) (Nat.le_succ _) _).setCell (p := ⟨w.heap.size + 1, 2, none⟩) (Nat.le_succ _) _
  rw [← hV]
  clear hV
  have y1 := hm.new1
  have yy := hm.newy
  refine bodyPost_ret (v := dV b1 b2) ?_ rfl ⟨b1, by_, b2, rfl, kE.alloc _, kY.alloc _, kN.alloc _, by omega, by omega, by omega, bV.alloc bV.size _⟩
  exact results_cell_row Try.results49 _ _ (w.heap.size + 1) 28 _ (0, 0) _ rfl (kR.alloc _) Try.underlying28 rfl (by kernel_rfl)
end
end
section
open Go.RowKit Dt

theorem info_napi : (Try.prog.info? 51).map (fun i => (i.zero, i.size, i.bytes)) = some (some (.agg #[.int .i64 0, .int .i64 0, .int .i64 0, .slice none 0 0, .int .i64 0, .int .i64 0]), 6, 64) := by kernel_rfl
theorem own_of_blok {w : World} {g base : Nat} {e : TypeId} {cs : List Value} {n size : Nat} (h : Blok w g e cs) (hb : base ≤ g) (hl : cs.length = n * size) (hn : n ≤ 100) : w.ownsRow base e size (.slice (some ⟨g, 0, none⟩) n n) n cs :=
  ⟨hl, .inr ⟨g, n, cs.toArray, rfl, hb, h, Nat.le_refl _, by unfold maxLen; omega, by rw [List.size_toArray, hl], by rw [← hl]; exact List.take_length⟩⟩
theorem grownBy_set (W : World) (b i : Nat) (v : Value) : W.grownBy (W.setCell ⟨b, i, none⟩ v) (some b) := ⟨rfl, rfl, rfl, by simp, fun k _ hne => Below.heap_setCell _ _ _ _ (fun e => hne (by rw [e]))⟩
theorem cell_of_heap {W W' : World} {b : Nat} (h : W'.heap[b]? = W.heap[b]?) (o : Nat) : W'.cell? ⟨b, o, none⟩ = W.cell? ⟨b, o, none⟩ := by
  simp only [World.cell?, h]
def moreL : List Value := [.int .i64 2, .int .i64 1, .int .i64 0, .slice none 0 0, .int .i64 (-190), .int .i64 (-180)]
theorem exG_dat {w : World} {b1 by_ g c : Nat} (hE : Blok w b1 39 [.int .i64 (-312), .int .i64 (-311)]) (hY : Blok w by_ 3 [.int .i64 (-215), .int .i64 (-207)]) (hg : g < w.heap.size)
    (hc : ∀ (j : Nat) (u : Value), (noteL (.slice (some ⟨by_, 0, none⟩) 2 2) 1 10 ++ moreL)[j]? = some u → w.cell? ⟨g, j, none⟩ = some u) : DatAt w w.heap.size (.agg #[.int .i64 3, .slice (some ⟨b1, 0, none⟩) 1 1, .slice (some ⟨g, 0, none⟩) 6 c]) exG := by
  refine ⟨_, _, rfl, ⟨_, _, rfl, fun _ => ⟨b1, 0, rfl, hE.size, fun k x hx => ?_⟩⟩, ⟨_, _, rfl, fun _ => ⟨g, 0, rfl, hg, fun k x hx => ?_⟩⟩⟩
  · rcases k with _ | k
    · simp [exG] at hx
      subst hx
      exact ⟨hE.cell 0, hE.cell 1⟩
    · simp [exG] at hx
  · have hy : Ints w w.heap.size (.slice (some ⟨by_, 0, none⟩) 2 2) [-215, -207] := ⟨_, _, rfl, fun _ => ⟨by_, 0, rfl, hY.size, fun k x hx => by
      rcases k with _ | _ | k
      · simp at hx
        subst hx
        exact hY.cell 0
      · simp at hx
        subst hx
        exact hY.cell 1
      · simp at hx⟩⟩
    rcases k with _ | _ | _ | _ | _ | _ | k
    · simp [exG] at hx
      subst hx
      exact ⟨hc 0 _ rfl, hc 1 _ rfl, hc 2 _ rfl, ⟨_, hc 3 _ rfl, ints_nil _ _⟩, hc 4 _ rfl, hc 5 _ rfl⟩
    · simp [exG] at hx
      subst hx
      exact ⟨hc 6 _ rfl, hc 7 _ rfl, hc 8 _ rfl, ⟨_, hc 9 _ rfl, hy⟩, hc 10 _ rfl, hc 11 _ rfl⟩
    · simp [exG] at hx
      subst hx
      exact ⟨hc 12 _ rfl, hc 13 _ rfl, hc 14 _ rfl, ⟨_, hc 15 _ rfl, ints_nil _ _⟩, hc 16 _ rfl, hc 17 _ rfl⟩
    · simp [exG] at hx
      subst hx
      exact ⟨hc 18 _ rfl, hc 19 _ rfl, hc 20 _ rfl, ⟨_, hc 21 _ rfl, ints_nil _ _⟩, hc 22 _ rfl, hc 23 _ rfl⟩
    · simp [exG] at hx
      subst hx
      exact ⟨hc 24 _ rfl, hc 25 _ rfl, hc 26 _ rfl, ⟨_, hc 27 _ rfl, ints_nil _ _⟩, hc 28 _ rfl, hc 29 _ rfl⟩
    · simp [exG] at hx
      subst hx
      exact ⟨hc 30 _ rfl, hc 31 _ rfl, hc 32 _ rfl, ⟨_, hc 33 _ rfl, ints_nil _ _⟩, hc 34 _ rfl, hc 35 _ rfl⟩
    · simp [exG] at hx
set_option maxRecDepth 100000 in
set_option maxHeartbeats 1000000 in
theorem doubt_any (w : World) : Calls Try.prog 51 #[] w fun e w' => ∃ v, e = .returned v ∧ DatAt w' w'.heap.size v exG ∧ Below w.heap.size w w' := by
  obtain ⟨i0, hi, hz0, hz1, hz2⟩ := info_parts info_napi
  go_enter Try.func51, Try.ntmps51
  go_wp2_with fail
  obtain ⟨W, hW⟩ : ∃ W, W = w.alloc (.cells #[.int .i64 0, .slice none 0 0, .slice none 0 0] 28) := ⟨_, rfl⟩
  have b0 : Below w.heap.size w W := by rw [hW]; exact (Below.refl _ w).alloc (Nat.le_refl _) _
  have k0 : Blok W w.heap.size 28 [.int .i64 0, .slice none 0 0, .slice none 0 0] := by rw [hW]; exact Blok.new w _ _
  rw [← hW]
  clear hW
  refine (dating_any W).mono ?_
  rintro e w1 ⟨b1, by_, b2, rfl, hm⟩
  have K0 := Lib.hid (k0.below hm.below k0.size)
  have HB := Lib.hid (b0.trans (hm.below.mono b0.size))
  have HM := Lib.hid hm
  have hWs := k0.size
  clear hm k0 b0
  unfold dV
  go_wp2_with fail
  obtain ⟨V, hV⟩ : ∃ V, V = w1.alloc (.cells #[.int .i64 3, .slice (some ⟨b1, 0, none⟩) 1 1, .slice (some ⟨b2, 0, none⟩) 5 5] 28) := ⟨_, rfl⟩
  have kV : Blok V w1.heap.size 28 [.int .i64 3, .slice (some ⟨b1, 0, none⟩) 1 1, .slice (some ⟨b2, 0, none⟩) 5 5] := by rw [hV]; exact Blok.new w1 _ _
  have k0 : Blok V w.heap.size 28 [.int .i64 0, .slice none 0 0, .slice none 0 0] := by rw [hV]; exact K0.out.alloc _
  have kN : Blok V b2 51 (noteL (.slice (some ⟨by_, 0, none⟩) 2 2) 1 10) := by rw [hV]; exact HM.out.notes.alloc _
  have kE : Blok V b1 39 [.int .i64 (-312), .int .i64 (-311)] := by rw [hV]; exact HM.out.eras.alloc _
  have kY : Blok V by_ 3 [.int .i64 (-215), .int .i64 (-207)] := by rw [hV]; exact HM.out.years.alloc _
  have bV : Below w.heap.size w V := by rw [hV]; exact HB.out.alloc HB.out.size _
  rw [← hV]
  clear hV
  have y2 : w.heap.size ≤ b2 := by have := HM.out.new2; omega
  have c2 := kV.cell 2
  have f2 := kV.free 2
  simp at c2
  have KV := Lib.hid kV
  have KN := Lib.hid kN
  have KE := Lib.hid kE
  have KY := Lib.hid kY
  have K0V := Lib.hid k0
  have BV := Lib.hid bV
  clear kV kN kE kY k0 bV
  go_region_law (first
    | (go_simp; go_at_call 23; (with_reducible refine (to_any (-190) (-180) _).mono ?_); rintro e w2 ⟨rfl, hb0⟩; have hb : Below V.heap.size V w2 := ⟨hb0.os, hb0.tape, hb0.output, hb0.size, hb0.block⟩; have k2 := KV.out.below hb KV.out.size; have c2 := k2.cell 2; have f2 := k2.free 2; simp at c2; have zz2 := k2.size; have HBT := Lib.hid hb; clear hb hb0 k2)
    | (refine step_append_lies (w2.alloc (.cells #[.int .i64 2, .int .i64 1, .int .i64 0, .slice none 0 0, .int .i64 (-190), .int .i64 (-180)] 51)) (by rfl) (.tmp 4) (.tmp 7) 26 (by rfl) w.heap.size 51 i0 _ 6 64 Try.underlying26 hi hz0 hz1 hz2 rfl (by decide) (.slice (some ⟨b2, 0, none⟩) 5 5) 5 (noteL (.slice (some ⟨by_, 0, none⟩) 2 2) 1 10) (by rfl) (own_of_blok ((KN.out.below HBT.out KN.out.size).alloc _) y2 rfl (by omega)) ⟨w2.heap.size, 0, none⟩ 1 1 moreL (by rfl) (by rfl) (World.news_of_block (heap_alloc_new w2 (.cells moreL.toArray 51))) (by simp [moreL, Value.oneCell']) (by omega) (by unfold maxLen; omega) (by omega) (by have := BV.out.size; have := HBT.out.size; simp; omega) _ rfl ?_
       intro g8 c8 w8 hown8 hgrow8 hat8 hlt8
       have nb2 : w1.heap.size ≠ b2 := by have := HM.out.notes.size; omega
       have kV8 : Blok w8 w1.heap.size 28 [.int .i64 3, .slice (some ⟨b1, 0, none⟩) 1 1, .slice (some ⟨b2, 0, none⟩) 5 5] := (hgrow8.block w1.heap.size (by have := HBT.out.size; have := KV.out.size; simp; omega) (fun e => by simp [Value.ownBlock] at e; exact nb2 (by omega))).trans ((KV.out.below HBT.out KV.out.size).alloc _)
       have q8 := kV8.cell 2
       have f8 := kV8.free 2
       simp at q8
       have KV8 := Lib.hid kV8
       have HG8 := Lib.hid hgrow8
       clear kV8
       have HO8 := Lib.hid hown8
       have HA8 := Lib.hid hat8
       clear hgrow8 hown8 hat8))
  all_goals
    have hW12 := KV.out.size
    have hW2 := HBT.out.size
    have hw1 := K0V.out.size
    have z0 : w.heap.size < w1.heap.size := K0.out.size
    have hold : ∀ (g : Nat) (t : TypeId) (cs : List Value), g ≠ b2 → g ≠ w1.heap.size → Blok V g t cs → Blok (w8.setCell ⟨w1.heap.size, 2, none⟩ (.slice (some ⟨g8, 0, none⟩) 6 c8)) g t cs := fun g t cs h1 h2 hb =>
      (Below.heap_setCell _ _ _ _ (show g ≠ w1.heap.size from h2)).trans ((HG8.out.block g (by have := hb.size; simp; omega) (fun e => by simp [Value.ownBlock] at e; exact h1 (by omega))).trans ((hb.below HBT.out hb.size).alloc _))
    have n12 : b1 ≠ b2 := fun e => by
      have h1 := KE.out
      have h2 := KN.out
      subst e
      rw [Blok, h1] at h2
      injection h2 with h2
      injection h2 with h3 h4 h5
      exact absurd h4 (by decide)
    have ny2 : by_ ≠ b2 := fun e => by
      have h1 := KY.out
      have h2 := KN.out
      subst e
      rw [Blok, h1] at h2
      injection h2 with h2
      injection h2 with h3 h4 h5
      exact absurd h4 (by decide)
    have l1 := HM.out.eras.size
    have ly := HM.out.years.size
    have l2 := HM.out.notes.size
    have k0 := hold _ _ _ (by have := HM.out.new2; omega) (by omega) K0V.out
    have kE := hold _ _ _ n12 (by omega) KE.out
    have kY := hold _ _ _ ny2 (by omega) KY.out
    have kD := KV8.out.put 2 (.slice (some ⟨g8, 0, none⟩) 6 c8)
    have hg8 : g8 ≠ w1.heap.size := by
      rcases HA8.out with h | h
      · simp [Value.ownBlock] at h
        omega
      · simp at h
        omega
    have hS := HO8.out.kept (grownBy_set w8 w1.heap.size 2 (.slice (some ⟨g8, 0, none⟩) 6 c8)) (.inr (by simp [Value.ownBlock]; exact hg8))
    have bE : Below w.heap.size w (w8.setCell ⟨w1.heap.size, 2, none⟩ (.slice (some ⟨g8, 0, none⟩) 6 c8)) :=
      (((BV.out.trans (HBT.out.mono BV.out.size)).alloc (by omega) _).grown HG8.out (by simp; omega) (fun k e => by simp [Value.ownBlock] at e; omega)).setCell (p := ⟨w1.heap.size, 2, none⟩) (by show w.heap.size ≤ w1.heap.size; omega) _
    obtain ⟨U, hU⟩ : ∃ U, U = w8.setCell ⟨w1.heap.size, 2, none⟩ (.slice (some ⟨g8, 0, none⟩) 6 c8) := ⟨_, rfl⟩
    have zU := hlt8
    rw [← hU] at k0 kE kY kD hS bE ⊢
    have zU8 : g8 < U.heap.size := by rw [hU]; simpa using hlt8
    clear hU hold
    have a0 := kD.cell 0
    have a1 := kD.cell 1
    have a2 := kD.cell 2
    have d0 := k0.cell 0
    have d1 := k0.cell 1
    have d2 := k0.cell 2
    have e0 := k0.free 0
    have e1 := k0.free 1
    have e2 := k0.free 2
    simp at a0 a1 a2 d0 d1 d2
    have HE := Lib.hid kE
    have HY := Lib.hid kY
    have HS := Lib.hid hS
    have HBE := Lib.hid bE
    have HK0 := Lib.hid k0
    have hne1 : w.heap.size ≠ w1.heap.size := by omega
    clear kE kY hS bE k0 kD q8 f8 c2 f2
    go_wp2_with fail
    have ng : g8 ≠ w.heap.size := by
      have := HM.out.new2
      rcases HA8.out with h | h
      · simp [Value.ownBlock] at h
        omega
      · simp at h
        omega
    have n1 : b1 ≠ w.heap.size := by have := HM.out.new1; omega
    have ny : by_ ≠ w.heap.size := by have := HM.out.newy; omega
    obtain ⟨F, hF⟩ : ∃ F, F = ((U.setCell ⟨w.heap.size, 0, none⟩ (.int .i64 3)).setCell ⟨w.heap.size, 1, none⟩ (.slice (some ⟨b1, 0, none⟩) 1 1)).setCell ⟨w.heap.size, 2, none⟩ (.slice (some ⟨g8, 0, none⟩) 6 c8) := ⟨_, rfl⟩
    have fE : Blok F b1 39 [.int .i64 (-312), .int .i64 (-311)] := by rw [hF]; exact ((HE.out.far n1 _).far n1 _).far n1 _
    have fY : Blok F by_ 3 [.int .i64 (-215), .int .i64 (-207)] := by rw [hF]; exact ((HY.out.far ny _).far ny _).far ny _
    have fR : Blok F w.heap.size 28 [.int .i64 3, .slice (some ⟨b1, 0, none⟩) 1 1, .slice (some ⟨g8, 0, none⟩) 6 c8] := by rw [hF]; exact ((HK0.out.put 0 _).put 1 _).put 2 _
    have fB : Below w.heap.size w F := by rw [hF]; exact ((HBE.out.setCell (p := ⟨w.heap.size, 0, none⟩) (Nat.le_refl _) _).setCell (p := ⟨w.heap.size, 1, none⟩) (Nat.le_refl _) _).setCell (p := ⟨w.heap.size, 2, none⟩) (Nat.le_refl _) _
    have fz : g8 < F.heap.size := by rw [hF]; simpa using zU8
    have fc : ∀ (j : Nat) (u : Value), (noteL (.slice (some ⟨by_, 0, none⟩) 2 2) 1 10 ++ moreL)[j]? = some u → F.cell? ⟨g8, j, none⟩ = some u := by
      intro j u hu
      obtain ⟨A, cc, e3, e4⟩ := own_sl HS.out (by rfl) (by omega)
      injection e3 with e5 e6 e7
      obtain ⟨b, o, h3, h4, rfl, h5, hc⟩ := e4 (by omega)
      rw [← e5] at h3
      injection h3 with h3
      injection h3 with h6 h7
      subst h6
      rw [hF]
      refine Eq.trans ?_ (hc j u hu)
      exact (cell_of_heap (Below.heap_setCell _ _ _ _ (show g8 ≠ w.heap.size from ng)) _).trans ((cell_of_heap (Below.heap_setCell _ _ _ _ (show g8 ≠ w.heap.size from ng)) _).trans (cell_of_heap (Below.heap_setCell _ _ _ _ (show g8 ≠ w.heap.size from ng)) _))
    rw [← hF]
    clear hF
    refine bodyPost_ret (v := .agg #[.int .i64 3, .slice (some ⟨b1, 0, none⟩) 1 1, .slice (some ⟨g8, 0, none⟩) 6 c8]) ?_ rfl ⟨_, rfl, exG_dat fE fY fz fc, fB⟩
    exact results_cell_row Try.results51 _ _ w.heap.size 28 _ (0, 0) _ rfl fR Try.underlying28 rfl (by kernel_rfl)
end
end Go.Proofs.Ytcbdcdpoackplaa
