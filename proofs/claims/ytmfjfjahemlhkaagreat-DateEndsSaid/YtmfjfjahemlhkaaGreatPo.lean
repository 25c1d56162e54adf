/- Span out of the urn: between two numbers. · little: a small dating. · little: the loop that gathers the years of a note. -/
import Derived.Test.YtmfjfjahemlhkaaGreatPe
import Derived.Test.YtmfjfjahemlhkaaGreatPg
import Derived.Test.YtmfjfjahemlhkaaGreatJd
namespace Go.Proofs.YtmfjfjahemlhkaaGreat
section
section
open Go.RowKit Dt

def UrnSpanPost (g : Nat) (lo hi : Int) (w : World) (e : Ending) (w' : World) : Prop :=
  ∃ a b : Int, e = .returned (.agg #[.int .i64 a, .int .i64 b]) ∧ lo ≤ a ∧ a ≤ b ∧ b ≤ hi ∧ UrnAt w' g ∧ Kg g w w'
set_option maxRecDepth 100000 in
set_option maxHeartbeats 2000000 in
theorem urnSpan_any (g : Nat) (lo hi : Int) (w : World) (n1 : -1000 ≤ lo) (n2 : lo ≤ hi) (n3 : hi ≤ 1000) (hu : UrnAt w g) :
    Calls Tryz.prog 26 #[.pointer (some ⟨g, 0, none⟩), .int .i64 lo, .int .i64 hi] w (UrnSpanPost g lo hi w) := by
  have HU := Lib.hid hu
  have hgz := hu.size
  clear hu
  go_enter Tryz.func26, Tryz.ntmps26
  go_wp2_with fail
  refine (from_any g lo hi _ (by omega) (by omega) (by omega) (by omega) (HU.out.alloc _)).mono ?_
  rintro e w1 ⟨a, rfl, a1, a2', hu, hk⟩
  have a2 : a ≤ hi := by omega
  have HU1 := Lib.hid hu
  have HK1 := Lib.hid (((Kg.refl g w).alloc _).trans hk)
  clear hu a2'
  have bl1 : Blok w1 w.heap.size 33 [.int .i64 0, .int .i64 0] := (Blok.new w _ _).kg hk (by omega)
  clear hk
  have HB1 := Lib.hid bl1
  clear bl1
  go_wp2_with fail
  refine (up_any _ _ _ (by omega) HU1.out).mono ?_
  rintro e w2 ⟨r1, rfl, h1, hu, hk⟩
  have r11 : (r1 : Int) ≤ 2 := by omega
  have r12 : (0 : Int) ≤ r1 := by omega
  have HU2 := Lib.hid hu
  have HK2 := Lib.hid (HK1.out.trans hk)
  have HB2 := Lib.hid (HB1.out.kg hk (HU1.out.ne HB1.out (by decide)))
  have q1 : IntKind.i64.wrap (a + (r1 : Int)) = a + r1 := IntWalk.i64_in _ (by omega)
  clear hu hk h1
  go_wp2_with fail
  all_goals
    refine (up_any _ _ _ (by omega) HU2.out).mono ?_
    rintro e w3 ⟨r2, rfl, h2, hu, hk⟩
    have r21 : (r2 : Int) ≤ 5 := by omega
    have r22 : (0 : Int) ≤ r2 := by omega
    have HU3 := Lib.hid hu
    have HK3 := Lib.hid (HK2.out.trans hk)
    have HB3 := Lib.hid (HB2.out.kg hk (HU2.out.ne HB2.out (by decide)))
    have q2 : IntKind.i64.wrap (a + (r2 : Int)) = a + r2 := IntWalk.i64_in _ (by omega)
    clear hu hk h2
    go_wp2_with fail
    all_goals
      refine (from_any g a hi _ (by omega) (by omega) (by omega) (by omega) HU3.out).mono ?_
      rintro e w4 ⟨f, rfl, f1, f2', hu, hk⟩
      have f2 : f ≤ hi := by omega
      have HU4 := Lib.hid hu
      have HK4 := Lib.hid (HK3.out.trans hk)
      have HB4 := Lib.hid (HB3.out.kg hk (HU3.out.ne HB3.out (by decide)))
      clear hu hk f2'
      go_wp2_with fail
      have hg4 := HU4.out.size
      refine (any_any g w4.heap.size 4 4 3 [a, min hi (a + r1), min hi (a + r2), f] _ rfl (by simp) (by simp) (Blok.new w4 _ _) (by omega) (HU4.out.alloc _)).mono ?_
      rintro e w5 ⟨b, rfl, hb, hu, hk⟩
      have hb1 : a ≤ b ∧ b ≤ hi := by
        simp at hb
        omega
      obtain ⟨b1, b2⟩ := hb1
      have HU5 := Lib.hid hu
      have HK5 := Lib.hid ((HK4.out.alloc _).trans hk)
      have bl : Blok w5 w.heap.size 33 [.int .i64 0, .int .i64 0] := (HB4.out.alloc _).kg hk (by omega)
      have f0 := bl.free 0
      have f1 := bl.free 1
      have c0 := bl.cell 0
      have c1 := bl.cell 1
      simp at c0 c1
      have HB5 := Lib.hid bl
      clear bl hu hk hb q1 q2
      go_wp2_with fail
      refine bodyPost_ret (results_cell_row Tryz.results26 _ _ w.heap.size 33 _ (0, 0) _ rfl ((HB5.out.put 0 (.int .i64 a)).put 1 (.int .i64 b)) Tryz.underlying33 rfl (by kernel_rfl)) rfl ⟨a, b, rfl, a1, b1, b2, (HU5.out.far (p := ⟨w.heap.size, 0, none⟩) (by show g ≠ w.heap.size; omega) _).far (p := ⟨w.heap.size, 1, none⟩) (by show g ≠ w.heap.size; omega) _, (HK5.out.putNew (p := ⟨w.heap.size, 0, none⟩) (Nat.le_refl _) _).putNew (p := ⟨w.heap.size, 1, none⟩) (Nat.le_refl _) _⟩
end
section
open Go.RowKit Dt

/-- What little holds. -/
structure LB (w : World) (g bd st : Nat) (ca cb va : Value) (es : List (Int × Int)) (vb : Value) (l : List Nt) (W : World) : Prop where
  urn : UrnAt W g
  kg : Kg g w W
  k2 : Blok W w.heap.size 28 zeroD
  kd : Blok W bd 28 [.int .i64 st, ca, cb]
  hb : w.heap.size < bd
  oe : W.ownsRow w.heap.size 33 2 va es.length (flatS es)
  no : ∃ xs : List (Nt × Value), xs.map Prod.fst = l ∧ W.ownsRow w.heap.size 64 6 vb l.length (cellsN xs) ∧ ∀ p ∈ xs, IntsO W w.heap.size p.2 p.1.years
section
variable {w W W' : World} {g bd st : Nat} {ca cb va vb : Value} {es : List (Int × Int)} {l : List Nt}
theorem LB.calls (h : LB w g bd st ca cb va es vb l W) (hu : UrnAt W' g) (hk : Kg g W W') : LB w g bd st ca cb va es vb l W' := by
  refine ⟨hu, h.kg.trans hk, h.k2.kg hk (h.urn.ne h.k2 (by decide)), h.kd.kg hk (h.urn.ne h.kd (by decide)), h.hb, own_kg h.oe h.urn (by decide) hk, ?_⟩
  obtain ⟨xs, e, h1, h2⟩ := h.no
  exact ⟨xs, e, own_kg h1 h.urn (by decide) hk, fun p hp => own_kg (h2 p hp) h.urn (by decide) hk⟩
theorem LB.alloc (h : LB w g bd st ca cb va es vb l W) (o : Obj) : LB w g bd st ca cb va es vb l (W.alloc o) := h.calls (h.urn.alloc o) ((Kg.refl g W).alloc o)
theorem LB.drew (h : LB w g bd st ca cb va es vb l W) : LB w g bd st ca cb va es vb l W.drew := h.calls h.urn (Kg.refl g W).drew
theorem LB.to (h : LB w g bd st ca cb va es vb l W) (hb : Below W.heap.size W W') : LB w g bd st ca cb va es vb l W' := h.calls (h.urn.keep hb h.urn.size) (Kg.of_below hb)
theorem LB.span {va' : Value} {s : Int × Int} (h : LB w g bd st ca cb va es vb l W) (hg : W.grownBy W' va.ownBlock) (hn : W'.ownsRow w.heap.size 33 2 va' (es.length + 1) (flatS es ++ [.int .i64 s.1, .int .i64 s.2])) : LB w g bd st ca cb va' (es ++ [s]) vb l W' := by
  have hb : ∀ {t : TypeId} {b : Nat} {cs : List Value}, t ≠ 33 → Blok W b t cs → Blok W' b t cs := fun ht h' => h'.grown hg (own_ne h.oe h' (fun e => ht e.symm))
  have hO : ∀ {base size n : Nat} {e : TypeId} {u : Value} {cs : List Value}, e ≠ 33 → W.ownsRow base e size u n cs → W'.ownsRow base e size u n cs := fun he h' => own_fx h' (Fx.of_grown hg) (fun b _ _ hb' => own_disj h' h.oe he b hb')
  refine ⟨?_, h.kg.grown hg (fun k hk => (h.oe.lt k hk).1), hb (by decide) h.k2, hb (by decide) h.kd, h.hb, by rw [List.length_append, flatS_snoc]; exact hn, ?_⟩
  · obtain ⟨p, q, hu⟩ := h.urn
    exact ⟨p, q, hb (by decide) hu⟩
  · obtain ⟨xs, e, h1, h2⟩ := h.no
    exact ⟨xs, e, hO (by decide) h1, fun p hp => hO (by decide) (h2 p hp)⟩
theorem LB.note {vb' vy : Value} {x : Nt} {xs : List (Nt × Value)} (h : LB w g bd st ca cb va es vb l W) (hxs : xs.map Prod.fst = l) (hon : W.ownsRow w.heap.size 64 6 vb l.length (cellsN xs)) (hyr : ∀ p ∈ xs, IntsO W w.heap.size p.2 p.1.years)
    (hg : W.grownBy W' vb.ownBlock) (hn : W'.ownsRow w.heap.size 64 6 vb' (l.length + 1) (cellsN xs ++ ntL x vy)) (hvy : IntsO W w.heap.size vy x.years) : LB w g bd st ca cb va es vb' (l ++ [x]) W' := by
  have hb : ∀ {t : TypeId} {b : Nat} {cs : List Value}, t ≠ 64 → Blok W b t cs → Blok W' b t cs := fun ht h' => h'.grown hg (own_ne hon h' (fun e => ht e.symm))
  have hO : ∀ {base size n : Nat} {e : TypeId} {u : Value} {cs : List Value}, e ≠ 64 → W.ownsRow base e size u n cs → W'.ownsRow base e size u n cs := fun he h' => own_fx h' (Fx.of_grown hg) (fun b _ _ hb' => own_disj h' hon he b hb')
  refine ⟨?_, h.kg.grown hg (fun k hk => (hon.lt k hk).1), hb (by decide) h.k2, hb (by decide) h.kd, h.hb, hO (by decide) h.oe, xs ++ [(x, vy)], by rw [List.map_append, hxs]; rfl, ?_, fun p hp => ?_⟩
  · obtain ⟨p, q, hu⟩ := h.urn
    exact ⟨p, q, hb (by decide) hu⟩
  · rw [cellsN_snoc, List.length_append]
    exact hn
  · rcases List.mem_append.1 hp with hp | hp
    · exact hO (by decide) (hyr p hp)
    · rw [List.mem_singleton.1 hp]
      exact hO (by decide) hvy
theorem LB.put {i : Nat} {u c1 c2 : Value} (h : LB w g bd st ca cb va es vb l W) (hi : [Value.int .i64 st, ca, cb].set i u = [.int .i64 st, c1, c2]) : LB w g bd st c1 c2 va es vb l (W.setCell ⟨bd, i, none⟩ u) := by
  have hx := h.hb
  have hO : ∀ {base size n : Nat} {e : TypeId} {v : Value} {xs : List Value}, e ≠ 28 → W.ownsRow base e size v n xs → (W.setCell ⟨bd, i, none⟩ u).ownsRow base e size v n xs := fun he h' => own_far h' (own_ne h' h.kd he) u
  refine ⟨h.urn.far (h.urn.ne' h.kd (by decide)) u, h.kg.putNew (p := ⟨bd, i, none⟩) (by show w.heap.size ≤ bd; omega) u, h.k2.far (by show w.heap.size ≠ bd; omega) u, by rw [← hi]; exact h.kd.put i u, h.hb, hO (by decide) h.oe, ?_⟩
  obtain ⟨xs, e, h1, h2⟩ := h.no
  exact ⟨xs, e, hO (by decide) h1, fun p hp => hO (by decide) (h2 p hp)⟩
end
theorem cellsN_cons4 (a : Nt × Value) (xs : List (Nt × Value)) : cellsN (a :: xs) = .int .i64 a.1.kind :: .int .i64 a.1.stone :: .int .i64 a.1.other :: a.2 :: .int .i64 a.1.lo :: .int .i64 a.1.hi :: cellsN xs := by simp [cellsN, ntL]
theorem cellsN_lohi4 : ∀ (xs : List (Nt × Value)) (k : Nat) (p : Nt × Value) (a b : Int), xs[k]? = some p →
    ((cellsN xs).set (k * 6 + 4) (.int .i64 a)).set (k * 6 + 5) (.int .i64 b) = cellsN (xs.set k (⟨p.1.kind, p.1.stone, p.1.other, p.1.years, a, b⟩, p.2))
  | [], _, _, _, _, h => by simp at h
  | x :: xs, 0, p, a, b, h => by
    obtain rfl : x = p := by simpa using h
    simp [cellsN_cons4]
  | x :: xs, k + 1, p, a, b, h => by
    have ih := cellsN_lohi4 xs k p a b (by simpa using h)
    rw [show (k + 1) * 6 + 4 = k * 6 + 4 + 1 + 1 + 1 + 1 + 1 + 1 by omega, show (k + 1) * 6 + 5 = k * 6 + 5 + 1 + 1 + 1 + 1 + 1 + 1 by omega, cellsN_cons4]
    simp only [List.set_cons_succ]
    rw [ih]
    simp [cellsN_cons4]
theorem row_blok4 {w : World} {B e size n g c : Nat} {xs : List Value} (h : w.ownsRow B e size (.slice (some ⟨g, 0, none⟩) n c) n xs) : ∃ cs, Blok w g e cs := by
  rcases h.2 with ⟨e, _⟩ | ⟨r, cap, cur, e, _, e3, _⟩
  · cases e
  · injection e with e
    injection e with e
    injection e with e
    subst e
    exact ⟨cur.toList, by unfold Blok; rw [e3]⟩
section
variable {w W : World} {g bd st : Nat} {ca cb va vb : Value} {es : List (Int × Int)} {l : List Nt}
/-- A note's span is stored. -/
theorem LB.lohi {gn m c i : Nat} {a b : Int} {n : Nt} (h : LB w g bd st ca cb va es (.slice (some ⟨gn, 0, none⟩) m c) l W) (hn : l[i]? = some n) :
    LB w g bd st ca cb va es (.slice (some ⟨gn, 0, none⟩) m c) (l.set i ⟨n.kind, n.stone, n.other, n.years, a, b⟩) ((W.setCell ⟨gn, i * 6 + 4, none⟩ (.int .i64 a)).setCell ⟨gn, i * 6 + 5, none⟩ (.int .i64 b)) := by
  obtain ⟨xs, hxs, hon, hyr⟩ := h.no
  obtain ⟨A, c', e2⟩ := own_slice hon
  injection e2 with e2 e3 e4
  subst e3
  obtain ⟨p, hp, rfl⟩ : ∃ p, xs[i]? = some p ∧ p.1 = n := by
    rw [← hxs, List.getElem?_map] at hn
    cases hq : xs[i]? with
    | none => rw [hq] at hn; simp at hn
    | some p => rw [hq] at hn; simp at hn; exact ⟨p, rfl, hn⟩
  obtain ⟨cs, hb⟩ := row_blok4 hon
  have hgx := (hon.lt gn rfl).1
  have hT : ∀ {t : TypeId} {b : Nat} {cs' : List Value}, Blok W b t cs' → t ≠ 64 → b ≠ gn := fun h1 h2 => blok_ne h1 hb h2
  have hug : g ≠ gn := h.urn.ne' hb (by decide)
  have hO' : ∀ {base size n : Nat} {e : TypeId} {v : Value} {xs : List Value}, W.ownsRow base e size v n xs → e ≠ 64 → ((W.setCell ⟨gn, i * 6 + 4, none⟩ (.int .i64 a)).setCell ⟨gn, i * 6 + 5, none⟩ (.int .i64 b)).ownsRow base e size v n xs := fun h1 h2 => by
    have hn := own_ne h1 hb h2
    exact own_far (own_far h1 hn _) hn _
  refine ⟨(h.urn.far hug _).far hug _, (h.kg.putNew (p := ⟨gn, i * 6 + 4, none⟩) hgx _).putNew (p := ⟨gn, i * 6 + 5, none⟩) hgx _, (h.k2.far (hT h.k2 (by decide)) _).far (hT h.k2 (by decide)) _, (h.kd.far (hT h.kd (by decide)) _).far (hT h.kd (by decide)) _, h.hb, hO' h.oe (by decide),
    xs.set i (⟨p.1.kind, p.1.stone, p.1.other, p.1.years, a, b⟩, p.2), by rw [List.map_set, hxs], ?_, fun q hq => ?_⟩
  · have := ((hon.stored (i * 6 + 4) (.int .i64 a)).1.stored (i * 6 + 5) (.int .i64 b)).1
    rw [cellsN_lohi4 xs i p a b hp] at this
    rw [List.length_set]
    exact this
  · rcases List.mem_or_eq_of_mem_set hq with hq | rfl
    · exact hO' (hyr q hq) (by decide)
    · exact hO' (hyr p (List.mem_of_getElem? hp)) (by decide)
/-- A cell of a note's variable is stored. -/
theorem LB.putX {bx : Nat} {cs : List Value} (h : LB w g bd st ca cb va es vb l W) (hx : Blok W bx 64 cs) (hne : ∀ k, vb.ownBlock = some k → k ≠ bx) (hw : w.heap.size ≤ bx) (i : Nat) (u : Value) : LB w g bd st ca cb va es vb l (W.setCell ⟨bx, i, none⟩ u) := by
  have hT : ∀ {t : TypeId} {b : Nat} {cs' : List Value}, Blok W b t cs' → t ≠ 64 → b ≠ bx := fun h1 h2 => blok_ne h1 hx h2
  have hO' : ∀ {base size n : Nat} {e : TypeId} {v : Value} {xs : List Value}, W.ownsRow base e size v n xs → e ≠ 64 → (W.setCell ⟨bx, i, none⟩ u).ownsRow base e size v n xs := fun h1 h2 => own_far h1 (own_ne h1 hx h2) _
  refine ⟨h.urn.far (h.urn.ne' hx (by decide)) u, h.kg.putNew (p := ⟨bx, i, none⟩) hw u, h.k2.far (hT h.k2 (by decide)) u, h.kd.far (hT h.kd (by decide)) u, h.hb, hO' h.oe (by decide), ?_⟩
  obtain ⟨xs, e, h1, h2⟩ := h.no
  exact ⟨xs, e, own_far h1 (fun e => hne bx e rfl) _, fun p hp => hO' (h2 p hp) (by decide)⟩
end
theorem Kg.trans2 {w W W' : World} {g bx : Nat} (h : Kg g w W) (hk : Keep (fun q => q < W.heap.size ∧ q ≠ g ∧ q ≠ bx) W W') (hw : w.heap.size ≤ bx) : Kg g w W' :=
  ⟨hk.os.trans h.os, hk.tape.trans h.tape, hk.output.trans h.output, Nat.le_trans (Kg.size h) hk.size, fun q hq => (hk.block q ⟨Nat.lt_of_lt_of_le hq.1 (Kg.size h), hq.2, by omega⟩).trans (h.block q hq)⟩
/-- A call that keeps all but the urn and one note's variable. -/
theorem LB.keep2 {w W W' : World} {g bd st bx : Nat} {ca cb va vb : Value} {es : List (Int × Int)} {l : List Nt} {cs : List Value} (h : LB w g bd st ca cb va es vb l W) (hx : Blok W bx 64 cs) (hne : ∀ k, vb.ownBlock = some k → k ≠ bx) (hw : w.heap.size ≤ bx)
    (hu : UrnAt W' g) (hk : Keep (fun q => q < W.heap.size ∧ q ≠ g ∧ q ≠ bx) W W') : LB w g bd st ca cb va es vb l W' := by
  have hF : Fx (fun b _ => b < W.heap.size ∧ b ≠ g ∧ b ≠ bx) W W' := fun b t cs hp hb => hk.blok hb hp
  have hB : ∀ {t : TypeId} {b : Nat} {cs : List Value}, t ≠ 71 → t ≠ 64 → Blok W b t cs → Blok W' b t cs := fun h1 h2 hb => hk.blok hb ⟨hb.size, h.urn.ne hb h1, blok_ne hb hx h2⟩
  have hO : ∀ {base size n : Nat} {e : TypeId} {v : Value} {xs : List Value}, e ≠ 71 → v.ownBlock ≠ some bx → W.ownsRow base e size v n xs → W'.ownsRow base e size v n xs := fun h1 h2 ho => own_fx ho hF fun b _ hb2 hb => ⟨hb2, fun e => h.urn.own_ne ho h1 (by rw [hb, e]), fun e => h2 (by rw [hb, e])⟩
  obtain ⟨xs, e, h1, h2⟩ := h.no
  refine ⟨hu, h.kg.trans2 hk hw, hB (by decide) (by decide) h.k2, hB (by decide) (by decide) h.kd, h.hb, hO (by decide) (own_ne h.oe hx (by decide)) h.oe, xs, e, hO (by decide) (fun e => hne bx e rfl) h1, fun p hp => hO (by decide) (own_ne (h2 p hp) hx (by decide)) (h2 p hp)⟩
end
end
section
open Go.RowKit Dt

/-- What the loop over years keeps. -/
structure LY (wo : World) (g bx : Nat) (x : Nt) (v3 vy : Value) (ys : List Int) (W : World) : Prop where
  urn : UrnAt W g
  kp : Keep (fun q => q < wo.heap.size ∧ q ≠ g ∧ q ≠ bx) wo W
  nb : Blok W bx 64 (ntL x v3)
  yr : IntsO W wo.heap.size vy ys
section
variable {wo W W' : World} {g bx : Nat} {x : Nt} {v3 vy : Value} {ys : List Int}
theorem LY.calls (h : LY wo g bx x v3 vy ys W) (hu : UrnAt W' g) (hk : Kg g W W') : LY wo g bx x v3 vy ys W' :=
  ⟨hu, ⟨hk.os.trans h.kp.os, hk.tape.trans h.kp.tape, hk.output.trans h.kp.output, Nat.le_trans h.kp.size hk.size, fun q hq => (hk.block q ⟨Nat.lt_of_lt_of_le hq.1 h.kp.size, hq.2.1⟩).trans (h.kp.block q hq)⟩, h.nb.kg hk (h.urn.ne h.nb (by decide)), own_kg h.yr h.urn (by decide) hk⟩
theorem LY.alloc (h : LY wo g bx x v3 vy ys W) (o : Obj) : LY wo g bx x v3 vy ys (W.alloc o) := h.calls (h.urn.alloc o) ((Kg.refl g W).alloc o)
theorem LY.drew (h : LY wo g bx x v3 vy ys W) : LY wo g bx x v3 vy ys W.drew := h.calls h.urn (Kg.refl g W).drew
theorem LY.app {vy' : Value} {y : Int} (h : LY wo g bx x v3 vy ys W) (hg : W.grownBy W' vy.ownBlock) (hn : W'.ownsRow wo.heap.size 3 1 vy' (ys.length + 1) (intCells ys ++ [.int .i64 y])) : LY wo g bx x v3 vy' (ys ++ [y]) W' := by
  have hb : ∀ {t : TypeId} {b : Nat} {cs : List Value}, t ≠ 3 → Blok W b t cs → Blok W' b t cs := fun ht h' => h'.grown hg (own_ne h.yr h' (fun e => ht e.symm))
  refine ⟨?_, h.kp.trans ⟨hg.os, hg.tape, hg.output, hg.size, fun q hq => hg.block q (Nat.lt_of_lt_of_le hq.1 h.kp.size) (fun e => by have := (h.yr.lt q e.symm).1; omega)⟩, hb (by decide) h.nb, ?_⟩
  · obtain ⟨p, q, hu⟩ := h.urn
    exact ⟨p, q, hb (by decide) hu⟩
  · unfold IntsO
    rw [List.length_append]
    simpa [intCells] using hn
theorem LY.put (h : LY wo g bx x v3 vy ys W) : LY wo g bx x vy vy ys (W.setCell ⟨bx, 3, none⟩ vy) :=
  ⟨h.urn.far (h.urn.ne' h.nb (by decide)) _, ⟨h.kp.os, h.kp.tape, h.kp.output, by simp [World.setCell]; exact h.kp.size, fun q hq => (Below.heap_setCell _ _ _ _ hq.2.2).trans (h.kp.block q hq)⟩, h.nb.put 3 vy, own_far h.yr (own_ne h.yr h.nb (by decide)) vy⟩
end
/-- The years of a note, gathered so far. -/
structure YsOk (k : Nat) (ys : List Int) : Prop where
  len : ys.length ≤ 3
  at_ : k ≤ 10
  all : ∀ y ∈ ys, 0 ≤ y ∧ y ≤ 7 ∧ y < k
  up : ys.Pairwise (· < ·)
  nil : ys = [] → k ≤ 7
theorem YsOk.more {k r : Nat} {ys : List Int} (h : YsOk k ys) (hk : k < 8) (hl : ys.length < 3) (h1 : 1 ≤ r) (h3 : r ≤ 3) : YsOk (k + r) (ys ++ [(k : Int)]) := by
  refine ⟨by simp; omega, by omega, fun y hy => ?_, ?_, fun e => by simp at e⟩
  · rcases List.mem_append.1 hy with hy | hy
    · have := h.all y hy; omega
    · rw [List.mem_singleton.1 hy]; omega
  · rw [List.pairwise_append]
    exact ⟨h.up, List.pairwise_singleton _ _, fun a ha b hb => by rw [List.mem_singleton.1 hb]; exact (h.all a ha).2.2⟩
noncomputable def lLoop (n : Nat) : Code := (Tryz.f6.body.bind (findBlock n)).getD .skip
set_option maxRecDepth 100000 in
set_option maxHeartbeats 8000000 in
theorem lyears (g bx : Nat) (wo : World) (x : Nt) (k0 : Nat) (hk0 : k0 ≤ 2)
    (s1 s2 s3 s4 s5 s6 s9 s10 s11 s12 s13 s14 s15 s16 s17 s18 s19 s20 s21 s22 s23 s24 s25 s26 s27 s28 s29 s30 s31 s32 s33 s34 s35 s36 s37 s38 s39 s40 s41 s42 s43 s44 s45 s46 s47 s48 s49 s50 s51 s52 s53 s54 s55 s56 s57 s58 s59 s60 s61 s62 s63 s64 s65 s66 s67 s68 s69 s70 s71 s72 s73 s74 s75 s76 s77 s78 s79 s80 s81 s82 s83 s84 s85 s86 s87 s88 s89 s90 s91 s92 s93 s94 s95 s96 s97 s98 s99 s100 s101 s102 s103 s104 s105 s106 s107 s108 s109 s110 s111 s112 s113 s114 s115 s116 s117 s118 s119 s120 s121 s122 s123 : Value) (Q : Exit → Act → World → Prop) (h0 : LY wo g bx x (.slice none 0 0) (.slice none 0 0) [] wo)
    (hexit : ∀ (u8 u71 u72 u73 u74 u75 u76 u77 u78 u79 u80 u81 u82 u83 u84 u85 u86 u87 u88 vy : Value) (ys : List Int) (wx : World), LY wo g bx x vy vy ys wx → 1 ≤ ys.length → ys.length ≤ 3 → (∀ y ∈ ys, 0 ≤ y ∧ y ≤ 7) → ys.Pairwise (· < ·) → Q (.exit 7) ⟨List.toArray (Value.pointer (some ⟨g, 0, none⟩) :: s1 :: s2 :: s3 :: s4 :: s5 :: s6 :: Value.pointer (some ⟨bx, 0, none⟩) :: u8 :: s9 :: s10 :: s11 :: s12 :: s13 :: s14 :: s15 :: s16 :: s17 :: s18 :: s19 :: s20 :: s21 :: s22 :: s23 :: s24 :: s25 :: s26 :: s27 :: s28 :: s29 :: s30 :: s31 :: s32 :: s33 :: s34 :: s35 :: s36 :: s37 :: s38 :: s39 :: s40 :: s41 :: s42 :: s43 :: s44 :: s45 :: s46 :: s47 :: s48 :: s49 :: s50 :: s51 :: s52 :: s53 :: s54 :: s55 :: s56 :: s57 :: s58 :: s59 :: s60 :: s61 :: s62 :: s63 :: s64 :: s65 :: s66 :: s67 :: s68 :: s69 :: s70 :: u71 :: u72 :: u73 :: u74 :: u75 :: u76 :: u77 :: u78 :: u79 :: u80 :: u81 :: u82 :: u83 :: u84 :: u85 :: u86 :: u87 :: u88 :: s89 :: s90 :: s91 :: s92 :: s93 :: s94 :: s95 :: s96 :: s97 :: s98 :: s99 :: s100 :: s101 :: s102 :: s103 :: s104 :: s105 :: s106 :: s107 :: s108 :: s109 :: s110 :: s111 :: s112 :: s113 :: s114 :: s115 :: s116 :: s117 :: s118 :: s119 :: s120 :: s121 :: s122 :: s123 :: []), []⟩ wx) :
    Code.wp Tryz.prog (lLoop 7) Q ⟨List.toArray (Value.pointer (some ⟨g, 0, none⟩) :: s1 :: s2 :: s3 :: s4 :: s5 :: s6 :: Value.pointer (some ⟨bx, 0, none⟩) :: Value.int .i64 (k0 : Nat) :: s9 :: s10 :: s11 :: s12 :: s13 :: s14 :: s15 :: s16 :: s17 :: s18 :: s19 :: s20 :: s21 :: s22 :: s23 :: s24 :: s25 :: s26 :: s27 :: s28 :: s29 :: s30 :: s31 :: s32 :: s33 :: s34 :: s35 :: s36 :: s37 :: s38 :: s39 :: s40 :: s41 :: s42 :: s43 :: s44 :: s45 :: s46 :: s47 :: s48 :: s49 :: s50 :: s51 :: s52 :: s53 :: s54 :: s55 :: s56 :: s57 :: s58 :: s59 :: s60 :: s61 :: s62 :: s63 :: s64 :: s65 :: s66 :: s67 :: s68 :: s69 :: s70 :: s71 :: s72 :: s73 :: s74 :: s75 :: s76 :: s77 :: s78 :: s79 :: s80 :: s81 :: s82 :: s83 :: s84 :: s85 :: s86 :: s87 :: s88 :: s89 :: s90 :: s91 :: s92 :: s93 :: s94 :: s95 :: s96 :: s97 :: s98 :: s99 :: s100 :: s101 :: s102 :: s103 :: s104 :: s105 :: s106 :: s107 :: s108 :: s109 :: s110 :: s111 :: s112 :: s113 :: s114 :: s115 :: s116 :: s117 :: s118 :: s119 :: s120 :: s121 :: s122 :: s123 :: []), []⟩ wo := by
  have HEX := Lib.hid hexit
  clear hexit
  obtain ⟨i0, hi, hz0, hz1, hz2⟩ := info_parts info_num
  have HI := Lib.hid hi
  have HI0 := Lib.hid hz0
  have HI1 := Lib.hid hz1
  have HI2 := Lib.hid hz2
  have HY0 := Lib.hid h0
  clear hi hz0 hz1 hz2 h0
  conv => arg 2; whnf
  go_loopg [8] 3 (fun r i wr => ∃ (k : Nat) (vy : Value) (ys : List Int), i = .int .i64 (k : Nat) ∧ ys.length + r = 3 ∧ YsOk k ys ∧ LY wo g bx x vy vy ys wr)
  case atStart => exact ⟨k0, _, [], rfl, rfl, ⟨by simp, by omega, by simp, by simp, fun _ => by omega⟩, HY0.out⟩
  case round =>
    clear HY0
    obtain ⟨k, vy, ys, rfl, hyr, hok, hy⟩ := hrel
    obtain ⟨A, c, rfl⟩ := own_slice hy.yr
    obtain ⟨n, hn⟩ : ∃ n, n = ys.length := ⟨_, rfl⟩
    have hown := hy.yr
    unfold IntsO at hown
    rw [← hn] at hown hyr hy
    have HOWN := Lib.hid hown
    have HY := Lib.hid hy
    have HOK := Lib.hid hok
    have HN := Lib.hid hn
    have hk10 := hok.at_
    have x3 := hy.nb.cell 3
    simp [ntL] at x3
    clear hn hok hy hown
    by_cases hk8 : k < 8
    · by_cases hn3 : n < 3
      · have hk8' : ((k : Int) < 8) := by omega
        have hn3' : ((n : Int) < 3) := by omega
        go_wp2_with (at_builtin; refine wpList_append_lies _ rfl _ _ 22 rfl wo.heap.size 3 i0 _ 1 8 Tryz.underlying22 HI.out HI0.out HI1.out HI2.out rfl (by decide) (.slice A n c) n (intCells ys) (by rfl) (HOWN.out.alloc _) ⟨wr.heap.size, 0, none⟩ 1 1 [.int .i64 k] (by rfl) (by rfl) (World.news_of_block (cs := #[.int .i64 k]) (t := 3) (fr := (0, 0)) (heap_alloc_new wr _)) (by simp [Value.oneCell']) (by omega) (by unfold maxLen; omega) (by omega) (by have := HY.out.kp.size; simp; omega) _ rfl ?_; intro g8 c8 w8 hown8 hgrow8 hat8 hlt8; have hy8 := (HY.out.alloc (.cells #[.int .i64 k] 3)).app hgrow8 (by rw [← HN.out]; exact hown8); have HY8 := Lib.hid hy8; have x3 := hy8.nb.cell 3; have y3 := hy8.nb.free 3; simp [ntL] at x3; clear hown8 hgrow8 hat8 hlt8 hy8)
        have HY9 := Lib.hid HY8.out.put
        clear HY8 x3 y3
        refine (from_any _ _ _ _ (by omega) (by omega) (by omega) (by omega) HY9.out.urn).mono ?_
        rintro e w9 ⟨r, rfl, r1, r2, hu, hk⟩
        obtain ⟨r, rfl⟩ : ∃ q : Nat, r = (q : Int) := ⟨r.toNat, by omega⟩
        have HYA := Lib.hid (HY9.out.calls hu hk)
        clear hu hk HY9
        go_wp2_with fail
        go_roundg (gk - 1)
        case measure => omega
        case rel => exact ⟨k + r, _, _, by go_num, by rw [List.length_append, ← HN.out]; simp; omega, HOK.out.more hk8 (by rw [← HN.out]; exact hn3) (by omega) (by omega), HYA.out⟩
      · have hk8' : ((k : Int) < 8) := by omega
        have hn3' : ¬ ((n : Int) < 3) := by omega
        go_wp2_with fail
        refine HEX.out _ _ _ _ _ _ _ _ _ _ _ _ _ _ _ _ _ _ _ _ ys _ HY.out (by rw [← HN.out]; omega) HOK.out.len (fun y hy => ⟨(HOK.out.all y hy).1, (HOK.out.all y hy).2.1⟩) HOK.out.up
    · have hk8' : ¬ ((k : Int) < 8) := by omega
      have hys : 1 ≤ ys.length := by
        cases hq : ys with
        | nil => have := HOK.out.nil hq; omega
        | cons a l => simp
      have HYS := Lib.hid hys
      clear hys
      go_wp2_with fail
      refine HEX.out _ _ _ _ _ _ _ _ _ _ _ _ _ _ _ _ _ _ _ _ ys _ HY.out HYS.out HOK.out.len (fun y hy => ⟨(HOK.out.all y hy).1, (HOK.out.all y hy).2.1⟩) HOK.out.up
end
end Go.Proofs.YtmfjfjahemlhkaaGreat
