/- bound: each stone within some years. -/
import Derived.Test.YtmfjfjahemlhkaaGreatJa
import Derived.Test.YtmfjfjahemlhkaaGreatGl
namespace Go.Proofs.YtmfjfjahemlhkaaGreat
open Go.RowKit Dt

/-- What bound holds ahead of its dating. -/
structure BS (w : World) (d : Dat) (ve vd : Value) (W : World) : Prop where
  k1 : Blok W (w.heap.size + 1) 28 zeroD
  kd : Blok W w.heap.size 28 [.int .i64 d.stones, ve, vd]
  below : Below w.heap.size w W
theorem BS.to {w W W' : World} {d : Dat} {ve vd : Value} (h : BS w d ve vd W) (hb : Below W.heap.size W W') : BS w d ve vd W' := ⟨h.k1.below hb h.k1.size, h.kd.below hb h.kd.size, h.below.trans (hb.mono h.below.size)⟩
theorem BS.alloc {w W : World} {d : Dat} {ve vd : Value} (h : BS w d ve vd W) (o : Obj) : BS w d ve vd (W.alloc o) := h.to ((Below.refl _ W).alloc (Nat.le_refl _) o)
theorem BS.drew {w W : World} {d : Dat} {ve vd : Value} (h : BS w d ve vd W) : BS w d ve vd W.drew := h.to (Below.refl _ W).drew
theorem DatO.down {w W : World} {B : Nat} {v : Value} {d : Dat} (h : DatO w B v d) (hb : Below w.heap.size w W) : DatO W B v d := h.fx (Fx.of_below hb) fun _ _ _ hb _ => hb
/-- What bound holds on its way. -/
structure BV (w : World) (B : Nat) (d : Dat) (ve vd : Value) (bx : Nat) (va vc vn : Value) (l : List Nt) (W : World) : Prop where
  bs : BS w d ve vd W
  kx : Blok W bx 28 [.int .i64 d.stones, va, vc]
  hb : w.heap.size + 1 < bx
  oe : W.ownsRow w.heap.size 33 2 va d.eras.length (flatS d.eras)
  no : ∃ xs : List (Nt × Value), xs.map Prod.fst = l ∧ W.ownsRow w.heap.size 64 6 vn l.length (cellsN xs) ∧ ∀ p ∈ xs, IntsO W B p.2 p.1.years
section
variable {w W W' : World} {B : Nat} {d : Dat} {ve vd : Value} {bx : Nat} {va vc vn : Value} {l : List Nt}
theorem BV.to (h : BV w B d ve vd bx va vc vn l W) (hb : Below W.heap.size W W') : BV w B d ve vd bx va vc vn l W' := by
  refine ⟨h.bs.to hb, h.kx.below hb h.kx.size, h.hb, own_fx h.oe (Fx.of_all hb) (fun _ _ _ _ => trivial), ?_⟩
  obtain ⟨xs, e, h1, h2⟩ := h.no
  exact ⟨xs, e, own_fx h1 (Fx.of_all hb) (fun _ _ _ _ => trivial), fun p hp => own_fx (h2 p hp) (Fx.of_all hb) (fun _ _ _ _ => trivial)⟩
theorem BV.alloc (h : BV w B d ve vd bx va vc vn l W) (o : Obj) : BV w B d ve vd bx va vc vn l (W.alloc o) := h.to ((Below.refl _ W).alloc (Nat.le_refl _) o)
theorem BV.drew (h : BV w B d ve vd bx va vc vn l W) : BV w B d ve vd bx va vc vn l W.drew := h.to (Below.refl _ W).drew
/-- A note is appended. -/
theorem BV.note {vn' vy : Value} {x : Nt} {xs : List (Nt × Value)} (h : BV w B d ve vd bx va vc vn l W) (hxs : xs.map Prod.fst = l) (hon : W.ownsRow w.heap.size 64 6 vn l.length (cellsN xs)) (hyr : ∀ p ∈ xs, IntsO W B p.2 p.1.years)
    (hg : W.grownBy W' vn.ownBlock) (hn : W'.ownsRow w.heap.size 64 6 vn' (l.length + 1) (cellsN xs ++ ntL x vy)) (hvy : IntsO W B vy x.years) : BV w B d ve vd bx va vc vn' (l ++ [x]) W' := by
  have hb : ∀ {t : TypeId} {b : Nat} {cs : List Value}, t ≠ 64 → Blok W b t cs → Blok W' b t cs := fun ht h' => h'.grown hg (own_ne hon h' (fun e => ht e.symm))
  have hO : ∀ {base size n : Nat} {e : TypeId} {u : Value} {cs : List Value}, e ≠ 64 → W.ownsRow base e size u n cs → W'.ownsRow base e size u n cs := fun he h' => own_fx h' (Fx.of_grown hg) (fun b _ _ hb' => own_disj h' hon he b hb')
  refine ⟨⟨hb (by decide) h.bs.k1, hb (by decide) h.bs.kd, h.bs.below.grown hg h.bs.below.size (fun k hk => (hon.lt k hk).1)⟩, hb (by decide) h.kx, h.hb, hO (by decide) h.oe, xs ++ [(x, vy)], by rw [List.map_append, hxs]; rfl, ?_, fun p hp => ?_⟩
  · rw [cellsN_snoc, List.length_append]
    exact hn
  · rcases List.mem_append.1 hp with hp | hp
    · exact hO (by decide) (hyr p hp)
    · rw [List.mem_singleton.1 hp]
      exact hO (by decide) hvy
/-- The slice of notes is stored. -/
theorem BV.put (h : BV w B d ve vd bx va vc vn l W) (u : Value) : BV w B d ve vd bx va u vn l (W.setCell ⟨bx, 2, none⟩ u) := by
  have hx := h.hb
  have hO : ∀ {base size n : Nat} {e : TypeId} {v : Value} {xs : List Value}, e ≠ 28 → W.ownsRow base e size v n xs → (W.setCell ⟨bx, 2, none⟩ u).ownsRow base e size v n xs := fun he h' => own_far h' (own_ne h' h.kx he) u
  refine ⟨⟨h.bs.k1.far (by show w.heap.size + 1 ≠ bx; omega) u, h.bs.kd.far (by show w.heap.size ≠ bx; omega) u, h.bs.below.setCell (p := ⟨bx, 2, none⟩) (by show w.heap.size ≤ bx; omega) u⟩, h.kx.put 2 u, h.hb, hO (by decide) h.oe, ?_⟩
  obtain ⟨xs, e, h1, h2⟩ := h.no
  exact ⟨xs, e, hO (by decide) h1, fun p hp => hO (by decide) (h2 p hp)⟩
/-- The first store of the dating. -/
theorem BV.first {gv : Nat} {wq : World} (h : BS w d ve vd wq) (hx : Blok wq gv 28 zeroD) (hg : w.heap.size + 1 < gv) (ho : wq.ownsRow w.heap.size 33 2 va d.eras.length (flatS d.eras)) :
    BV w B d ve vd gv va (.slice none 0 0) (.slice none 0 0) [] (((wq.setCell ⟨gv, 0, none⟩ (.int .i64 d.stones)).setCell ⟨gv, 1, none⟩ va).setCell ⟨gv, 2, none⟩ (.slice none 0 0)) := by
  have hn := own_ne ho hx (by decide)
  refine ⟨⟨((h.k1.far (by show w.heap.size + 1 ≠ gv; omega) _).far (by show w.heap.size + 1 ≠ gv; omega) _).far (by show w.heap.size + 1 ≠ gv; omega) _, ((h.kd.far (by show w.heap.size ≠ gv; omega) _).far (by show w.heap.size ≠ gv; omega) _).far (by show w.heap.size ≠ gv; omega) _,
    ((h.below.setCell (p := ⟨gv, 0, none⟩) (by show w.heap.size ≤ gv; omega) _).setCell (p := ⟨gv, 1, none⟩) (by show w.heap.size ≤ gv; omega) _).setCell (p := ⟨gv, 2, none⟩) (by show w.heap.size ≤ gv; omega) _⟩, ((hx.put 0 _).put 1 _).put 2 _, hg, own_far (own_far (own_far ho hn _) hn _) hn _, [], rfl, World.ownsRow_nil _ _ _ _, by simp⟩
end
theorem bounds_succ (n : Nat) : bounds (n + 1) = bounds n ++ [spanN n (-900) 900] := by simp [bounds, List.range_succ]
end Go.Proofs.YtmfjfjahemlhkaaGreat
