/- DatingOf: what it holds on its way. -/
import Derived.Test.YtllkkkkladlikaaFb
import Derived.Test.YtllkkkkladlikaaFc
import Derived.Test.YtllkkkkladlikaaFd
import Derived.Test.YtllkkkkladlikaaFv
import Derived.Test.YtllkkkkladlikaaEu
import Derived.Deep.Onto
import Derived.Deep.LoopGhost
import Derived.Deep.DeepCutAuto
import Derived.Deep.CutBlock
namespace Go.Proofs.Ytllkkkkladlikaa
open Go.RowKit Dt

theorem info_num : (Try.prog.info? 3).map (fun i => (i.zero, i.size, i.bytes)) = some (some (.int .i64 0), 1, 8) := by kernel_rfl
theorem own_addr {w : World} {base n c size : Nat} {e : TypeId} {A : Option Addr} {xs : List Value} (h : w.ownsRow base e size (.slice A n c) n xs) (hn : 0 < n) : ∃ g, A = some ⟨g, 0, none⟩ := by
  rcases h.2 with ⟨_, h0⟩ | ⟨g, cap, cur, e1, _⟩
  · omega
  · injection e1 with e1
    exact ⟨g, e1⟩
def zeroD : List Value := [.int .i64 0, .slice none 0 0, .slice none 0 0]
def zeroW : List Value := [.slice none 0 0, .slice none 0 0]
/-- A dating and its truth, being made. -/
structure Mk (g : Nat) (w wr : World) (bD bW : Nat) (stones : Nat) (ve vn vy vf : Value) : Prop where
  r8 : Blok wr w.heap.size 28 zeroD
  r9 : Blok wr (w.heap.size + 1) 30 zeroW
  dat : Blok wr bD 28 [.int .i64 stones, ve, vn]
  whe : Blok wr bW 30 [vy, vf]
  urn : UrnAt wr g
  kg : Kg g w wr
  nD : w.heap.size + 1 < bD
  nW : w.heap.size + 1 < bW
section
variable {g : Nat} {w wr wr' : World} {bD bW stones : Nat} {ve vn vy vf : Value}
theorem Mk.to {p : Nat → TypeId → Prop} (h : Mk g w wr bD bW stones ve vn vy vf) (hx : Fx p wr wr') (hp : ∀ b, p b 28 ∧ p b 30) (hu : UrnAt wr' g) (hk : Kg g w wr') : Mk g w wr' bD bW stones ve vn vy vf :=
  ⟨hx _ _ _ (hp _).1 h.r8, hx _ _ _ (hp _).2 h.r9, hx _ _ _ (hp _).1 h.dat, hx _ _ _ (hp _).2 h.whe, hu, hk, h.nD, h.nW⟩
theorem Mk.kgs (h : Mk g w wr bD bW stones ve vn vy vf) (hu : UrnAt wr' g) (hk : Kg g wr wr') : Mk g w wr' bD bW stones ve vn vy vf :=
  h.to (Fx.of_kg hk h.urn) (fun _ => by decide) hu (h.kg.trans hk)
theorem Mk.alloc (h : Mk g w wr bD bW stones ve vn vy vf) (o : Obj) : Mk g w (wr.alloc o) bD bW stones ve vn vy vf := h.kgs (h.urn.alloc o) ((Kg.refl g wr).alloc o)
theorem Mk.drew (h : Mk g w wr bD bW stones ve vn vy vf) : Mk g w wr.drew bD bW stones ve vn vy vf := h.kgs h.urn (Kg.refl g wr).drew
theorem Mk.grown {row : Option Nat} (h : Mk g w wr bD bW stones ve vn vy vf) (hg : wr.grownBy wr' row) (hr : ∀ k t cs, row = some k → Blok wr k t cs → t ≠ 28 ∧ t ≠ 30 ∧ t ≠ 69) (hn : ∀ k, row = some k → w.heap.size ≤ k) : Mk g w wr' bD bW stones ve vn vy vf := by
  have hne : ∀ k t cs, Blok wr k t cs → t = 28 ∨ t = 30 ∨ t = 69 → row ≠ some k := fun k t cs hb ht e => by
    obtain ⟨h1, h2, h3⟩ := hr k t cs e hb
    rcases ht with ht | ht | ht
    · exact h1 ht
    · exact h2 ht
    · exact h3 ht
  obtain ⟨x, y, hu⟩ := h.urn
  exact ⟨h.r8.grown hg (hne _ _ _ h.r8 (.inl rfl)), h.r9.grown hg (hne _ _ _ h.r9 (.inr (.inl rfl))), h.dat.grown hg (hne _ _ _ h.dat (.inl rfl)), h.whe.grown hg (hne _ _ _ h.whe (.inr (.inl rfl))), ⟨x, y, hu.grown hg (hne _ _ _ hu (.inr (.inr rfl)))⟩, h.kg.grown hg hn, h.nD, h.nW⟩
theorem blok_ne {w : World} {a b : Nat} {t u : TypeId} {cs ds : List Value} (h : Blok w a t cs) (k : Blok w b u ds) (hne : t ≠ u) : a ≠ b := by
  rintro rfl
  have h2 := h.symm.trans k
  injection h2 with h2
  injection h2 with _ h2
  exact hne h2
theorem Mk.append {B size n : Nat} {e : TypeId} {v : Value} {xs : List Value} (h : Mk g w wr bD bW stones ve vn vy vf) (ho : wr.ownsRow B e size v n xs) (hg : wr.grownBy wr' v.ownBlock) (he : e ≠ 28 ∧ e ≠ 30 ∧ e ≠ 69) (hB : w.heap.size ≤ B) : Mk g w wr' bD bW stones ve vn vy vf :=
  h.grown hg (fun k t cs hk hb => by
    have ht : t = e := Classical.byContradiction fun hne => own_ne ho hb (fun e' => hne e'.symm) hk
    rw [ht]
    exact he) (fun k hk => Nat.le_trans hB (ho.lt k hk).1)
theorem _root_.Go.Proofs.Ytllkkkkladlikaa.UrnAt.ne' {w : World} {g k : Nat} {t : TypeId} {cs : List Value} (h : UrnAt w g) (hb : Blok w k t cs) (ht : t ≠ 69) : g ≠ k := fun e => h.ne hb ht e.symm
theorem Mk.putD (h : Mk g w wr bD bW stones ve vn vy vf) (i : Nat) (u : Value) : Mk g w (wr.setCell ⟨bD, i, none⟩ u) bD bW stones (if i = 1 then u else ve) (if i = 2 then u else vn) vy vf ∨ i = 0 ∨ 2 < i := by
  by_cases hi : i = 0 ∨ 2 < i
  · exact .inr hi
  · refine .inl ⟨h.r8.far (by simp; have := h.nD; omega) u, h.r9.far (by simp; have := h.nD; omega) u, ?_, h.whe.far (blok_ne h.whe h.dat (by decide)) u, h.urn.far (by obtain ⟨x, y, hu⟩ := h.urn; exact blok_ne hu h.dat (by decide)) u, h.kg.putNew (by simp; have := h.nD; omega) u, h.nD, h.nW⟩
    have e : i = 1 ∨ i = 2 := by omega
    rcases e with rfl | rfl
    · exact h.dat.put 1 u
    · exact h.dat.put 2 u
theorem Mk.putW (h : Mk g w wr bD bW stones ve vn vy vf) (i : Nat) (u : Value) : Mk g w (wr.setCell ⟨bW, i, none⟩ u) bD bW stones ve vn (if i = 0 then u else vy) (if i = 1 then u else vf) ∨ 1 < i := by
  by_cases hi : 1 < i
  · exact .inr hi
  · refine .inl ⟨h.r8.far (by simp; have := h.nW; omega) u, h.r9.far (by simp; have := h.nW; omega) u, h.dat.far (blok_ne h.dat h.whe (by decide)) u, ?_, h.urn.far (by obtain ⟨x, y, hu⟩ := h.urn; exact blok_ne hu h.whe (by decide)) u, h.kg.putNew (by simp; have := h.nW; omega) u, h.nD, h.nW⟩
    have e : i = 0 ∨ i = 1 := by omega
    rcases e with rfl | rfl
    · exact h.whe.put 0 u
    · exact h.whe.put 1 u
theorem Mk.put1 (h : Mk g w wr bD bW stones ve vn vy vf) (u : Value) : Mk g w (wr.setCell ⟨bD, 1, none⟩ u) bD bW stones u vn vy vf := by
  rcases h.putD 1 u with h | h | h
  · exact h
  · cases h
  · omega
theorem Mk.put2 (h : Mk g w wr bD bW stones ve vn vy vf) (u : Value) : Mk g w (wr.setCell ⟨bD, 2, none⟩ u) bD bW stones ve u vy vf := by
  rcases h.putD 2 u with h | h | h
  · exact h
  · cases h
  · omega
theorem Mk.putY (h : Mk g w wr bD bW stones ve vn vy vf) (u : Value) : Mk g w (wr.setCell ⟨bW, 0, none⟩ u) bD bW stones ve vn u vf := by
  rcases h.putW 0 u with h | h
  · exact h
  · omega
theorem Mk.putF (h : Mk g w wr bD bW stones ve vn vy vf) (u : Value) : Mk g w (wr.setCell ⟨bW, 1, none⟩ u) bD bW stones ve vn vy u := by
  rcases h.putW 1 u with h | h
  · exact h
  · omega
end
theorem own_disj {w : World} {b1 b2 s1 s2 n1 n2 : Nat} {e1 e2 : TypeId} {v1 v2 : Value} {x1 x2 : List Value} (h1 : w.ownsRow b1 e1 s1 v1 n1 x1) (h2 : w.ownsRow b2 e2 s2 v2 n2 x2) (hne : e1 ≠ e2) (b : Nat) (hb : v1.ownBlock = some b) : v2.ownBlock ≠ some b := by
  rcases h1.2 with ⟨rfl, _⟩ | ⟨r, cap, cur, rfl, _, e3, _⟩
  · simp [Value.ownBlock] at hb
  · have e : r = b := by simpa [Value.ownBlock] using hb
    subst e
    exact own_ne h2 (show Blok w r e1 cur.toList by unfold Blok; rw [e3]) (fun e => hne e.symm)
/-- As long as eras are made: the memory, in the midst of a step too. -/
structure RI (g : Nat) (w : World) (bD bW stones B1 B2 : Nat) (vy : Value) (ys : List Int) (ve vf va : Value) (na : Nat) (xa : List Value) (vb : Value) (nb : Nat) (xb : List Value) (W : World) : Prop where
  md : Mk g w W bD bW stones ve (.slice none 0 0) vy vf
  oa : W.ownsRow B2 39 2 va na xa
  ob : W.ownsRow B2 3 1 vb nb xb
  oy : IntsO W B1 vy ys
  low : ∀ b, vy.ownBlock = some b → b < B2
  size : B2 ≤ W.heap.size
  base : w.heap.size ≤ B2
section
variable {g : Nat} {w W W' : World} {bD bW stones B1 B2 na na' nb nb' : Nat} {vy ve vf va va' vb vb' : Value} {ys : List Int} {xa xa' xb xb' : List Value}
theorem RI.calls (h : RI g w bD bW stones B1 B2 vy ys ve vf va na xa vb nb xb W) (hu : UrnAt W' g) (hk : Kg g W W') : RI g w bD bW stones B1 B2 vy ys ve vf va na xa vb nb xb W' :=
  ⟨h.md.kgs hu hk, own_kg h.oa h.md.urn (by decide) hk, own_kg h.ob h.md.urn (by decide) hk, own_kg h.oy h.md.urn (by decide) hk, h.low, Nat.le_trans h.size hk.size, h.base⟩
theorem RI.alloc (h : RI g w bD bW stones B1 B2 vy ys ve vf va na xa vb nb xb W) (o : Obj) : RI g w bD bW stones B1 B2 vy ys ve vf va na xa vb nb xb (W.alloc o) := h.calls (h.md.urn.alloc o) ((Kg.refl g W).alloc o)
theorem RI.drew (h : RI g w bD bW stones B1 B2 vy ys ve vf va na xa vb nb xb W) : RI g w bD bW stones B1 B2 vy ys ve vf va na xa vb nb xb W.drew := h.calls h.md.urn (Kg.refl g W).drew
theorem RI.app1 (h : RI g w bD bW stones B1 B2 vy ys ve vf va na xa vb nb xb W) (hg : W.grownBy W' va.ownBlock) (hn : W'.ownsRow B2 39 2 va' na' xa') : RI g w bD bW stones B1 B2 vy ys ve vf va' na' xa' vb nb xb W' :=
  ⟨h.md.append h.oa hg (by decide) h.base, hn, own_fx h.ob (Fx.of_grown hg) (fun b _ _ hb => own_disj h.ob h.oa (by decide) b hb), own_fx h.oy (Fx.of_grown hg) (fun b _ _ hb => own_disj h.oy h.oa (by decide) b hb), h.low, Nat.le_trans h.size hg.size, h.base⟩
theorem RI.app2 (h : RI g w bD bW stones B1 B2 vy ys ve vf va na xa vb nb xb W) (hg : W.grownBy W' vb.ownBlock) (hn : W'.ownsRow B2 3 1 vb' nb' xb') : RI g w bD bW stones B1 B2 vy ys ve vf va na xa vb' nb' xb' W' :=
  ⟨h.md.append h.ob hg (by decide) h.base, own_fx h.oa (Fx.of_grown hg) (fun b _ _ hb => own_disj h.oa h.ob (by decide) b hb), hn, own_fx h.oy (Fx.of_grown hg) (fun b _ _ hb e => by have h1 := h.low b hb; have h2 := (h.ob.lt b e).1; omega), h.low, Nat.le_trans h.size hg.size, h.base⟩
theorem RI.put1 (h : RI g w bD bW stones B1 B2 vy ys ve vf va na xa vb nb xb W) (u : Value) : RI g w bD bW stones B1 B2 vy ys u vf va na xa vb nb xb (W.setCell ⟨bD, 1, none⟩ u) :=
  ⟨h.md.put1 u, own_far h.oa (own_ne h.oa h.md.dat (by decide)) u, own_far h.ob (own_ne h.ob h.md.dat (by decide)) u, own_far h.oy (own_ne h.oy h.md.dat (by decide)) u, h.low, by have := h.size; simpa using this, h.base⟩
theorem RI.putF (h : RI g w bD bW stones B1 B2 vy ys ve vf va na xa vb nb xb W) (u : Value) : RI g w bD bW stones B1 B2 vy ys ve u va na xa vb nb xb (W.setCell ⟨bW, 1, none⟩ u) :=
  ⟨h.md.putF u, own_far h.oa (own_ne h.oa h.md.whe (by decide)) u, own_far h.ob (own_ne h.ob h.md.whe (by decide)) u, own_far h.oy (own_ne h.oy h.md.whe (by decide)) u, h.low, by have := h.size; simpa using this, h.base⟩
theorem RI.snoc {es : List (Int × Int)} {fs : List Int} {lo hi n : Int} (h : RI g w bD bW stones B1 B2 vy ys ve vf va (es.length + 1) (flatS es ++ [.int .i64 lo, .int .i64 hi]) vb (fs.length + 1) (intCells fs ++ [.int .i64 n]) W) :
    RI g w bD bW stones B1 B2 vy ys ve vf va (es ++ [(lo, hi)]).length (flatS (es ++ [(lo, hi)])) vb (fs ++ [n]).length (intCells (fs ++ [n])) W := by
  rw [flatS_snoc]
  simpa only [intCells, List.length_append, List.length_cons, List.length_nil, Nat.zero_add, List.map_append, List.map_cons, List.map_nil] using h
end
/-- As long as notes are made: the memory. -/
structure NI (g : Nat) (w : World) (bD bW stones B1 B2 B3 : Nat) (vy : Value) (ys : List Int) (ve : Value) (es : List (Int × Int)) (vf : Value) (fs : List Int) (vn : Value) (xs : List (Nt × Value)) (W : World) : Prop where
  md : Mk g w W bD bW stones ve vn vy vf
  oy : IntsO W B1 vy ys
  oe : SpansO W B2 ve es
  of : IntsO W B2 vf fs
  on : W.ownsRow B3 54 6 vn xs.length (cellsN xs)
  years : ∀ p ∈ xs, IntsO W B3 p.2 p.1.years
  b1 : w.heap.size ≤ B1
  b2 : B1 ≤ B2
  b3 : B2 ≤ B3
  size : B3 ≤ W.heap.size
section
variable {g : Nat} {w W W' : World} {bD bW stones B1 B2 B3 : Nat} {vy ve vf vn : Value} {ys fs : List Int} {es : List (Int × Int)} {xs : List (Nt × Value)}
theorem NI.calls (h : NI g w bD bW stones B1 B2 B3 vy ys ve es vf fs vn xs W) (hu : UrnAt W' g) (hk : Kg g W W') : NI g w bD bW stones B1 B2 B3 vy ys ve es vf fs vn xs W' :=
  ⟨h.md.kgs hu hk, own_kg h.oy h.md.urn (by decide) hk, own_kg h.oe h.md.urn (by decide) hk, own_kg h.of h.md.urn (by decide) hk, own_kg h.on h.md.urn (by decide) hk, fun p hp => own_kg (h.years p hp) h.md.urn (by decide) hk, h.b1, h.b2, h.b3, Nat.le_trans h.size hk.size⟩
theorem NI.alloc (h : NI g w bD bW stones B1 B2 B3 vy ys ve es vf fs vn xs W) (o : Obj) : NI g w bD bW stones B1 B2 B3 vy ys ve es vf fs vn xs (W.alloc o) := h.calls (h.md.urn.alloc o) ((Kg.refl g W).alloc o)
theorem NI.drew (h : NI g w bD bW stones B1 B2 B3 vy ys ve es vf fs vn xs W) : NI g w bD bW stones B1 B2 B3 vy ys ve es vf fs vn xs W.drew := h.calls h.md.urn (Kg.refl g W).drew
/-- One note more. -/
theorem NI.snoc {vn' v : Value} {x : Nt} (h : NI g w bD bW stones B1 B2 B3 vy ys ve es vf fs vn xs W) (hv : IntsO W B3 v x.years) (hg : W.grownBy W' vn.ownBlock) (hn : W'.ownsRow B3 54 6 vn' (xs.length + 1) (cellsN xs ++ ntL x v)) :
    NI g w bD bW stones B1 B2 B3 vy ys ve es vf fs vn' (xs ++ [(x, v)]) (W'.setCell ⟨bD, 2, none⟩ vn') := by
  have hm := h.md.append h.on hg (by decide) (by have := h.b1; have := h.b2; have := h.b3; omega)
  have far : ∀ {base size n : Nat} {e : TypeId} {u : Value} {cs : List Value}, e ≠ 54 → e ≠ 28 → W.ownsRow base e size u n cs → (W'.setCell ⟨bD, 2, none⟩ vn').ownsRow base e size u n cs := fun h1 h2 ho =>
    have ho' := own_fx ho (Fx.of_grown hg) (fun b _ _ hb => own_disj ho h.on h1 b hb)
    own_far ho' (own_ne ho' hm.dat h2) _
  refine ⟨hm.put2 vn', far (by decide) (by decide) h.oy, far (by decide) (by decide) h.oe, far (by decide) (by decide) h.of, ?_, fun p hp => ?_, h.b1, h.b2, h.b3, by have := hg.size; have := h.size; simp; omega⟩
  · rw [cellsN_snoc, List.length_append]
    exact own_far hn (own_ne hn hm.dat (by decide)) _
  · rcases List.mem_append.1 hp with hp | hp
    · exact far (by decide) (by decide) (h.years p hp)
    · rw [List.mem_singleton.1 hp]
      exact far (by decide) (by decide) hv
theorem NI.dat (h : NI g w bD bW stones B1 B2 B3 vy ys ve es vf fs vn xs W) : DatO W w.heap.size (.agg #[.int .i64 stones, ve, vn]) ⟨stones, es, xs.map Prod.fst⟩ :=
  ⟨_, _, rfl, h.oe.mono (Nat.le_trans h.b1 h.b2), xs, rfl, by
    rw [List.length_map]
    exact h.on.mono (by have := h.b1; have := h.b2; have := h.b3; omega), fun p hp => (h.years p hp).mono (by have := h.b1; have := h.b2; have := h.b3; omega)⟩
end
/-- As long as the years of a note are gathered. -/
structure YI (g : Nat) (w0 : World) (bx s B4 at_ kk : Nat) (y : Int) (vx : Value) (l : List Int) (W : World) : Prop where
  yrs : Yrs at_ kk y l
  x : Blok W bx 54 [.int .i64 1, .int .i64 s, .int .i64 0, vx, .int .i64 0, .int .i64 0]
  own : IntsO W B4 vx l
  urn : UrnAt W g
  kg : Kg g w0 W
  b4 : w0.heap.size ≤ B4
  size : B4 ≤ W.heap.size
  bx0 : w0.heap.size ≤ bx
section
variable {g : Nat} {w0 W W' : World} {bx s B4 at_ kk : Nat} {y : Int} {vx : Value} {l : List Int}
theorem YI.calls (h : YI g w0 bx s B4 at_ kk y vx l W) (hu : UrnAt W' g) (hk : Kg g W W') : YI g w0 bx s B4 at_ kk y vx l W' :=
  ⟨h.yrs, h.x.kg hk (h.urn.ne h.x (by decide)), own_kg h.own h.urn (by decide) hk, hu, h.kg.trans hk, h.b4, Nat.le_trans h.size hk.size, h.bx0⟩
theorem YI.alloc (h : YI g w0 bx s B4 at_ kk y vx l W) (o : Obj) : YI g w0 bx s B4 at_ kk y vx l (W.alloc o) := h.calls (h.urn.alloc o) ((Kg.refl g W).alloc o)
theorem YI.next (h : YI g w0 bx s B4 at_ kk y vx l W) (hy : Yrs at_ (kk + 1) y l) : YI g w0 bx s B4 at_ (kk + 1) y vx l W := ⟨hy, h.x, h.own, h.urn, h.kg, h.b4, h.size, h.bx0⟩
theorem YI.grown {vx' : Value} {n m : Nat} {cs : List Value} (h : YI g w0 bx s B4 at_ kk y vx l W) (hg : W.grownBy W' vx.ownBlock) (ho : W'.ownsRow B4 3 1 vx' m cs) : Blok W' bx 54 [.int .i64 1, .int .i64 s, .int .i64 0, vx, .int .i64 0, .int .i64 0] ∧ (m = n → W'.ownsRow B4 3 1 vx' n cs) :=
  ⟨h.x.grown hg (own_ne h.own h.x (by decide)), fun e => e ▸ ho⟩
theorem YI.app {vx' : Value} {n : Int} (h : YI g w0 bx s B4 at_ kk y vx l W) (hg : W.grownBy W' vx.ownBlock) (ho : W'.ownsRow B4 3 1 vx' (l.length + 1) (intCells l ++ [.int .i64 n])) (hy : Yrs at_ (kk + 1) y (l ++ [n])) :
    YI g w0 bx s B4 at_ (kk + 1) y vx' (l ++ [n]) (W'.setCell ⟨bx, 3, none⟩ vx') := by
  have hx := h.x.grown hg (own_ne h.own h.x (by decide))
  obtain ⟨p, q, hu⟩ := h.urn
  have hu' := hu.grown hg (own_ne h.own hu (by decide))
  have hn : g ≠ bx := blok_ne hu' hx (by decide)
  refine ⟨hy, hx.put 3 vx', ?_, ⟨p, q, hu'.far hn _⟩, (h.kg.grown hg fun k hk => Nat.le_trans h.b4 (h.own.lt k hk).1).putNew h.bx0 _, h.b4, by have := h.size; have := hg.size; simp; omega, h.bx0⟩
  have := own_far ho (own_ne ho hx (by decide)) vx' (p := ⟨bx, 3, none⟩)
  simpa only [IntsO, intCells, List.length_append, List.length_cons, List.length_nil, Nat.zero_add, List.map_append, List.map_cons, List.map_nil] using this
end
theorem results_cell_row2 {P : Program} {fn : Func} {p q : Tmp} {tp tq : TypeId} (h : fn.results = #[.cell p tp, .cell q tq]) (tmps : Array Value) (w : World) (g g' : Nat) (t t' : TypeId) (cs cs' : List Value) (d d' : TypeDesc)
    (hp : tmps.getD p undef = .pointer (some ⟨g, 0, none⟩)) (hq : tmps.getD q undef = .pointer (some ⟨g', 0, none⟩)) (hg : Blok w g t cs) (hg' : Blok w g' t' cs')
    (hu : P.underlying tp = some d) (hu' : P.underlying tq = some d') (hd : (match d with | .struct _ | .array _ _ => true | _ => false) = true) (hd' : (match d' with | .struct _ | .array _ _ => true | _ => false) = true)
    (hi : (P.info? tp).map (·.size) = some cs.toArray.size) (hi' : (P.info? tq).map (·.size) = some cs'.toArray.size) :
    (results fn tmps).run P w = .ok (.tuple #[.agg cs.toArray, .agg cs'.toArray]) w := by
  have hp' : tmps[p]?.getD undef = .pointer (some ⟨g, 0, none⟩) := by simpa using hp
  have hq' : tmps[q]?.getD undef = .pointer (some ⟨g', 0, none⟩) := by simpa using hq
  simp [results, h, hp', hq', asAddr, run_loadVar_row w g t tp cs.toArray (0, 0) d hg hu hd hi, run_loadVar_row w g' t' tq cs'.toArray (0, 0) d' hg' hu' hd' hi']
theorem Blok.drew {w : World} {g : Nat} {t : TypeId} {cs : List Value} (h : Blok w g t cs) : Blok w.drew g t cs := h
theorem UrnAt.drew {w : World} {g : Nat} (h : UrnAt w g) : UrnAt w.drew g := h
def puts8 (W : World) (b : Nat) (x0 x1 x2 : Value) : World := ((W.setCell ⟨b, 0, none⟩ x0).setCell ⟨b, 1, none⟩ x1).setCell ⟨b, 2, none⟩ x2
def puts9 (W : World) (b : Nat) (y0 y1 : Value) : World := (W.setCell ⟨b, 0, none⟩ y0).setCell ⟨b, 1, none⟩ y1
theorem puts8_fx {W : World} {b : Nat} {t : TypeId} {a0 a1 a2 : Value} (h : Blok W b t [a0, a1, a2]) (x0 x1 x2 : Value) : Blok (puts8 W b x0 x1 x2) b t [x0, x1, x2] ∧ Fx (fun _ t' => t' ≠ t) W (puts8 W b x0 x1 x2) ∧ ∀ k t' cs, k ≠ b → Blok W k t' cs → Blok (puts8 W b x0 x1 x2) k t' cs :=
  ⟨((h.put 0 x0).put 1 x1).put 2 x2, ((Fx.of_putT (x := ⟨b, 0, none⟩) h x0).trans (Fx.of_putT (x := ⟨b, 1, none⟩) (h.put 0 x0) x1)).trans (Fx.of_putT (x := ⟨b, 2, none⟩) ((h.put 0 x0).put 1 x1) x2), fun k t' cs hk hb => ((hb.far hk x0).far hk x1).far hk x2⟩
theorem puts9_fx {W : World} {b : Nat} {t : TypeId} {a0 a1 : Value} (h : Blok W b t [a0, a1]) (x0 x1 : Value) : Blok (puts9 W b x0 x1) b t [x0, x1] ∧ Fx (fun _ t' => t' ≠ t) W (puts9 W b x0 x1) ∧ ∀ k t' cs, k ≠ b → Blok W k t' cs → Blok (puts9 W b x0 x1) k t' cs :=
  ⟨(h.put 0 x0).put 1 x1, (Fx.of_putT (x := ⟨b, 0, none⟩) h x0).trans (Fx.of_putT (x := ⟨b, 1, none⟩) (h.put 0 x0) x1), fun k t' cs hk hb => (hb.far hk x0).far hk x1⟩
theorem puts8_kg {g : Nat} {w W : World} {b : Nat} (h : Kg g w W) (hb : w.heap.size ≤ b) (x0 x1 x2 : Value) : Kg g w (puts8 W b x0 x1 x2) := ((h.putNew (p := ⟨b, 0, none⟩) hb x0).putNew (p := ⟨b, 1, none⟩) hb x1).putNew (p := ⟨b, 2, none⟩) hb x2
theorem puts9_kg {g : Nat} {w W : World} {b : Nat} (h : Kg g w W) (hb : w.heap.size ≤ b) (x0 x1 : Value) : Kg g w (puts9 W b x0 x1) := (h.putNew (p := ⟨b, 0, none⟩) hb x0).putNew (p := ⟨b, 1, none⟩) hb x1
structure DoneU (g : Nat) (w W : World) (x0 x1 x2 y0 y1 : Value) (U : World) : Prop where
  r8 : Blok U w.heap.size 28 [x0, x1, x2]
  r9 : Blok U (w.heap.size + 1) 30 [y0, y1]
  fx : Fx (fun _ t => t ≠ 28 ∧ t ≠ 30) W U
  urn : UrnAt U g
  kg : Kg g w U
theorem Mk.done {g : Nat} {w W : World} {bD bW stones : Nat} {ve vn vy vf : Value} (h : Mk g w W bD bW stones ve vn vy vf) (x0 x1 x2 y0 y1 : Value) : DoneU g w W x0 x1 x2 y0 y1 (puts9 (puts8 W w.heap.size x0 x1 x2) (w.heap.size + 1) y0 y1).drew := by
  obtain ⟨p1, p2, p3⟩ := puts8_fx h.r8 x0 x1 x2
  obtain ⟨q1, q2, q3⟩ := puts9_fx (p3 _ _ _ (by simp) h.r9) y0 y1
  have hfx := (p2.mono (q := fun _ t => t ≠ 28 ∧ t ≠ 30) fun _ _ h => h.1).trans (q2.mono (q := fun _ t => t ≠ 28 ∧ t ≠ 30) fun _ _ h => h.2)
  obtain ⟨x, y, hu⟩ := h.urn
  have hu' : UrnAt (puts9 (puts8 W w.heap.size x0 x1 x2) (w.heap.size + 1) y0 y1) g := ⟨x, y, hfx _ _ _ ⟨by decide, by decide⟩ hu⟩
  exact ⟨(q3 _ _ _ (by simp) p1).drew, q1.drew, hfx.trans ((Fx.drew _).mono fun _ _ _ => trivial), hu'.drew, (puts9_kg (puts8_kg h.kg (Nat.le_refl _) _ _ _) (Nat.le_succ _) _ _).drew⟩
def CutA (V : World) (kd : Int) (es : List (Int × Int)) (s t : Nat) (c : Value) (wx : World) : Prop := ∃ b : Bool, c = .bool b ∧ wx = V ∧ (b = false → (kd = 3 → es.length ≠ 0) ∧ (kd = 4 → s ≠ t))
def CutB (g : Nat) (wo : World) (bx s t : Nat) (es : List (Int × Int)) (wx : World) : Prop :=
  ∃ kd : Nat, Blok wx bx 54 [.int .i64 kd, .int .i64 s, .int .i64 0, .slice none 0 0, .int .i64 0, .int .i64 0] ∧ UrnAt wx g ∧ Kg g wo wx ∧ 1 ≤ kd ∧ kd ≤ 4 ∧ (kd = 3 → es.length ≠ 0) ∧ (kd = 4 → s ≠ t)
def CutC (g : Nat) (wo : World) (bx B k : Nat) (es : List (Int × Int)) (x : Nat → Int) (wx : World) : Prop :=
  ∃ (n : Nt) (vy : Value), Blok wx bx 54 [.int .i64 n.kind, .int .i64 n.stone, .int .i64 n.other, vy, .int .i64 n.lo, .int .i64 n.hi] ∧ UrnAt wx g ∧ Kg g wo wx ∧ Fine k es x n ∧ IntsO wx B vy n.years
def CutD (g : Nat) (wo : World) (bx s B4 at_ kk : Nat) (y : Int) (vx : Value) (l : List Int) (n : Int) (c : Value) (wx : World) : Prop :=
  ∃ b : Bool, c = .bool b ∧ YI g wo bx s B4 at_ kk y vx l wx ∧ (b = true → Yrs at_ (kk + 1) y (l ++ [n])) ∧ (b = false → kk ≠ at_)
/-- What DatingOf comes to: a valid dating with a truth. -/
def DatPost (g smax nmax : Nat) (w : World) (e : Ending) (w' : World) : Prop :=
  ∃ (d : Dat) (ys fs : List Int) (vd vy vf : Value), e = .returned (.tuple #[vd, .agg #[vy, vf]]) ∧ Made smax nmax d ys fs ∧ DatO w' w.heap.size vd d ∧ IntsO w' w.heap.size vy ys ∧ IntsO w' w.heap.size vf fs ∧ UrnAt w' g ∧ Kg g w w'
end Go.Proofs.Ytllkkkkladlikaa
