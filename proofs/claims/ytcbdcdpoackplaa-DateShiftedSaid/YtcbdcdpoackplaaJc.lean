/- moved: all years so many years later. -/
import Derived.Test.YtcbdcdpoackplaaJb
namespace Go.Proofs.Ytcbdcdpoackplaa
open Go.RowKit Dt

/-- A list whose first k are mapped. -/
structure Mixed {α : Type} (f : α → α) (l : List α) (k : Nat) (l' : List α) : Prop where
  len : l'.length = l.length
  done : ∀ i, i < k → l'[i]? = (l[i]?).map f
  rest : ∀ i, k ≤ i → l'[i]? = l[i]?
theorem Mixed.start {α : Type} (f : α → α) (l : List α) : Mixed f l 0 l := ⟨rfl, fun i h => absurd h (by omega), fun _ _ => rfl⟩
theorem Mixed.step {α : Type} {f : α → α} {l l' : List α} {k : Nat} {x : α} (h : Mixed f l k l') (hx : l[k]? = some x) : Mixed f l (k + 1) (l'.set k (f x)) := by
  have hk := (List.getElem?_eq_some_iff.1 hx).1
  refine ⟨by rw [List.length_set, h.len], fun i hi => ?_, fun i hi => ?_⟩
  · by_cases e : k = i
    · subst e
      rw [List.getElem?_set_self (by rw [h.len]; exact hk), hx]
      rfl
    · rw [List.getElem?_set_ne e]
      exact h.done i (by omega)
  · rw [List.getElem?_set_ne (by omega)]
    exact h.rest i (by omega)
theorem Mixed.all {α : Type} {f : α → α} {l l' : List α} (h : Mixed f l l.length l') : l' = l.map f := by
  apply List.ext_getElem?
  intro i
  rw [List.getElem?_map]
  by_cases hi : i < l.length
  · exact h.done i hi
  · rw [List.getElem?_eq_none (by rw [h.len]; omega), List.getElem?_eq_none (by omega)]
    rfl
theorem Apart.of_map {xs ys : List (Nt × Value)} (h : Apart xs) (e : ys.map Prod.snd = xs.map Prod.snd) : Apart ys := by
  have h1 : (xs.map Prod.snd).Pairwise fun u v => ∀ b, u.ownBlock = some b → v.ownBlock ≠ some b := List.pairwise_map.2 h
  rw [← e] at h1
  exact List.pairwise_map.1 h1
theorem snd_set {xs : List (Nt × Value)} {i : Nat} {p : Nt × Value} {q : Nt} (hp : xs[i]? = some p) : (xs.set i (q, p.2)).map Prod.snd = xs.map Prod.snd := by
  rw [List.map_set]
  apply List.ext_getElem?
  intro j
  by_cases e : i = j
  · subst e
    have hi := (List.getElem?_eq_some_iff.1 hp).1
    rw [List.getElem?_set_self (by simpa using hi), List.getElem?_map, hp]
    rfl
  · rw [List.getElem?_set_ne e]
theorem Apart.other {xs : List (Nt × Value)} (h : Apart xs) {i j : Nat} {p q : Nt × Value} (hp : xs[i]? = some p) (hq : xs[j]? = some q) (hij : i ≠ j) (b : Nat) (hb : p.2.ownBlock = some b) : q.2.ownBlock ≠ some b := by
  obtain ⟨hi, e1⟩ := List.getElem?_eq_some_iff.1 hp
  obtain ⟨hj, e2⟩ := List.getElem?_eq_some_iff.1 hq
  rcases Nat.lt_or_gt_of_ne hij with h1 | h1
  · have := List.pairwise_iff_getElem.1 h i j hi hj h1 b
    rw [e1, e2] at this
    exact this hb
  · intro hc
    have := List.pairwise_iff_getElem.1 h j i hj hi h1 b
    rw [e1, e2] at this
    exact this hc hb
theorem cellsN_cons2 (a : Nt × Value) (xs : List (Nt × Value)) : cellsN (a :: xs) = .int .i64 a.1.kind :: .int .i64 a.1.stone :: .int .i64 a.1.other :: a.2 :: .int .i64 a.1.lo :: .int .i64 a.1.hi :: cellsN xs := by simp [cellsN, ntL]
theorem set_same {α : Type} {l : List α} {i : Nat} {x : α} (h : l[i]? = some x) : l.set i x = l := by
  apply List.ext_getElem?
  intro j
  by_cases e : i = j
  · subst e
    rw [List.getElem?_set_self (List.getElem?_eq_some_iff.1 h).1, h]
  · rw [List.getElem?_set_ne e]
/-- What moved holds on its way. -/
structure MV (w : World) (d : Dat) (bx : Nat) (Ax : Option Addr) (ne cx : Nat) (Bn : Option Addr) (nn bn : Nat) (es : List (Int × Int)) (xs : List (Nt × Value)) (W : World) : Prop where
  k1 : Blok W (w.heap.size + 1) 28 zeroD
  kx : Blok W bx 28 [.int .i64 d.stones, .slice Ax ne cx, .slice Bn nn bn]
  hb : w.heap.size + 1 < bx
  oe : W.ownsRow w.heap.size 39 2 (.slice Ax ne cx) ne (flatS es)
  on : W.ownsRow w.heap.size 51 6 (.slice Bn nn bn) nn (cellsN xs)
  years : ∀ p ∈ xs, IntsO W w.heap.size p.2 p.1.years
  apart : Apart xs
  below : Below w.heap.size w W
section
variable {w W W' : World} {d : Dat} {bx : Nat} {Ax Bn : Option Addr} {ne cx nn bn : Nat} {es : List (Int × Int)} {xs : List (Nt × Value)}
theorem MV.to (h : MV w d bx Ax ne cx Bn nn bn es xs W) (hb : Below W.heap.size W W') : MV w d bx Ax ne cx Bn nn bn es xs W' :=
  ⟨h.k1.below hb h.k1.size, h.kx.below hb h.kx.size, h.hb, own_fx h.oe (Fx.of_all hb) (fun _ _ _ _ => trivial), own_fx h.on (Fx.of_all hb) (fun _ _ _ _ => trivial), fun p hp => own_fx (h.years p hp) (Fx.of_all hb) (fun _ _ _ _ => trivial), h.apart, h.below.trans (hb.mono h.below.size)⟩
theorem MV.drew (h : MV w d bx Ax ne cx Bn nn bn es xs W) : MV w d bx Ax ne cx Bn nn bn es xs W.drew := h.to (Below.refl _ W).drew
theorem own_blok {w : World} {B e size n g c : Nat} {xs : List Value} (h : w.ownsRow B e size (.slice (some ⟨g, 0, none⟩) n c) n xs) : ∃ cs, Blok w g e cs := by
  rcases h.2 with ⟨e, _⟩ | ⟨r, cap, cur, e, _, e3, _⟩
  · cases e
  · injection e with e
    injection e with e
    injection e with e
    subst e
    exact ⟨cur.toList, by unfold Blok; rw [e3]⟩
/-- A span of an era is stored. -/
theorem MV.span {gx k : Nat} {a b : Int} (h : MV w d bx (some ⟨gx, 0, none⟩) ne cx Bn nn bn es xs W) :
    MV w d bx (some ⟨gx, 0, none⟩) ne cx Bn nn bn (es.set k (a, b)) xs ((W.setCell ⟨gx, k * 2, none⟩ (.int .i64 a)).setCell ⟨gx, k * 2 + 1, none⟩ (.int .i64 b)) := by
  obtain ⟨cs, hb⟩ := own_blok h.oe
  have hgx := (h.oe.lt gx rfl).1
  have hT : ∀ {t : TypeId} {b : Nat} {cs' : List Value}, Blok W b t cs' → t ≠ 39 → b ≠ gx := fun h1 h2 => blok_ne h1 hb h2
  have hO' : ∀ {base size n : Nat} {e : TypeId} {v : Value} {xs : List Value}, W.ownsRow base e size v n xs → e ≠ 39 → ((W.setCell ⟨gx, k * 2, none⟩ (.int .i64 a)).setCell ⟨gx, k * 2 + 1, none⟩ (.int .i64 b)).ownsRow base e size v n xs := fun h1 h2 => by
    have hn := own_ne h1 hb h2
    exact own_far (own_far h1 hn _) hn _
  refine ⟨(h.k1.far (hT h.k1 (by decide)) _).far (hT h.k1 (by decide)) _, (h.kx.far (hT h.kx (by decide)) _).far (hT h.kx (by decide)) _, h.hb, ?_, hO' h.on (by decide), fun p hp => hO' (h.years p hp) (by decide), h.apart, (h.below.setCell (p := ⟨gx, k * 2, none⟩) hgx _).setCell (p := ⟨gx, k * 2 + 1, none⟩) hgx _⟩
  have := ((h.oe.stored (k * 2) (.int .i64 a)).1.stored (k * 2 + 1) (.int .i64 b)).1
  rw [flatS_set es k (a, b)] at this
  exact this
theorem cellsN_lohi : ∀ (xs : List (Nt × Value)) (k : Nat) (p : Nt × Value) (a b : Int), xs[k]? = some p →
    ((cellsN xs).set (k * 6 + 4) (.int .i64 a)).set (k * 6 + 5) (.int .i64 b) = cellsN (xs.set k (⟨p.1.kind, p.1.stone, p.1.other, p.1.years, a, b⟩, p.2))
  | [], _, _, _, _, h => by simp at h
  | x :: xs, 0, p, a, b, h => by
    obtain rfl : x = p := by simpa using h
    simp [cellsN_cons2]
  | x :: xs, k + 1, p, a, b, h => by
    have ih := cellsN_lohi xs k p a b (by simpa using h)
    rw [show (k + 1) * 6 + 4 = k * 6 + 4 + 1 + 1 + 1 + 1 + 1 + 1 by omega, show (k + 1) * 6 + 5 = k * 6 + 5 + 1 + 1 + 1 + 1 + 1 + 1 by omega, cellsN_cons2]
    simp only [List.set_cons_succ]
    rw [ih]
    simp [cellsN_cons2]
/-- A note's span is stored. -/
theorem MV.lohi {gx i : Nat} {a b : Int} {p : Nt × Value} (h : MV w d bx Ax ne cx (some ⟨gx, 0, none⟩) nn bn es xs W) (hp : xs[i]? = some p) :
    MV w d bx Ax ne cx (some ⟨gx, 0, none⟩) nn bn es (xs.set i (⟨p.1.kind, p.1.stone, p.1.other, p.1.years, a, b⟩, p.2)) ((W.setCell ⟨gx, i * 6 + 4, none⟩ (.int .i64 a)).setCell ⟨gx, i * 6 + 5, none⟩ (.int .i64 b)) := by
  obtain ⟨cs, hb⟩ := own_blok h.on
  have hgx := (h.on.lt gx rfl).1
  have hT : ∀ {t : TypeId} {b : Nat} {cs' : List Value}, Blok W b t cs' → t ≠ 51 → b ≠ gx := fun h1 h2 => blok_ne h1 hb h2
  have hO' : ∀ {base size n : Nat} {e : TypeId} {v : Value} {xs : List Value}, W.ownsRow base e size v n xs → e ≠ 51 → ((W.setCell ⟨gx, i * 6 + 4, none⟩ (.int .i64 a)).setCell ⟨gx, i * 6 + 5, none⟩ (.int .i64 b)).ownsRow base e size v n xs := fun h1 h2 => by
    have hn := own_ne h1 hb h2
    exact own_far (own_far h1 hn _) hn _
  refine ⟨(h.k1.far (hT h.k1 (by decide)) _).far (hT h.k1 (by decide)) _, (h.kx.far (hT h.kx (by decide)) _).far (hT h.kx (by decide)) _, h.hb, hO' h.oe (by decide), ?_, fun q hq => ?_, h.apart.of_map (snd_set hp), (h.below.setCell (p := ⟨gx, i * 6 + 4, none⟩) hgx _).setCell (p := ⟨gx, i * 6 + 5, none⟩) hgx _⟩
  · have := ((h.on.stored (i * 6 + 4) (.int .i64 a)).1.stored (i * 6 + 5) (.int .i64 b)).1
    rw [cellsN_lohi xs i p a b hp] at this
    exact this
  · rcases List.mem_or_eq_of_mem_set hq with hq | rfl
    · exact hO' (h.years q hq) (by decide)
    · exact hO' (h.years p (List.mem_of_getElem? hp)) (by decide)
theorem cellsN_years (xs : List (Nt × Value)) (k : Nat) (p : Nt × Value) (l : List Int) (h : xs[k]? = some p) : cellsN (xs.set k (⟨p.1.kind, p.1.stone, p.1.other, l, p.1.lo, p.1.hi⟩, p.2)) = cellsN xs := by
  induction xs generalizing k with
  | nil => simp at h
  | cons x xs ih =>
    cases k with
    | zero =>
      obtain rfl : x = p := by simpa using h
      simp [cellsN_cons2]
    | succ k =>
      have := ih k (by simpa using h)
      simp [cellsN_cons2, this]
/-- A year of a note is stored. -/
theorem MV.year {gy i k : Nat} {c : Nat} {y : Int} {p : Nt × Value} (h : MV w d bx Ax ne cx Bn nn bn es xs W) (hp : xs[i]? = some p) (hv : p.2 = .slice (some ⟨gy, 0, none⟩) p.1.years.length c) :
    MV w d bx Ax ne cx Bn nn bn es (xs.set i (⟨p.1.kind, p.1.stone, p.1.other, p.1.years.set k y, p.1.lo, p.1.hi⟩, p.2)) (W.setCell ⟨gy, k, none⟩ (.int .i64 y)) := by
  have ho := h.years p (List.mem_of_getElem? hp)
  have ho' : W.ownsRow w.heap.size 3 1 (.slice (some ⟨gy, 0, none⟩) p.1.years.length c) p.1.years.length (intCells p.1.years) := by rw [← hv]; exact ho
  obtain ⟨cs, hb⟩ := own_blok ho'
  have hgx := (ho'.lt gy rfl).1
  have hT : ∀ {t : TypeId} {b : Nat} {cs' : List Value}, Blok W b t cs' → t ≠ 3 → b ≠ gy := fun h1 h2 => blok_ne h1 hb h2
  have hO' : ∀ {base size n : Nat} {e : TypeId} {v : Value} {xs : List Value}, W.ownsRow base e size v n xs → e ≠ 3 → (W.setCell ⟨gy, k, none⟩ (.int .i64 y)).ownsRow base e size v n xs := fun h1 h2 => own_far h1 (own_ne h1 hb h2) _
  refine ⟨h.k1.far (hT h.k1 (by decide)) _, h.kx.far (hT h.kx (by decide)) _, h.hb, hO' h.oe (by decide), ?_, fun q hq => ?_, h.apart.of_map (snd_set hp), h.below.setCell (p := ⟨gy, k, none⟩) hgx _⟩
  · rw [cellsN_years xs i p _ hp]
    exact hO' h.on (by decide)
  · obtain ⟨j, hj⟩ := List.getElem?_of_mem hq
    by_cases e : i = j
    · subst e
      have hi := (List.getElem?_eq_some_iff.1 hp).1
      rw [List.getElem?_set_self hi] at hj
      injection hj with hj
      subst hj
      have h2 := (ho'.stored k (.int .i64 y)).1
      rw [hv]
      show (W.setCell ⟨gy, k, none⟩ (.int .i64 y)).ownsRow w.heap.size 3 1 (.slice (some ⟨gy, 0, none⟩) p.1.years.length c) (p.1.years.set k y).length (intCells (p.1.years.set k y))
      rw [List.length_set, show intCells (p.1.years.set k y) = (intCells p.1.years).set k (.int .i64 y) by simp [intCells, List.map_set]]
      exact h2
    · rw [List.getElem?_set_ne e] at hj
      exact own_far (h.years q (List.mem_of_getElem? hj)) (h.apart.other hp hj e gy (by rw [hv]; rfl)) _
end
set_option maxRecDepth 100000 in
set_option maxHeartbeats 8000000 in
theorem moved_any (d : Dat) (b : Int) (hd : d.Ok) (hw : Wee d) (b1 : -500 ≤ b) (b2 : b ≤ 500) (B : Nat) (v : Value) (w : World) (hv : DatO w B v d) :
    Calls Try.prog 26 #[v, .int .i64 b] w fun e w' => ∃ v', e = .returned v' ∧ DatO w' w.heap.size v' (d.moved b) ∧ Below w.heap.size w w' := by
  obtain ⟨ve, vn, rfl, hE, hN⟩ := hv
  obtain ⟨Ae, ce, rfl⟩ := own_slice hE
  have hDv : DatO w B (.agg #[.int .i64 d.stones, .slice Ae d.eras.length ce, vn]) d := ⟨_, _, rfl, hE, hN⟩
  obtain ⟨xs0, hxs0, hN', hyr0⟩ := hN
  obtain ⟨An, cn, rfl⟩ := own_slice hN'
  have HDV := Lib.hid hDv
  have HD := Lib.hid hd
  have HW := Lib.hid hw
  have h8 := hd.notes.1
  have he3 := hd.eras.1
  clear hE hN' hyr0 hxs0 hDv hd hw
  go_enter Try.func26, Try.ntmps26
  go_wp2_with fail
  have hb0 : Below w.heap.size w ((w.alloc (.cells #[.int .i64 d.stones, .slice Ae d.eras.length ce, .slice An d.notes.length cn] 28)).alloc (.cells zeroD.toArray 28)) := ((Below.refl _ w).alloc (Nat.le_refl _) _).alloc (by simp) _
  have hk1 : Blok ((w.alloc (.cells #[.int .i64 d.stones, .slice Ae d.eras.length ce, .slice An d.notes.length cn] 28)).alloc (.cells zeroD.toArray 28)) (w.heap.size + 1) 28 zeroD := by
    have := Blok.new (w.alloc (.cells #[.int .i64 d.stones, .slice Ae d.eras.length ce, .slice An d.notes.length cn] 28)) 28 zeroD
    simpa only [World.size_alloc] using this
  unfold zeroD at hb0 hk1
  refine (copyDatingX_any d HD.out B _ _ (HDV.out.below (hb0.mono (Nat.le_refl _)))).mono ?_
  rintro e w1 ⟨v', rfl, ⟨ve', vn', xs, rfl, hE, hxs, hN, hY, hA⟩, hb1⟩
  obtain ⟨Ax, cx, rfl⟩ := own_slice hE
  obtain ⟨Bn, bn, rfl⟩ := own_slice hN
  obtain ⟨ne, hne⟩ : ∃ ne, ne = d.eras.length := ⟨_, rfl⟩
  obtain ⟨nn, hnn⟩ : ∃ nn, nn = d.notes.length := ⟨_, rfl⟩
  unfold SpansO at hE
  rw [← hne] at hE he3
  rw [← hnn] at hN h8
  rw [← hne, ← hnn]
  have hmv : MV w d w1.heap.size Ax ne cx Bn nn bn d.eras xs (w1.alloc (.cells #[.int .i64 d.stones, .slice Ax ne cx, .slice Bn nn bn] 28)) := by
    have z1 := hb1.size
    simp at z1
    refine ⟨(hk1.below hb1 hk1.size).alloc _, Blok.new w1 _ _, by omega, (hE.mono (base' := w.heap.size) (by first | (simp; done) | (simp; omega))).alloc _, (hN.mono (base' := w.heap.size) (by first | (simp; done) | (simp; omega))).alloc _, fun p hp => ((hY p hp).mono (base' := w.heap.size) (by first | (simp; done) | (simp; omega))).alloc _, hA, (hb0.trans (hb1.mono hb0.size)).alloc (by omega) _⟩
  have HMV := Lib.hid hmv
  have HXS := Lib.hid hxs
  have HNE := Lib.hid hne
  have HNN := Lib.hid hnn
  obtain ⟨bx, hbx⟩ : ∃ bx, bx = w1.heap.size := ⟨_, rfl⟩
  rw [← hbx] at HMV
  clear hmv hxs hne hnn hE hN hY hA hb1 hb0 hk1 HDV
  go_wp2_with fail
  rw [← hbx]
  clear hbx
  go_loopg [6] ne (fun r i wr => ∃ (k : Nat) (es' : List (Int × Int)), i = .int .i64 (k : Nat) ∧ k + r = ne ∧ Mixed (movedE b) d.eras k es' ∧ MV w d bx Ax ne cx Bn nn bn es' xs wr)
  case atStart => exact ⟨0, d.eras, rfl, by omega, Mixed.start _ _, HMV.out⟩
  case round =>
    clear HMV
    obtain ⟨k, es', rfl, hkr, hmx, hs⟩ := hrel
    have HS := Lib.hid hs
    have HM := Lib.hid hmx
    clear hs hmx
    have dx1 := HS.out.kx.cell 1
    have dx2 := HS.out.kx.cell 2
    simp at dx1 dx2
    by_cases hlt : k < ne
    · obtain ⟨gx, rfl⟩ := own_addr HS.out.oe (by omega)
      obtain ⟨p, hp⟩ : ∃ p, d.eras[k]? = some p := ⟨_, List.getElem?_eq_getElem (by have := HNE.out; omega)⟩
      have hes : es'[k]? = some p := by rw [HM.out.rest k (Nat.le_refl _)]; exact hp
      obtain ⟨u1, u2⟩ := flatS_at es' k p hes
      obtain ⟨ps1, ps2⟩ := HW.out.eras p (List.mem_of_getElem? hp)
      have ps3 := (HD.out.eras.2 p (List.mem_of_getElem? hp)).2.1
      have HC := Lib.hid (fun (W : World) (h : MV w d bx (some ⟨gx, 0, none⟩) ne cx Bn nn bn es' xs W) => (show W.cell? ⟨gx, k * 2, none⟩ = some (.int .i64 p.1) ∧ W.cell? ⟨gx, k * 2 + 1, none⟩ = some (.int .i64 p.2) from ⟨(h.oe.cellAt (k * 2) (by omega)).trans u1, (h.oe.cellAt (k * 2 + 1) (by omega)).trans u2⟩))
      have HST := Lib.hid (HM.out.step hp)
      have q1 : IntKind.i64.wrap (p.1 + b) = p.1 + b := IntWalk.i64_in _ (by omega)
      have q2 : IntKind.i64.wrap (p.2 + b) = p.2 + b := IntWalk.i64_in _ (by omega)
      clear u1 u2 hes hp
      go_wp2_with fail
      clear dx1 dx2
      refine wp_region_v [(fun j => j == 1 || j == 4 || j == 6 || j == 7 || j == 8 || j == 10 || j == 12 || j == 14 || j == 15 || j == 16 || j == 18 || j == 19 || j == 20, fun W => W.cell? ⟨bx, 1, none⟩ = some (.slice (some ⟨gx, 0, none⟩) ne cx)), (fun j => j == 8 || j == 10 || j == 12 || j == 14 || j == 15 || j == 16 || j == 18 || j == 19 || j == 20, fun W => W.cell? ⟨gx, k * 2, none⟩ = some (.int .i64 p.1) ∧ W.cell? ⟨gx, k * 2 + 1, none⟩ = some (.int .i64 p.2))] (by kernel_rfl) ?_
      refine wpAnyV_world (fun W => MV w d bx (some ⟨gx, 0, none⟩) ne cx Bn nn bn es' xs W) HS.out.drew (fun V hV => ?_)
      have HV := Lib.hid hV
      clear hV
      refine wpAnyV_free (i := 0) (v := ?_) (by simp only [List.getElem?_toArray, List.getElem?_cons_zero]; rfl) (by kernel_rfl) (by kernel_rfl) (by kernel_rfl) (by kernel_rfl) (by exact fun _ _ _ h => h) (Or.inl ⟨by rfl, ?hya2⟩) (behind_cons (fun h => by simp at h) (behind_cons (fun h => by simp at h) (fun p hp => by cases hp))) ?resta2
      case hya2 => (intro W' _; go_simp; try with_reducible rfl)
      try simp only [Act.put, List.setIfInBounds_toArray, List.set_cons_zero, List.set_cons_succ]
      refine wpAnyV_free (i := 2) (v := ?_) (by simp only [List.getElem?_toArray, List.getElem?_cons_zero, List.getElem?_cons_succ]; rfl) (by kernel_rfl) (by kernel_rfl) (by kernel_rfl) (by kernel_rfl) (by exact fun _ _ _ h => h) (Or.inl ⟨by rfl, ?hya3⟩) (behind_cons (fun h => by simp at h) (behind_cons (fun h => by simp at h) (fun p hp => by cases hp))) ?resta3
      case hya3 => (intro W' _; go_simp; try with_reducible rfl)
      try simp only [Act.put, List.setIfInBounds_toArray, List.set_cons_zero, List.set_cons_succ]
      refine wpAnyV_free (i := 3) (v := ?_) (by simp only [List.getElem?_toArray, List.getElem?_cons_zero, List.getElem?_cons_succ]; rfl) (by kernel_rfl) (by kernel_rfl) (by kernel_rfl) (by kernel_rfl) (by exact fun _ _ _ h => h) (Or.inl ⟨by rfl, ?hya4⟩) (behind_cons (fun h => by simp at h) (behind_cons (fun h => by simp at h) (fun p hp => by cases hp))) ?resta4
      case hya4 => (intro W' _; go_simp; try with_reducible rfl)
      try simp only [Act.put, List.setIfInBounds_toArray, List.set_cons_zero, List.set_cons_succ]
      refine wpAnyV_free (i := 5) (v := ?_) (by simp only [List.getElem?_toArray, List.getElem?_cons_zero, List.getElem?_cons_succ]; rfl) (by kernel_rfl) (by kernel_rfl) (by kernel_rfl) (by kernel_rfl) (by exact fun _ _ _ h => h) (Or.inl ⟨by rfl, ?hya5⟩) (behind_cons (fun h => by simp at h) (behind_cons (fun h => by simp at h) (fun p hp => by cases hp))) ?resta5
      case hya5 => (intro W' _; go_simp; try with_reducible rfl)
      try simp only [Act.put, List.setIfInBounds_toArray, List.set_cons_zero, List.set_cons_succ]
      refine wpAnyV_free (i := 9) (v := ?_) (by simp only [List.getElem?_toArray, List.getElem?_cons_zero, List.getElem?_cons_succ]; rfl) (by kernel_rfl) (by kernel_rfl) (by kernel_rfl) (by kernel_rfl) (by exact fun _ _ _ h => h) (Or.inl ⟨by rfl, ?hya6⟩) (behind_cons (fun h => by simp at h) (behind_cons (fun h => by simp at h) (fun p hp => by cases hp))) ?resta6
      case hya6 => (intro W' _; go_simp; try with_reducible rfl)
      try simp only [Act.put, List.setIfInBounds_toArray, List.set_cons_zero, List.set_cons_succ]
      refine wpAnyV_free (i := 11) (v := ?_) (by simp only [List.getElem?_toArray, List.getElem?_cons_zero, List.getElem?_cons_succ]; rfl) (by kernel_rfl) (by kernel_rfl) (by kernel_rfl) (by kernel_rfl) (by exact fun _ _ _ h => h) (Or.inl ⟨by rfl, ?hya7⟩) (behind_cons (fun h => by simp at h) (behind_cons (fun h => by simp at h) (fun p hp => by cases hp))) ?resta7
      case hya7 => (intro W' _; go_simp; try with_reducible rfl)
      try simp only [Act.put, List.setIfInBounds_toArray, List.set_cons_zero, List.set_cons_succ]
      refine wpAnyV_free (i := 13) (v := ?_) (by simp only [List.getElem?_toArray, List.getElem?_cons_zero, List.getElem?_cons_succ]; rfl) (by kernel_rfl) (by kernel_rfl) (by kernel_rfl) (by kernel_rfl) (by exact fun _ _ _ h => h) (Or.inl ⟨by rfl, ?hya8⟩) (behind_cons (fun h => by simp at h) (behind_cons (fun h => by simp at h) (fun p hp => by cases hp))) ?resta8
      case hya8 => (intro W' _; go_simp; try with_reducible rfl)
      try simp only [Act.put, List.setIfInBounds_toArray, List.set_cons_zero, List.set_cons_succ]
      refine wpAnyV_free (i := 17) (v := ?_) (by simp only [List.getElem?_toArray, List.getElem?_cons_zero, List.getElem?_cons_succ]; rfl) (by kernel_rfl) (by kernel_rfl) (by kernel_rfl) (by kernel_rfl) (by exact fun _ _ _ h => h) (Or.inl ⟨by rfl, ?hya9⟩) (behind_cons (fun h => by simp at h) (behind_cons (fun h => by simp at h) (fun p hp => by cases hp))) ?resta9
      case hya9 => (intro W' _; go_simp; try with_reducible rfl)
      try simp only [Act.put, List.setIfInBounds_toArray, List.set_cons_zero, List.set_cons_succ]
      refine wpAnyV_take (i := 1) (m := 0) (v := ?_) (by simp only [List.getElem?_toArray, List.getElem?_cons_zero, List.getElem?_cons_succ]; rfl) (by rfl) (by kernel_rfl) (by kernel_rfl) (by kernel_rfl) (by kernel_rfl) (by exact fun _ _ _ h => h) (Or.inl ⟨by rfl, ?hya10⟩) ((HV.out.kx.cell 1)) (behind_cons (fun _ => (HV.out.kx.cell 1)) (behind_cons (fun h => by simp at h) (fun p hp => by cases hp))) ?resta10
      case hya10 => (intro W' hSW; go_simp; try with_reducible rfl)
      try simp only [Act.put, List.setIfInBounds_toArray, List.set_cons_zero, List.set_cons_succ]
      refine wpAnyV_take (i := 4) (m := 0) (v := ?_) (by simp only [List.getElem?_toArray, List.getElem?_cons_zero, List.getElem?_cons_succ]; rfl) (by rfl) (by kernel_rfl) (by kernel_rfl) (by kernel_rfl) (by kernel_rfl) (by exact fun _ _ _ h => h) (Or.inl ⟨by rfl, ?hya11⟩) ((HV.out.kx.cell 1)) (behind_cons (fun _ => (HV.out.kx.cell 1)) (behind_cons (fun h => by simp at h) (fun p hp => by cases hp))) ?resta11
      case hya11 => (intro W' hSW; go_simp; try with_reducible rfl)
      try simp only [Act.put, List.setIfInBounds_toArray, List.set_cons_zero, List.set_cons_succ]
      refine wpAnyV_free (i := 6) (v := ?_) (by simp only [List.getElem?_toArray, List.getElem?_cons_zero, List.getElem?_cons_succ]; rfl) (by kernel_rfl) (by kernel_rfl) (by kernel_rfl) (by kernel_rfl) (by exact fun _ _ _ h => h) (Or.inl ⟨by rfl, ?hya12⟩) (behind_cons (fun _ => (HV.out.kx.cell 1)) (behind_cons (fun h => by simp at h) (fun p hp => by cases hp))) ?resta12
      case hya12 => (intro W' _; go_simp; try with_reducible rfl)
      try simp only [Act.put, List.setIfInBounds_toArray, List.set_cons_zero, List.set_cons_succ]
      refine wpAnyV_free (i := 7) (v := ?_) (by simp only [List.getElem?_toArray, List.getElem?_cons_zero, List.getElem?_cons_succ]; rfl) (by kernel_rfl) (by kernel_rfl) (by kernel_rfl) (by kernel_rfl) (by exact fun _ _ _ h => h) (Or.inl ⟨by rfl, ?hya13⟩) (behind_cons (fun _ => (HV.out.kx.cell 1)) (behind_cons (fun h => by simp at h) (fun p hp => by cases hp))) ?resta13
      case hya13 => (intro W' _; go_simp; try with_reducible rfl)
      try simp only [Act.put, List.setIfInBounds_toArray, List.set_cons_zero, List.set_cons_succ]
      refine wpAnyV_take (i := 8) (m := 1) (v := ?_) (by simp only [List.getElem?_toArray, List.getElem?_cons_zero, List.getElem?_cons_succ]; rfl) (by rfl) (by kernel_rfl) (by kernel_rfl) (by kernel_rfl) (by kernel_rfl) (by exact fun _ _ _ h => h) (Or.inl ⟨by rfl, ?hya14⟩) ((HC.out _ HV.out)) (behind_cons (fun _ => (HV.out.kx.cell 1)) (behind_cons (fun _ => (HC.out _ HV.out)) (fun p hp => by cases hp))) ?resta14
      case hya14 => (intro W' hSW; go_simp; try with_reducible rfl)
      try simp only [Act.put, List.setIfInBounds_toArray, List.set_cons_zero, List.set_cons_succ]
      refine wpAnyV_free (i := 10) (v := ?_) (by simp only [List.getElem?_toArray, List.getElem?_cons_zero, List.getElem?_cons_succ]; rfl) (by kernel_rfl) (by kernel_rfl) (by kernel_rfl) (by kernel_rfl) (by exact fun _ _ _ h => h) (Or.inl ⟨by rfl, ?hya15⟩) (behind_cons (fun _ => (HV.out.kx.cell 1)) (behind_cons (fun _ => (HC.out _ HV.out)) (fun p hp => by cases hp))) ?resta15
      case hya15 => (intro W' _; go_simp; try with_reducible rfl)
      try simp only [Act.put, List.setIfInBounds_toArray, List.set_cons_zero, List.set_cons_succ]
      refine wpAnyV_take (i := 12) (m := 0) (v := ?_) (by simp only [List.getElem?_toArray, List.getElem?_cons_zero, List.getElem?_cons_succ]; rfl) (by rfl) (by kernel_rfl) (by kernel_rfl) (by kernel_rfl) (by kernel_rfl) (by exact fun _ _ _ h => h) (Or.inl ⟨by rfl, ?hya16⟩) ((HV.out.kx.cell 1)) (behind_cons (fun _ => (HV.out.kx.cell 1)) (behind_cons (fun _ => (HC.out _ HV.out)) (fun p hp => by cases hp))) ?resta16
      case hya16 => (intro W' hSW; go_simp; try with_reducible rfl)
      try simp only [Act.put, List.setIfInBounds_toArray, List.set_cons_zero, List.set_cons_succ]
      refine wpAnyV_free (i := 14) (v := ?_) (by simp only [List.getElem?_toArray, List.getElem?_cons_zero, List.getElem?_cons_succ]; rfl) (by kernel_rfl) (by kernel_rfl) (by kernel_rfl) (by kernel_rfl) (by exact fun _ _ _ h => h) (Or.inl ⟨by rfl, ?hya17⟩) (behind_cons (fun _ => (HV.out.kx.cell 1)) (behind_cons (fun _ => (HC.out _ HV.out)) (fun p hp => by cases hp))) ?resta17
      case hya17 => (intro W' _; go_simp; try with_reducible rfl)
      try simp only [Act.put, List.setIfInBounds_toArray, List.set_cons_zero, List.set_cons_succ]
      refine wpAnyV_free (i := 15) (v := ?_) (by simp only [List.getElem?_toArray, List.getElem?_cons_zero, List.getElem?_cons_succ]; rfl) (by kernel_rfl) (by kernel_rfl) (by kernel_rfl) (by kernel_rfl) (by exact fun _ _ _ h => h) (Or.inl ⟨by rfl, ?hya18⟩) (behind_cons (fun _ => (HV.out.kx.cell 1)) (behind_cons (fun _ => (HC.out _ HV.out)) (fun p hp => by cases hp))) ?resta18
      case hya18 => (intro W' _; go_simp; try with_reducible rfl)
      try simp only [Act.put, List.setIfInBounds_toArray, List.set_cons_zero, List.set_cons_succ]
      refine wpAnyV_take (i := 16) (m := 1) (v := ?_) (by simp only [List.getElem?_toArray, List.getElem?_cons_zero, List.getElem?_cons_succ]; rfl) (by rfl) (by kernel_rfl) (by kernel_rfl) (by kernel_rfl) (by kernel_rfl) (by exact fun _ _ _ h => h) (Or.inl ⟨by rfl, ?hya19⟩) ((HC.out _ HV.out)) (behind_cons (fun _ => (HV.out.kx.cell 1)) (behind_cons (fun _ => (HC.out _ HV.out)) (fun p hp => by cases hp))) ?resta19
      case hya19 => (intro W' hSW; go_simp; try with_reducible rfl)
      try simp only [Act.put, List.setIfInBounds_toArray, List.set_cons_zero, List.set_cons_succ]
      refine wpAnyV_free (i := 18) (v := ?_) (by simp only [List.getElem?_toArray, List.getElem?_cons_zero, List.getElem?_cons_succ]; rfl) (by kernel_rfl) (by kernel_rfl) (by kernel_rfl) (by kernel_rfl) (by exact fun _ _ _ h => h) (Or.inl ⟨by rfl, ?hya20⟩) (behind_cons (fun _ => (HV.out.kx.cell 1)) (behind_cons (fun _ => (HC.out _ HV.out)) (fun p hp => by cases hp))) ?resta20
      case hya20 => (intro W' _; go_simp; try with_reducible rfl)
      try simp only [Act.put, List.setIfInBounds_toArray, List.set_cons_zero, List.set_cons_succ]
      refine wpAnyV_ready (rs := [19]) (by kernel_rfl) (by simp) ?_
      refine AllReadyV.cons (by simp only [List.getElem?_toArray, List.getElem?_cons_zero, List.getElem?_cons_succ]; rfl) (fun K hK => ?_) AllReadyV.nil
      go_simp
      go_at_call 23
      (with_reducible refine (to_any (p.1 + b) (p.2 + b) _).mono ?_)
      rintro e w501 ⟨rfl, hb⟩
      have HC501 := Lib.hid (HV.out.to hb)
      clear hb
      refine hK.out _ _ (behind_cons (fun _ => (HC501.out.kx.cell 1)) (behind_cons (fun _ => (HC.out _ HC501.out)) (fun p hp => by cases hp))) ?_
      clear hK K
      try simp only [Act.put, List.setIfInBounds_toArray, List.set_cons_zero, List.set_cons_succ]
      refine wpAnyV_free (i := 20) (v := ?_) (by simp only [List.getElem?_toArray, List.getElem?_cons_zero, List.getElem?_cons_succ]; rfl) (by kernel_rfl) (by kernel_rfl) (by kernel_rfl) (by kernel_rfl) (by exact fun _ _ _ h => h) (Or.inl ⟨by rfl, ?hya22⟩) (behind_cons (fun _ => (HC501.out.kx.cell 1)) (behind_cons (fun _ => (HC.out _ HC501.out)) (fun p hp => by cases hp))) ?resta22
      case hya22 => (intro W' _; go_simp; try with_reducible rfl)
      try simp only [Act.put, List.setIfInBounds_toArray, List.set_cons_zero, List.set_cons_succ]
      refine wpAnyV_ready (rs := [21]) (by kernel_rfl) (by simp) ?_
      refine AllReadyV.cons (by simp only [List.getElem?_toArray, List.getElem?_cons_zero, List.getElem?_cons_succ]; rfl) (fun K hK => ?_) AllReadyV.nil
      have x0 := (HC.out _ HC501.out).1
      have x1 := (HC.out _ HC501.out).2
      have y0 := (HC501.out.oe).frozenAt (k * 2)
      have y1 := (HC501.out.oe).frozenAt (k * 2 + 1)
      go_simp
      clear x0 x1 y0 y1
      refine hK.out _ _ (behind_cons (fun h => by simp at h) (behind_cons (fun h => by simp at h) (fun p hp => by cases hp))) ?_
      clear hK K
      try simp only [Act.put, List.setIfInBounds_toArray, List.set_cons_zero, List.set_cons_succ]
      refine wpAnyV_done (by kernel_rfl) ?_ _
      have HSP := Lib.hid ((HC501.out.span (k := k) (a := p.1 + b) (b := p.2 + b)))
      go_wp2_with fail
      go_roundg (gk - 1)
      case measure => omega
      case rel => exact ⟨k + 1, _, by go_num, by omega, HST.out, HSP.out⟩
    · obtain rfl : k = ne := by omega
      have hall : es' = d.eras.map (movedE b) := Mixed.all (by rw [← HNE.out]; exact HM.out)
      subst hall
      clear HM
      go_wp2_with fail
      go_loopg [7] nn (fun r i wr => ∃ (i0 : Nat) (xs' : List (Nt × Value)), i = .int .i64 (i0 : Nat) ∧ i0 + r = nn ∧ xs'.map Prod.snd = xs.map Prod.snd ∧ Mixed (Nt.moved b) d.notes i0 (xs'.map Prod.fst) ∧ MV w d bx Ax k cx Bn nn bn (d.eras.map (movedE b)) xs' wr)
      case atStart => exact ⟨0, xs, rfl, by omega, rfl, by rw [HXS.out]; exact Mixed.start _ _, HS.out⟩
      case round =>
        clear HS dx1 dx2
        obtain ⟨i, xs', rfl, hir, hsnd, hmx, hs⟩ := hrel
        obtain ⟨ga, hga⟩ : ∃ ga, ga = gk := ⟨_, rfl⟩
        have HS := Lib.hid hs
        have HM := Lib.hid hmx
        have HSN := Lib.hid hsnd
        clear hs hmx hsnd
        have dx2 := HS.out.kx.cell 2
        simp at dx2
        by_cases hi : i < nn
        · obtain ⟨gx, rfl⟩ := own_addr HS.out.on (by omega)
          obtain ⟨n, hn⟩ : ∃ n, d.notes[i]? = some n := ⟨_, List.getElem?_eq_getElem (by have := HNN.out; omega)⟩
          have hxi : (xs'.map Prod.fst)[i]? = some n := by rw [HM.out.rest i (Nat.le_refl _)]; exact hn
          obtain ⟨p, hp, hpn⟩ : ∃ p, xs'[i]? = some p ∧ p.1 = n := by
            rw [List.getElem?_map] at hxi
            cases hq : xs'[i]? with
            | none => rw [hq] at hxi; simp at hxi
            | some p => rw [hq] at hxi; simp at hxi; exact ⟨p, rfl, hxi⟩
          subst hpn
          have hwn := HW.out.notes p.1 (List.mem_of_getElem? hn)
          have hok := HD.out.notes.2 p.1 (List.mem_of_getElem? hn)
          have HCN := Lib.hid (fun (W : World) (h : MV w d bx Ax k cx (some ⟨gx, 0, none⟩) nn bn (d.eras.map (movedE b)) xs' W) (j : Nat) (hj : j < 6) => (show W.cell? ⟨gx, i * 6 + j, none⟩ = (ntL p.1 p.2)[j]? by
            rw [h.on.cellAt (i * 6 + j) (by omega)]
            exact cellsN_at xs' i p j hp hj))
          have n0 : wr.cell? ⟨gx, i * 6, none⟩ = some (.int .i64 (p.1.kind : Int)) := HCN.out wr HS.out 0 (by omega)
          obtain ⟨Ay, cy, hpv⟩ := own_slice (HS.out.years p (List.mem_of_getElem? hp))
          -- the state ahead of the loop of years
          have hmid : ∃ w5 : World, True := ⟨wr, trivial⟩
          clear hmid
          have HP := Lib.hid hp
          have HPN := Lib.hid hn
          have HPV := Lib.hid hpv
          have HWN := Lib.hid hwn
          have HOK := Lib.hid hok
          clear hp hn hpv hwn hok hxi
          have hkey : ∀ (W : World) (p1 : Nt), p1.years = p.1.years → p1.kind = p.1.kind → p1.stone = p.1.stone → p1.other = p.1.other → True := fun _ _ _ _ _ _ => trivial
          clear hkey
          by_cases hk2 : p.1.kind = 2
          · have hbk : ((p.1.kind : Int) == 2) = true := by rw [hk2]; rfl
            have l1 := (HWN.out.1 (by omega)).1
            have l2 := (HWN.out.1 (by omega)).2
            have l3 := ((HOK.out.span (by omega)).2).2.1
            have q1 : IntKind.i64.wrap (p.1.lo + b) = p.1.lo + b := IntWalk.i64_in _ (by omega)
            have q2 : IntKind.i64.wrap (p.1.hi + b) = p.1.hi + b := IntWalk.i64_in _ (by omega)
            go_wp2_with fail
            refine wp_region_v [(fun j => j == 5 || j == 7 || j == 12 || j == 14 || j == 15 || j == 17, fun W => W.cell? ⟨gx, i * 6 + 4, none⟩ = some (.int .i64 p.1.lo) ∧ W.cell? ⟨gx, i * 6 + 5, none⟩ = some (.int .i64 p.1.hi))] (by kernel_rfl) ?_
            refine wpAnyV_world (fun W => MV w d bx Ax k cx (some ⟨gx, 0, none⟩) nn bn (d.eras.map (movedE b)) xs' W) HS.out.drew (fun V hV => ?_)
            have HV := Lib.hid hV
            clear hV
            refine wpAnyV_free (i := 0) (v := ?_) (by simp only [List.getElem?_toArray, List.getElem?_cons_zero]; rfl) (by kernel_rfl) (by kernel_rfl) (by kernel_rfl) (by kernel_rfl) (by exact fun _ _ _ h => h) (Or.inl ⟨by rfl, ?hyb2⟩) (behind_cons (fun h => by simp at h) (fun p hp => by cases hp)) ?restb2
            case hyb2 => (intro W' _; go_simp; try with_reducible rfl)
            try simp only [Act.put, List.setIfInBounds_toArray, List.set_cons_zero, List.set_cons_succ]
            refine wpAnyV_free (i := 1) (v := ?_) (by simp only [List.getElem?_toArray, List.getElem?_cons_zero, List.getElem?_cons_succ]; rfl) (by kernel_rfl) (by kernel_rfl) (by kernel_rfl) (by kernel_rfl) (by exact fun _ _ _ h => h) (Or.inl ⟨by rfl, ?hyb3⟩) (behind_cons (fun h => by simp at h) (fun p hp => by cases hp)) ?restb3
            case hyb3 => (intro W' _; go_simp; try with_reducible rfl)
            try simp only [Act.put, List.setIfInBounds_toArray, List.set_cons_zero, List.set_cons_succ]
            refine wpAnyV_free (i := 2) (v := ?_) (by simp only [List.getElem?_toArray, List.getElem?_cons_zero, List.getElem?_cons_succ]; rfl) (by kernel_rfl) (by kernel_rfl) (by kernel_rfl) (by kernel_rfl) (by exact fun _ _ _ h => h) (Or.inl ⟨by rfl, ?hyb4⟩) (behind_cons (fun h => by simp at h) (fun p hp => by cases hp)) ?restb4
            case hyb4 => (intro W' _; go_simp; try with_reducible rfl)
            try simp only [Act.put, List.setIfInBounds_toArray, List.set_cons_zero, List.set_cons_succ]
            refine wpAnyV_free (i := 3) (v := ?_) (by simp only [List.getElem?_toArray, List.getElem?_cons_zero, List.getElem?_cons_succ]; rfl) (by kernel_rfl) (by kernel_rfl) (by kernel_rfl) (by kernel_rfl) (by exact fun _ _ _ h => h) (Or.inl ⟨by rfl, ?hyb5⟩) (behind_cons (fun h => by simp at h) (fun p hp => by cases hp)) ?restb5
            case hyb5 => (intro W' _; go_simp; try with_reducible rfl)
            try simp only [Act.put, List.setIfInBounds_toArray, List.set_cons_zero, List.set_cons_succ]
            refine wpAnyV_free (i := 4) (v := ?_) (by simp only [List.getElem?_toArray, List.getElem?_cons_zero, List.getElem?_cons_succ]; rfl) (by kernel_rfl) (by kernel_rfl) (by kernel_rfl) (by kernel_rfl) (by exact fun _ _ _ h => h) (Or.inl ⟨by rfl, ?hyb6⟩) (behind_cons (fun h => by simp at h) (fun p hp => by cases hp)) ?restb6
            case hyb6 => (intro W' _; go_simp; try with_reducible rfl)
            try simp only [Act.put, List.setIfInBounds_toArray, List.set_cons_zero, List.set_cons_succ]
            refine wpAnyV_free (i := 6) (v := ?_) (by simp only [List.getElem?_toArray, List.getElem?_cons_zero, List.getElem?_cons_succ]; rfl) (by kernel_rfl) (by kernel_rfl) (by kernel_rfl) (by kernel_rfl) (by exact fun _ _ _ h => h) (Or.inl ⟨by rfl, ?hyb7⟩) (behind_cons (fun h => by simp at h) (fun p hp => by cases hp)) ?restb7
            case hyb7 => (intro W' _; go_simp; try with_reducible rfl)
            try simp only [Act.put, List.setIfInBounds_toArray, List.set_cons_zero, List.set_cons_succ]
            refine wpAnyV_free (i := 8) (v := ?_) (by simp only [List.getElem?_toArray, List.getElem?_cons_zero, List.getElem?_cons_succ]; rfl) (by kernel_rfl) (by kernel_rfl) (by kernel_rfl) (by kernel_rfl) (by exact fun _ _ _ h => h) (Or.inl ⟨by rfl, ?hyb8⟩) (behind_cons (fun h => by simp at h) (fun p hp => by cases hp)) ?restb8
            case hyb8 => (intro W' _; go_simp; try with_reducible rfl)
            try simp only [Act.put, List.setIfInBounds_toArray, List.set_cons_zero, List.set_cons_succ]
            refine wpAnyV_free (i := 9) (v := ?_) (by simp only [List.getElem?_toArray, List.getElem?_cons_zero, List.getElem?_cons_succ]; rfl) (by kernel_rfl) (by kernel_rfl) (by kernel_rfl) (by kernel_rfl) (by exact fun _ _ _ h => h) (Or.inl ⟨by rfl, ?hyb9⟩) (behind_cons (fun h => by simp at h) (fun p hp => by cases hp)) ?restb9
            case hyb9 => (intro W' _; go_simp; try with_reducible rfl)
            try simp only [Act.put, List.setIfInBounds_toArray, List.set_cons_zero, List.set_cons_succ]
            refine wpAnyV_free (i := 10) (v := ?_) (by simp only [List.getElem?_toArray, List.getElem?_cons_zero, List.getElem?_cons_succ]; rfl) (by kernel_rfl) (by kernel_rfl) (by kernel_rfl) (by kernel_rfl) (by exact fun _ _ _ h => h) (Or.inl ⟨by rfl, ?hyb10⟩) (behind_cons (fun h => by simp at h) (fun p hp => by cases hp)) ?restb10
            case hyb10 => (intro W' _; go_simp; try with_reducible rfl)
            try simp only [Act.put, List.setIfInBounds_toArray, List.set_cons_zero, List.set_cons_succ]
            refine wpAnyV_free (i := 11) (v := ?_) (by simp only [List.getElem?_toArray, List.getElem?_cons_zero, List.getElem?_cons_succ]; rfl) (by kernel_rfl) (by kernel_rfl) (by kernel_rfl) (by kernel_rfl) (by exact fun _ _ _ h => h) (Or.inl ⟨by rfl, ?hyb11⟩) (behind_cons (fun h => by simp at h) (fun p hp => by cases hp)) ?restb11
            case hyb11 => (intro W' _; go_simp; try with_reducible rfl)
            try simp only [Act.put, List.setIfInBounds_toArray, List.set_cons_zero, List.set_cons_succ]
            refine wpAnyV_free (i := 13) (v := ?_) (by simp only [List.getElem?_toArray, List.getElem?_cons_zero, List.getElem?_cons_succ]; rfl) (by kernel_rfl) (by kernel_rfl) (by kernel_rfl) (by kernel_rfl) (by exact fun _ _ _ h => h) (Or.inl ⟨by rfl, ?hyb12⟩) (behind_cons (fun h => by simp at h) (fun p hp => by cases hp)) ?restb12
            case hyb12 => (intro W' _; go_simp; try with_reducible rfl)
            try simp only [Act.put, List.setIfInBounds_toArray, List.set_cons_zero, List.set_cons_succ]
            refine wpAnyV_take (i := 5) (m := 0) (v := ?_) (by simp only [List.getElem?_toArray, List.getElem?_cons_zero, List.getElem?_cons_succ]; rfl) (by rfl) (by kernel_rfl) (by kernel_rfl) (by kernel_rfl) (by kernel_rfl) (by exact fun _ _ _ h => h) (Or.inl ⟨by rfl, ?hyb13⟩) ((And.intro (HCN.out _ HV.out 4 (by omega)) (HCN.out _ HV.out 5 (by omega)))) (behind_cons (fun _ => (And.intro (HCN.out _ HV.out 4 (by omega)) (HCN.out _ HV.out 5 (by omega)))) (fun p hp => by cases hp)) ?restb13
            case hyb13 => (intro W' hSW; go_simp; try with_reducible rfl)
            try simp only [Act.put, List.setIfInBounds_toArray, List.set_cons_zero, List.set_cons_succ]
            refine wpAnyV_free (i := 7) (v := ?_) (by simp only [List.getElem?_toArray, List.getElem?_cons_zero, List.getElem?_cons_succ]; rfl) (by kernel_rfl) (by kernel_rfl) (by kernel_rfl) (by kernel_rfl) (by exact fun _ _ _ h => h) (Or.inl ⟨by rfl, ?hyb14⟩) (behind_cons (fun _ => (And.intro (HCN.out _ HV.out 4 (by omega)) (HCN.out _ HV.out 5 (by omega)))) (fun p hp => by cases hp)) ?restb14
            case hyb14 => (intro W' _; go_simp; try with_reducible rfl)
            try simp only [Act.put, List.setIfInBounds_toArray, List.set_cons_zero, List.set_cons_succ]
            refine wpAnyV_take (i := 12) (m := 0) (v := ?_) (by simp only [List.getElem?_toArray, List.getElem?_cons_zero, List.getElem?_cons_succ]; rfl) (by rfl) (by kernel_rfl) (by kernel_rfl) (by kernel_rfl) (by kernel_rfl) (by exact fun _ _ _ h => h) (Or.inl ⟨by rfl, ?hyb15⟩) ((And.intro (HCN.out _ HV.out 4 (by omega)) (HCN.out _ HV.out 5 (by omega)))) (behind_cons (fun _ => (And.intro (HCN.out _ HV.out 4 (by omega)) (HCN.out _ HV.out 5 (by omega)))) (fun p hp => by cases hp)) ?restb15
            case hyb15 => (intro W' hSW; go_simp; try with_reducible rfl)
            try simp only [Act.put, List.setIfInBounds_toArray, List.set_cons_zero, List.set_cons_succ]
            refine wpAnyV_free (i := 14) (v := ?_) (by simp only [List.getElem?_toArray, List.getElem?_cons_zero, List.getElem?_cons_succ]; rfl) (by kernel_rfl) (by kernel_rfl) (by kernel_rfl) (by kernel_rfl) (by exact fun _ _ _ h => h) (Or.inl ⟨by rfl, ?hyb16⟩) (behind_cons (fun _ => (And.intro (HCN.out _ HV.out 4 (by omega)) (HCN.out _ HV.out 5 (by omega)))) (fun p hp => by cases hp)) ?restb16
            case hyb16 => (intro W' _; go_simp; try with_reducible rfl)
            try simp only [Act.put, List.setIfInBounds_toArray, List.set_cons_zero, List.set_cons_succ]
            refine wpAnyV_ready (rs := [15]) (by kernel_rfl) (by simp) ?_
            refine AllReadyV.cons (by simp only [List.getElem?_toArray, List.getElem?_cons_zero, List.getElem?_cons_succ]; rfl) (fun K hK => ?_) AllReadyV.nil
            go_simp
            go_at_call 23
            (with_reducible refine (to_any (p.1.lo + b) (p.1.hi + b) _).mono ?_)
            rintro e w502 ⟨rfl, hb⟩
            have HC502 := Lib.hid (HV.out.to hb)
            clear hb
            refine hK.out _ _ (behind_cons (fun _ => (And.intro (HCN.out _ HC502.out 4 (by omega)) (HCN.out _ HC502.out 5 (by omega)))) (fun p hp => by cases hp)) ?_
            clear hK K
            try simp only [Act.put, List.setIfInBounds_toArray, List.set_cons_zero, List.set_cons_succ]
            refine wpAnyV_free (i := 16) (v := ?_) (by simp only [List.getElem?_toArray, List.getElem?_cons_zero, List.getElem?_cons_succ]; rfl) (by kernel_rfl) (by kernel_rfl) (by kernel_rfl) (by kernel_rfl) (by exact fun _ _ _ h => h) (Or.inl ⟨by rfl, ?hyb18⟩) (behind_cons (fun h => by simp at h) (fun p hp => by cases hp)) ?restb18
            case hyb18 => (intro W' _; go_simp; try with_reducible rfl)
            try simp only [Act.put, List.setIfInBounds_toArray, List.set_cons_zero, List.set_cons_succ]
            refine wpAnyV_free (i := 17) (v := ?_) (by simp only [List.getElem?_toArray, List.getElem?_cons_zero, List.getElem?_cons_succ]; rfl) (by kernel_rfl) (by kernel_rfl) (by kernel_rfl) (by kernel_rfl) (by exact fun _ _ _ h => h) (Or.inl ⟨by rfl, ?hyb19⟩) (behind_cons (fun _ => (And.intro (HCN.out _ HC502.out 4 (by omega)) (HCN.out _ HC502.out 5 (by omega)))) (fun p hp => by cases hp)) ?restb19
            case hyb19 => (intro W' _; go_simp; try with_reducible rfl)
            try simp only [Act.put, List.setIfInBounds_toArray, List.set_cons_zero, List.set_cons_succ]
            refine wpAnyV_ready (rs := [18]) (by kernel_rfl) (by simp) ?_
            refine AllReadyV.cons (by simp only [List.getElem?_toArray, List.getElem?_cons_zero, List.getElem?_cons_succ]; rfl) (fun K hK => ?_) AllReadyV.nil
            have x0 : w502.cell? ⟨gx, i * 6 + 4, none⟩ = some (.int .i64 p.1.lo) := HCN.out _ HC502.out 4 (by omega)
            have x1 : w502.cell? ⟨gx, i * 6 + 5, none⟩ = some (.int .i64 p.1.hi) := HCN.out _ HC502.out 5 (by omega)
            have y0 := (HC502.out.on).frozenAt (i * 6 + 4)
            have y1 := (HC502.out.on).frozenAt (i * 6 + 5)
            go_simp
            clear x0 x1 y0 y1
            refine hK.out _ _ (behind_cons (fun h => by simp at h) (fun p hp => by cases hp)) ?_
            clear hK K
            try simp only [Act.put, List.setIfInBounds_toArray, List.set_cons_zero, List.set_cons_succ]
            refine wpAnyV_done (by kernel_rfl) ?_ _
            obtain ⟨w5, hw5⟩ : ∃ w5 : World, w5 = ((w502.setCell ⟨gx, i * 6 + 4, none⟩ (.int .i64 (p.1.lo + b))).setCell ⟨gx, i * 6 + 5, none⟩ (.int .i64 (p.1.hi + b))) := ⟨_, rfl⟩
            rw [← hw5]
            obtain ⟨pq, hpq⟩ : ∃ pq : Nt, pq = ⟨p.1.kind, p.1.stone, p.1.other, p.1.years, p.1.lo + b, p.1.hi + b⟩ := ⟨_, rfl⟩
            have HQ0 : Hid (Nt.moved b p.1 = ⟨pq.kind, pq.stone, pq.other, pq.years.map (· + b), pq.lo, pq.hi⟩) := Lib.hid (by rw [hpq]; unfold Nt.moved; rw [if_pos hk2, if_pos hk2])
            have HQY : Hid (pq.years = p.1.years) := Lib.hid (by rw [hpq])
            have HS5 : Hid (MV w d bx Ax k cx (some ⟨gx, 0, none⟩) nn bn (d.eras.map (movedE b)) (xs'.set i (pq, p.2)) w5) := Lib.hid (by rw [hpq, hw5]; exact HC502.out.lohi (a := p.1.lo + b) (b := p.1.hi + b) HP.out)
            clear hpq hw5 HCN hbk dx2 l1 l2 l3 q1 q2 HC502 HS
            have hl0 := congrArg List.length HQY.out
            obtain ⟨n3, hn3⟩ : ∃ n3, n3 = pq.years.length := ⟨_, rfl⟩
            have HN3 := Lib.hid hn3
            have hn33 : n3 ≤ 3 := by
              rw [hn3, hl0]
              by_cases h1 : p.1.kind = 1
              · exact (HOK.out.years h1).2.2.2.2.1
              · rw [(HOK.out.span h1).1]; simp
            have e3 : w5.cell? ⟨gx, i * 6 + 3, none⟩ = some (.slice Ay n3 cy) := by
              rw [HS5.out.on.cellAt (i * 6 + 3) (by omega), cellsN_at _ i (pq, p.2) 3 (List.getElem?_set_self (List.getElem?_eq_some_iff.1 HP.out).1) (by omega)]
              show some p.2 = _
              rw [HPV.out, hn3, hl0]
            clear hl0 hn3 e3 n0
            go_wp2_with fail
            go_loopg [9] n3 (fun r i9 wr => ∃ (k2 : Nat) (l : List Int), i9 = .int .i64 (k2 : Nat) ∧ k2 + r = n3 ∧ Mixed (· + b) pq.years k2 l ∧ MV w d bx Ax k cx (some ⟨gx, 0, none⟩) nn bn (d.eras.map (movedE b)) (xs'.set i (⟨pq.kind, pq.stone, pq.other, l, pq.lo, pq.hi⟩, p.2)) wr)
            case atStart => exact ⟨0, pq.years, rfl, by omega, Mixed.start _ _, HS5.out⟩
            case round =>
              clear HS5
              obtain ⟨k2, l, rfl, hkr2, hmx2, hs2⟩ := hrel
              have HS2 := Lib.hid hs2
              have HM2 := Lib.hid hmx2
              clear hs2 hmx2
              have hset : (xs'.set i ((⟨pq.kind, pq.stone, pq.other, l, pq.lo, pq.hi⟩ : Nt), p.2))[i]? = some ((⟨pq.kind, pq.stone, pq.other, l, pq.lo, pq.hi⟩ : Nt), p.2) := List.getElem?_set_self (List.getElem?_eq_some_iff.1 HP.out).1
              have hl0 := congrArg List.length HQY.out
              have hll := HM2.out.len
              have hn3 := HN3.out
              have hpv : p.2 = .slice Ay l.length cy := by rw [HPV.out, hll, hl0]
              have e3 : wr.cell? ⟨gx, i * 6 + 3, none⟩ = some (.slice Ay n3 cy) := by
                rw [HS2.out.on.cellAt (i * 6 + 3) (by omega), cellsN_at _ i _ 3 hset (by omega)]
                show some p.2 = _
                rw [hpv, hll, hn3]
              have ho2 : wr.ownsRow w.heap.size 3 1 (.slice Ay l.length cy) l.length (intCells l) := by
                have h := HS2.out.years _ (List.mem_of_getElem? hset)
                have h' : wr.ownsRow w.heap.size 3 1 p.2 l.length (intCells l) := h
                rw [hpv] at h'
                exact h'
              have HO2 := Lib.hid ho2
              have HSET := Lib.hid hset
              have HV2 := Lib.hid hpv
              have HL2 := Lib.hid hll
              clear ho2 hset hpv hl0 hll hn3
              by_cases hk2' : k2 < n3
              · obtain ⟨gy, rfl⟩ := own_addr HO2.out (by have := HL2.out; have := HN3.out; omega)
                obtain ⟨y, hy⟩ : ∃ y, pq.years[k2]? = some y := ⟨_, List.getElem?_eq_getElem (by have := HN3.out; omega)⟩
                have hly : l[k2]? = some y := by rw [HM2.out.rest k2 (Nat.le_refl _)]; exact hy
                have hyb := HWN.out.2 y (by rw [← HQY.out]; exact List.mem_of_getElem? hy)
                obtain ⟨hyb1, hyb2⟩ := hyb
                have c0 : wr.cell? ⟨gy, k2, none⟩ = some (.int .i64 y) := by
                  rw [HO2.out.cellAt k2 (by have := HL2.out; have := HN3.out; omega)]
                  simp [intCells, hly]
                have fr0 := HO2.out.frozenAt k2
                have q9 : IntKind.i64.wrap (y + b) = y + b := IntWalk.i64_in _ (by omega)
                have HYR := Lib.hid (HS2.out.year (k := k2) (y := y + b) HSET.out HV2.out)
                have HMY := Lib.hid (HM2.out.step hy)
                clear hy hly
                go_wp2_with fail
                go_still_tail 15, (by kernel_rfl)
                go_wp2_with fail
                go_roundg (gk - 1)
                case measure => omega
                case rel => exact ⟨k2 + 1, l.set k2 (y + b), by go_num, by omega, HMY.out, by
                  have h := HYR.out.drew
                  rw [List.set_set] at h
                  exact h⟩
              · obtain rfl : k2 = n3 := by omega
                have hall : l = pq.years.map (· + b) := Mixed.all (by rw [← HN3.out]; exact HM2.out)
                go_wp2_with fail
                go_roundg (ga - 1)
                case measure => omega
                case rel =>
                  refine ⟨i + 1, _, by go_num, by omega, ?_, ?_, HS2.out⟩
                  · rw [snd_set HP.out]
                    exact HSN.out
                  · rw [List.map_set]
                    have h := HM.out.step HPN.out
                    rw [HQ0.out, ← hall] at h
                    exact h
          · have hbk : ((p.1.kind : Int) == 2) = false := by rw [beq_eq_false_iff_ne]; omega
            obtain ⟨pq, hpq⟩ : ∃ pq : Nt, pq = p.1 := ⟨_, rfl⟩
            have HQ0 : Hid (Nt.moved b p.1 = ⟨pq.kind, pq.stone, pq.other, pq.years.map (· + b), pq.lo, pq.hi⟩) := Lib.hid (by rw [hpq]; unfold Nt.moved; rw [if_neg hk2, if_neg hk2])
            have HQY : Hid (pq.years = p.1.years) := Lib.hid (by rw [hpq])
            have hse : xs'.set i (pq, p.2) = xs' := by
              rw [hpq]
              exact set_same HP.out
            obtain ⟨w5, hw5⟩ : ∃ w5 : World, w5 = wr := ⟨_, rfl⟩
            have HS5 : Hid (MV w d bx Ax k cx (some ⟨gx, 0, none⟩) nn bn (d.eras.map (movedE b)) (xs'.set i (pq, p.2)) w5) := Lib.hid (by rw [hse, hw5]; exact HS.out)
            subst hw5
            clear hse hpq HCN
            go_upto_region 12 with fail
            clear hbk dx2
            have hl0 := congrArg List.length HQY.out
            obtain ⟨n3, hn3⟩ : ∃ n3, n3 = pq.years.length := ⟨_, rfl⟩
            have HN3 := Lib.hid hn3
            have hn33 : n3 ≤ 3 := by
              rw [hn3, hl0]
              by_cases h1 : p.1.kind = 1
              · exact (HOK.out.years h1).2.2.2.2.1
              · rw [(HOK.out.span h1).1]; simp
            have e3 : w5.cell? ⟨gx, i * 6 + 3, none⟩ = some (.slice Ay n3 cy) := by
              rw [HS5.out.on.cellAt (i * 6 + 3) (by omega), cellsN_at _ i (pq, p.2) 3 (List.getElem?_set_self (List.getElem?_eq_some_iff.1 HP.out).1) (by omega)]
              show some p.2 = _
              rw [HPV.out, hn3, hl0]
            clear hl0 hn3 e3 n0
            go_wp2_with fail
            go_loopg [9] n3 (fun r i9 wr => ∃ (k2 : Nat) (l : List Int), i9 = .int .i64 (k2 : Nat) ∧ k2 + r = n3 ∧ Mixed (· + b) pq.years k2 l ∧ MV w d bx Ax k cx (some ⟨gx, 0, none⟩) nn bn (d.eras.map (movedE b)) (xs'.set i (⟨pq.kind, pq.stone, pq.other, l, pq.lo, pq.hi⟩, p.2)) wr)
            case atStart => exact ⟨0, pq.years, rfl, by omega, Mixed.start _ _, HS5.out⟩
            case round =>
              clear HS5
              obtain ⟨k2, l, rfl, hkr2, hmx2, hs2⟩ := hrel
              have HS2 := Lib.hid hs2
              have HM2 := Lib.hid hmx2
              clear hs2 hmx2
              have hset : (xs'.set i ((⟨pq.kind, pq.stone, pq.other, l, pq.lo, pq.hi⟩ : Nt), p.2))[i]? = some ((⟨pq.kind, pq.stone, pq.other, l, pq.lo, pq.hi⟩ : Nt), p.2) := List.getElem?_set_self (List.getElem?_eq_some_iff.1 HP.out).1
              have hl0 := congrArg List.length HQY.out
              have hll := HM2.out.len
              have hn3 := HN3.out
              have hpv : p.2 = .slice Ay l.length cy := by rw [HPV.out, hll, hl0]
              have e3 : wr.cell? ⟨gx, i * 6 + 3, none⟩ = some (.slice Ay n3 cy) := by
                rw [HS2.out.on.cellAt (i * 6 + 3) (by omega), cellsN_at _ i _ 3 hset (by omega)]
                show some p.2 = _
                rw [hpv, hll, hn3]
              have ho2 : wr.ownsRow w.heap.size 3 1 (.slice Ay l.length cy) l.length (intCells l) := by
                have h := HS2.out.years _ (List.mem_of_getElem? hset)
                have h' : wr.ownsRow w.heap.size 3 1 p.2 l.length (intCells l) := h
                rw [hpv] at h'
                exact h'
              have HO2 := Lib.hid ho2
              have HSET := Lib.hid hset
              have HV2 := Lib.hid hpv
              have HL2 := Lib.hid hll
              clear ho2 hset hpv hl0 hll hn3
              by_cases hk2' : k2 < n3
              · obtain ⟨gy, rfl⟩ := own_addr HO2.out (by have := HL2.out; have := HN3.out; omega)
                obtain ⟨y, hy⟩ : ∃ y, pq.years[k2]? = some y := ⟨_, List.getElem?_eq_getElem (by have := HN3.out; omega)⟩
                have hly : l[k2]? = some y := by rw [HM2.out.rest k2 (Nat.le_refl _)]; exact hy
                have hyb := HWN.out.2 y (by rw [← HQY.out]; exact List.mem_of_getElem? hy)
                obtain ⟨hyb1, hyb2⟩ := hyb
                have c0 : wr.cell? ⟨gy, k2, none⟩ = some (.int .i64 y) := by
                  rw [HO2.out.cellAt k2 (by have := HL2.out; have := HN3.out; omega)]
                  simp [intCells, hly]
                have fr0 := HO2.out.frozenAt k2
                have q9 : IntKind.i64.wrap (y + b) = y + b := IntWalk.i64_in _ (by omega)
                have HYR := Lib.hid (HS2.out.year (k := k2) (y := y + b) HSET.out HV2.out)
                have HMY := Lib.hid (HM2.out.step hy)
                clear hy hly
                go_wp2_with fail
                go_still_tail 15, (by kernel_rfl)
                go_wp2_with fail
                go_roundg (gk - 1)
                case measure => omega
                case rel => exact ⟨k2 + 1, l.set k2 (y + b), by go_num, by omega, HMY.out, by
                  have h := HYR.out.drew
                  rw [List.set_set] at h
                  exact h⟩
              · obtain rfl : k2 = n3 := by omega
                have hall : l = pq.years.map (· + b) := Mixed.all (by rw [← HN3.out]; exact HM2.out)
                go_wp2_with fail
                go_roundg (ga - 1)
                case measure => omega
                case rel =>
                  refine ⟨i + 1, _, by go_num, by omega, ?_, ?_, HS2.out⟩
                  · rw [snd_set HP.out]
                    exact HSN.out
                  · rw [List.map_set]
                    have h := HM.out.step HPN.out
                    rw [HQ0.out, ← hall] at h
                    exact h
        · obtain rfl : i = nn := by omega
          have hall : xs'.map Prod.fst = d.notes.map (Nt.moved b) := Mixed.all (by rw [← HNN.out]; exact HM.out)
          have HAL := Lib.hid hall
          have e0 := HS.out.kx.cell 0
          have e1 := HS.out.kx.cell 1
          have e2 := HS.out.kx.cell 2
          simp at e0 e1 e2
          have r0 : wr.cell? ⟨w.heap.size + 1, 0, none⟩ = some (.int .i64 0) := HS.out.k1.cell 0
          have r1 : wr.cell? ⟨w.heap.size + 1, 1, none⟩ = some (.slice none 0 0) := HS.out.k1.cell 1
          have r2 : wr.cell? ⟨w.heap.size + 1, 2, none⟩ = some (.slice none 0 0) := HS.out.k1.cell 2
          have g0 := HS.out.k1.free 0
          have g1 := HS.out.k1.free 1
          have g2 := HS.out.k1.free 2
          clear hall
          go_wp2_with fail
          have hC := HS.out
          have hE3 : hC.oe = hC.oe := rfl
          refine bodyPost_ret (v := .agg #[.int .i64 d.stones, .slice Ax k cx, .slice Bn i bn]) ?_ rfl ⟨_, rfl, ⟨_, _, rfl, ?_, xs', HAL.out, ?_, fun p hp => ?_⟩, ((hC.below.setCell (p := ⟨w.heap.size + 1, 0, none⟩) (Nat.le_succ _) _).setCell (p := ⟨w.heap.size + 1, 1, none⟩) (Nat.le_succ _) _).setCell (p := ⟨w.heap.size + 1, 2, none⟩) (Nat.le_succ _) _⟩
          · exact results_cell_row Try.results26 _ _ (w.heap.size + 1) 28 _ (0, 0) _ rfl (((hC.k1.put 0 (.int .i64 d.stones)).put 1 (.slice Ax k cx)).put 2 (.slice Bn i bn)) Try.underlying28 rfl (by kernel_rfl)
          · have h := own_far (own_far (own_far hC.oe (p := ⟨w.heap.size + 1, 0, none⟩) (own_ne hC.oe hC.k1 (by decide)) (.int .i64 d.stones)) (p := ⟨w.heap.size + 1, 1, none⟩) (own_ne hC.oe hC.k1 (by decide)) (.slice Ax k cx)) (p := ⟨w.heap.size + 1, 2, none⟩) (own_ne hC.oe hC.k1 (by decide)) (.slice Bn i bn)
            unfold SpansO
            show World.ownsRow _ w.heap.size 39 2 (.slice Ax k cx) (d.eras.map (movedE b)).length (flatS (d.eras.map (movedE b)))
            rw [List.length_map, ← HNE.out]
            exact h
          · have h := own_far (own_far (own_far hC.on (p := ⟨w.heap.size + 1, 0, none⟩) (own_ne hC.on hC.k1 (by decide)) (.int .i64 d.stones)) (p := ⟨w.heap.size + 1, 1, none⟩) (own_ne hC.on hC.k1 (by decide)) (.slice Ax k cx)) (p := ⟨w.heap.size + 1, 2, none⟩) (own_ne hC.on hC.k1 (by decide)) (.slice Bn i bn)
            show World.ownsRow _ w.heap.size 51 6 (.slice Bn i bn) (d.notes.map (Nt.moved b)).length (cellsN xs')
            rw [List.length_map, ← HNN.out]
            exact h
          · have hy := hC.years p hp
            exact own_far (own_far (own_far hy (own_ne hy hC.k1 (by decide)) _) (own_ne hy hC.k1 (by decide)) _) (own_ne hy hC.k1 (by decide)) _
end Go.Proofs.Ytcbdcdpoackplaa
