/- append of all of a slice, which may be nil or empty, onto a row of the call's own. · CopyLine: a line with lists of its own. -/
import Derived.Test.YthhajbgddifenaaLp
import Derived.Deep.AppendLies
import Derived.Laws.OwnMore
import Derived.Deep.RegionLaw
namespace Go.Proofs.Ythhajbgddifenaa
section
open Go.RowKit Go.Shelf

/-- A slice of m elements whose cells are these: nil, or at an address. -/
def Src (w : World) (v : Value) (m : Nat) (news : List Value) : Prop :=
  (v = .slice none 0 0 ∧ m = 0 ∧ news = []) ∨ ∃ ad c, v = .slice (some ad) m c ∧ ∀ j u, news[j]? = some u → w.cell? (ad.add j) = some u
theorem run_append_src {P : Program} (w : World) (t ty : TypeId) (base : Nat) (e : TypeId) (i : TypeInfo) (z : Value) (size bytes : Nat) (ht : P.underlying t = some (.slice e)) (hi : P.info? e = some i) (hz : i.zero = some z)
    (hsize : i.size = size) (hby : i.bytes = bytes) (hzs : z.cells.size = size) (hsz : 0 < size)
    (v : Value) (n : Nat) (xs : List Value) (hown : w.ownsRow base e size v n xs) (src : Value) (m : Nat) (news : List Value) (hsrc : Src w src m news) (hl : news.length = m * size) (h1 : ∀ u ∈ news, u.oneCell' = true)
    (h63 : n + m ≤ maxLen) (hbytes : (n + m) * bytes ≤ 140737488355328) (hbase : base ≤ w.heap.size) :
    ∃ A cap w', (Builtin.append_ #[t, t] ty #[v, src]).run P w = .ok (.slice A (n + m) cap) w' ∧ w'.ownsRow base e size (.slice A (n + m) cap) (n + m) (xs ++ news) ∧ w.grownBy w' v.ownBlock ∧
      ((Value.slice A (n + m) cap).ownBlock = v.ownBlock ∨ (Value.slice A (n + m) cap).ownBlock = some w.heap.size) := by
  rcases hsrc with ⟨rfl, rfl, rfl⟩ | ⟨ad, c, rfl, hc⟩
  · obtain ⟨A, c, rfl⟩ := own_slice hown
    have hrun := run_append_owned_none (P := P) (w := w) base t ty e i size ht hi _ n xs hown
    exact ⟨A, c, w, by simpa using hrun, by simpa using hown, ⟨rfl, rfl, rfl, Nat.le_refl _, fun _ _ _ => rfl⟩, .inl rfl⟩
  · obtain ⟨v', w', hr, h2, h3, _, h5⟩ := run_append_own_at (P := P) w base t ty e i z size bytes ht hi hz hsize hby hzs hsz v n xs hown ad m c news hl hc h1 h63 hbytes hbase
    obtain ⟨A, cap, rfl⟩ := own_slice h2
    exact ⟨A, cap, w', hr, h2, h3, h5⟩
section
variable {P : Program} {w : World} {ops : Array Oper} {o : Oper} {a : Act} {K : Act → World → Prop} {Q : Exit → Act → World → Prop}
theorem wp_append_src (s x : Operand) (t : TypeId)
    (ho : o.op = .call { callee := .builtin .append, args := #[s, x], argTypes := #[t, t] })
    (base : Nat) (e : TypeId) (i : TypeInfo) (z : Value) (size bytes : Nat) (ht : P.underlying t = some (.slice e)) (hi : P.info? e = some i) (hz : i.zero = some z)
    (hsize : i.size = size) (hby : i.bytes = bytes) (hzs : z.cells.size = size) (hsz : 0 < size)
    (v : Value) (n : Nat) (xs : List Value) (hs : a.eval s = v) (hown : w.ownsRow base e size v n xs)
    (src : Value) (m : Nat) (news : List Value) (hx : a.eval x = src) (hsrc : Src w src m news) (hl : news.length = m * size) (h1 : ∀ u ∈ news, u.oneCell' = true)
    (h63 : n + m ≤ maxLen) (hbytes : (n + m) * bytes ≤ 140737488355328) (hbase : base ≤ w.heap.size) (H : Nat) (hH : w.heap.size = H)
    (h : ∀ A cap w', w'.ownsRow base e size (.slice A (n + m) cap) (n + m) (xs ++ news) → w.grownBy w' v.ownBlock → ((Value.slice A (n + m) cap).ownBlock = v.ownBlock ∨ (Value.slice A (n + m) cap).ownBlock = some H) → K (a.put o.dst (.slice A (n + m) cap)) w') : o.wp P a w K Q := by
  obtain ⟨A, cap, w', hr, h2, h3, h4⟩ := run_append_src (P := P) w t o.type base e i z size bytes ht hi hz hsize hby hzs hsz v n xs hown src m news hsrc hl h1 h63 hbytes hbase
  unfold Oper.wp execOp
  simp only [ho, resolve, invoke, builtin, Sem.run_bind, Sem.run_pure, Result.andThen_ok, List.map_toArray, List.map_cons, List.map_nil, hs, hx, hr]
  exact h A cap w' h2 h3 (by rw [← hH]; exact h4)
theorem wpList_append_src {rest : List Oper} (hgd : o.guard = none) (s x : Operand) (t : TypeId)
    (ho : o.op = .call { callee := .builtin .append, args := #[s, x], argTypes := #[t, t] })
    (base : Nat) (e : TypeId) (i : TypeInfo) (z : Value) (size bytes : Nat) (ht : P.underlying t = some (.slice e)) (hi : P.info? e = some i) (hz : i.zero = some z)
    (hsize : i.size = size) (hby : i.bytes = bytes) (hzs : z.cells.size = size) (hsz : 0 < size)
    (v : Value) (n : Nat) (xs : List Value) (hs : a.eval s = v) (hown : w.ownsRow base e size v n xs)
    (src : Value) (m : Nat) (news : List Value) (hx : a.eval x = src) (hsrc : Src w src m news) (hl : news.length = m * size) (h1 : ∀ u ∈ news, u.oneCell' = true)
    (h63 : n + m ≤ maxLen) (hbytes : (n + m) * bytes ≤ 140737488355328) (hbase : base ≤ w.heap.size) (H : Nat) (hH : w.heap.size = H)
    (h : ∀ A cap w', w'.ownsRow base e size (.slice A (n + m) cap) (n + m) (xs ++ news) → w.grownBy w' v.ownBlock → ((Value.slice A (n + m) cap).ownBlock = v.ownBlock ∨ (Value.slice A (n + m) cap).ownBlock = some H) → wpList P ops Q rest (a.put o.dst (.slice A (n + m) cap)) w') : wpList P ops Q (o :: rest) a w :=
  wpList_plain hgd fun _ hK => wp_append_src s x t ho base e i z size bytes ht hi hz hsize hby hzs hsz v n xs hs hown src m news hx hsrc hl h1 h63 hbytes hbase H hH fun A cap w' h2 h3 h4 => hK _ _ (h A cap w' h2 h3 h4)
theorem step_append_src {E : Prop} (hgd : o.guard = none) (s x : Operand) (t : TypeId)
    (ho : o.op = .call { callee := .builtin .append, args := #[s, x], argTypes := #[t, t] })
    (base : Nat) (e : TypeId) (i : TypeInfo) (z : Value) (size bytes : Nat) (ht : P.underlying t = some (.slice e)) (hi : P.info? e = some i) (hz : i.zero = some z)
    (hsize : i.size = size) (hby : i.bytes = bytes) (hzs : z.cells.size = size) (hsz : 0 < size)
    (v : Value) (n : Nat) (xs : List Value) (hs : a.eval s = v) (hown : w.ownsRow base e size v n xs)
    (src : Value) (m : Nat) (news : List Value) (hx : a.eval x = src) (hsrc : Src w src m news) (hl : news.length = m * size) (h1 : ∀ u ∈ news, u.oneCell' = true)
    (h63 : n + m ≤ maxLen) (hbytes : (n + m) * bytes ≤ 140737488355328) (hbase : base ≤ w.heap.size) (H : Nat) (hH : w.heap.size = H)
    (h : ∀ A cap w', w'.ownsRow base e size (.slice A (n + m) cap) (n + m) (xs ++ news) → w.grownBy w' v.ownBlock → ((Value.slice A (n + m) cap).ownBlock = v.ownBlock ∨ (Value.slice A (n + m) cap).ownBlock = some H) → K (a.put o.dst (.slice A (n + m) cap)) w') :
    if Region.wanted o (yielded ops a.tmps) = true then Oper.wp P o a w K Q else E := by
  have hw : Region.wanted o (yielded ops a.tmps) = true := by simp [Region.wanted, hgd]
  rw [if_pos hw]
  exact wp_append_src s x t ho base e i z size bytes ht hi hz hsize hby hzs hsz v n xs hs hown src m news hx hsrc hl h1 h63 hbytes hbase H hH h
end
theorem addr_add (b o j : Nat) : (⟨b, o, none⟩ : Addr).add j = ⟨b, o + j, none⟩ := by unfold Addr.add; split <;> simp_all
theorem shapesR_cell {w : World} {S : List Shape} {b o : Nat} (h : shapesR w S b o) (j : Nat) (u : Value) (hj : (shCells S)[j]? = some u) : w.cell? ⟨b, o + j, none⟩ = some u := by
  have hlen : j < S.length * 2 := by have := (List.getElem?_eq_some_iff.1 hj).1; rwa [shCells_len] at this
  have hk : j / 2 < S.length := by omega
  obtain ⟨g1, g2⟩ := shCells_get S (j / 2) S[j / 2] (List.getElem?_eq_getElem hk)
  obtain ⟨c1, c2⟩ := h (j / 2) S[j / 2] (List.getElem?_eq_getElem hk)
  rcases Nat.mod_two_eq_zero_or_one j with e | e
  · rw [show j / 2 * 2 = j by omega] at g1 c1
    rw [hj] at g1
    injection g1 with g1
    rw [g1]
    exact c1
  · rw [show j / 2 * 2 + 1 = j by omega] at g2
    rw [hj] at g2
    injection g2 with g2
    rw [g2, show o + j = o + j / 2 * 2 + 1 by omega]
    exact c2
theorem Src.shapes {w w' : World} {b o c : Nat} {S : List Shape} (h : shapesR w S b o) (hk : ∀ i, w'.cell? ⟨b, i, none⟩ = w.cell? ⟨b, i, none⟩) : Src w' (.slice (some ⟨b, o, none⟩) S.length c) S.length (shCells S) :=
  .inr ⟨_, _, rfl, fun j u hj => by rw [addr_add, hk]; exact shapesR_cell h j u hj⟩
theorem shCells_one (S : List Shape) : ∀ u ∈ shCells S, u.oneCell' = true := by
  intro u hu
  obtain ⟨x, _, hx⟩ := List.mem_flatMap.1 hu
  simp at hx
  rcases hx with rfl | rfl <;> rfl
theorem ltCells_one (q : List Light) : ∀ u ∈ ltCells q, u.oneCell' = true := by
  intro u hu
  obtain ⟨x, _, hx⟩ := List.mem_flatMap.1 hu
  simp at hx
  rcases hx with rfl | rfl <;> rfl
theorem ltCells_len (q : List Light) : (ltCells q).length = q.length * 2 := by
  induction q with
  | nil => rfl
  | cons a q ih => simp only [ltCells, List.flatMap_cons, List.length_append, List.length_cons, List.length_nil] at ih ⊢; omega
theorem LightsB.src {w w' : World} {v : Value} {q : List Light} (h : LightsB w v q) (hk : ∀ b i, b < w.heap.size → w'.cell? ⟨b, i, none⟩ = w.cell? ⟨b, i, none⟩) : Src w' v q.length (ltCells q) := by
  rcases h with ⟨rfl, rfl⟩ | ⟨b, c, cur, rfl, hb, ht⟩
  · exact .inl ⟨rfl, rfl, rfl⟩
  · refine .inr ⟨_, _, rfl, fun j u hj => ?_⟩
    have hlt := (List.getElem?_eq_some_iff.1 hj).1
    rw [ltCells_len] at hlt
    rw [← ht, List.getElem?_take, if_pos hlt] at hj
    rw [addr_add, hk _ _ hb.size, hb.cell, Nat.zero_add, hj]
end
section
open Go.RowKit Go.Shelf

def lineC5 (vh : Value) (L : Line) (vs : Value) : List Value := [vh, .int .i64 L.worn, .int .i64 L.scr, .int .i64 L.total, vs]
/-- The hands so far. -/
def CpH (w : World) (L : Line) (k : Nat) (wr : World) : Prop :=
  ∃ (svs : List Value) (vh' : Value), Blok wr w.heap.size 25 (lineC5 vh' L (.slice none 0 0)) ∧ Blok wr (w.heap.size + 1) 25 zeroLine ∧
    wr.ownsRow (w.heap.size + 2) 68 3 vh' k (hdCells (L.hands.take k) svs) ∧ HdShapes wr (L.hands.take k) svs ∧ Below w.heap.size w wr
theorem hands_of_B {w w' : World} {bh n ch : Nat} {S : List Hand} (h : HandsB w (.slice (some ⟨bh, 0, none⟩) n ch) S) (hb : Below w.heap.size w w') (k : Nat) (hk : k < S.length) :
    ∃ bs cs, w'.cell? ⟨bh, k * 3, none⟩ = some (.int .i64 S[k].low) ∧ w'.cell? ⟨bh, k * 3 + 1, none⟩ = some (.int .i64 S[k].high) ∧ w'.cell? ⟨bh, k * 3 + 2, none⟩ = some (.slice (some ⟨bs, 0, none⟩) S[k].shapes.length cs) ∧ bs < w.heap.size ∧ shapesR w S[k].shapes bs 0 := by
  obtain ⟨b', c', e, hat⟩ := h.at_
  injection e with e1 e2 e3
  injection e1 with e1
  injection e1 with e1
  subst e1
  obtain ⟨sv, hsv, h1, h2, h3⟩ := hat k S[k] (List.getElem?_eq_getElem hk)
  have hl := World.block_lt_of_cell? w _ h1
  obtain ⟨b, c, cur, rfl, hbl, ht⟩ := hsv
  refine ⟨b, c, bcell hb hl h1, bcell hb hl h2, bcell hb hl h3, hbl.size, fun j x hx => ?_⟩
  have hj := (List.getElem?_eq_some_iff.1 hx).1
  obtain ⟨g1, g2⟩ := shCells_get _ j x hx
  rw [← ht] at g1 g2
  rw [List.getElem?_take, if_pos (by omega)] at g1 g2
  rw [Nat.zero_add, hbl.cell, hbl.cell]
  exact ⟨g1, g2⟩
theorem HandsB.lt' {w : World} {bh n ch : Nat} {S : List Hand} (h : HandsB w (.slice (some ⟨bh, 0, none⟩) n ch) S) : bh < w.heap.size := by
  obtain ⟨b, c, cur, svs, e, hbl, -⟩ := h
  injection e with e1 e2 e3
  injection e1 with e1
  injection e1 with e1
  subst e1
  exact hbl.size
theorem own_lit0 (w : World) (o : Obj) (e : TypeId) (size : Nat) : ((w.alloc o).alloc (.cells #[] e)).ownsRow (w.heap.size + 1) e size (.slice (some ⟨w.heap.size + 1, 0, none⟩) 0 0) 0 [] := by
  have h := World.ownsRow_lit (base := w.heap.size + 1) (e := e) (size := size) (w.alloc o) #[] 0 (by simp) (by unfold maxLen; omega) (by simp)
  rw [World.size_alloc] at h
  exact h
theorem setCell_size (w : World) (p : Addr) (u : Value) : (w.setCell p u).heap.size = w.heap.size := by simp [World.setCell]
theorem setCell_le {w : World} {p : Addr} {u : Value} {n : Nat} (h : n ≤ w.heap.size) : n ≤ (w.setCell p u).heap.size := by rw [setCell_size]; exact h
theorem own_lit1 (w : World) (e : TypeId) (size : Nat) : (w.alloc (.cells #[] e)).ownsRow w.heap.size e size (.slice (some ⟨w.heap.size, 0, none⟩) 0 0) 0 [] :=
  World.ownsRow_lit (base := w.heap.size) (e := e) (size := size) w #[] 0 (Nat.le_refl _) (by unfold maxLen; omega) (by simp)
theorem info_cplight : (Try.prog.info? 27).map (fun i => (i.zero, i.size, i.bytes)) = some (some (.agg #[.int .i64 0, .int .i64 0]), 2, 16) := by kernel_rfl
theorem info_cplights : (Try.prog.info? 39).map (fun i => (i.zero, i.size, i.bytes)) = some (some (.slice none 0 0), 1, 24) := by kernel_rfl
theorem squares_of_B {w w' : World} {bq n c : Nat} {S : List (List Light)} (h : SquaresB w (.slice (some ⟨bq, 0, none⟩) n c) S) (hb : Below w.heap.size w w') (k : Nat) (hk : k < S.length) :
    ∃ A1 c1, w'.cell? ⟨bq, k, none⟩ = some (.slice A1 S[k].length c1) ∧ bq < w.heap.size ∧ LightsB w (.slice A1 S[k].length c1) S[k] := by
  obtain ⟨b', c', e, hl, hat⟩ := h.at_
  injection e with e1 e2 e3
  injection e1 with e1
  injection e1 with e1
  subst e1
  obtain ⟨lv, h1, h2⟩ := hat k S[k] (List.getElem?_eq_getElem hk)
  have h3 : ∃ A1 c1, lv = .slice A1 S[k].length c1 := by
    rcases h1 with ⟨rfl, h0⟩ | ⟨b, c, cur, rfl, _⟩
    · exact ⟨none, 0, by rw [h0]; rfl⟩
    · exact ⟨_, _, rfl⟩
  obtain ⟨A1, c1, rfl⟩ := h3
  exact ⟨A1, c1, bcell hb hl h2, hl, h1⟩
/-- One hand more. -/
theorem CpH.step {w wr w5 w8 : World} {L : Line} {k : Nat} {svs : List Value} {v0 : Value} {A A8 : Option Addr} {c c8 : Nat} {bhc : List Value} (hk : k < L.hands.length)
    (b1 : Blok wr w.heap.size 25 (lineC5 v0 L (.slice none 0 0))) (b2 : Blok wr (w.heap.size + 1) 25 zeroLine) (ho : wr.ownsRow (w.heap.size + 2) 68 3 v0 k (hdCells (L.hands.take k) svs)) (hsh : HdShapes wr (L.hands.take k) svs) (hb : Below w.heap.size w wr)
    (hz : w.heap.size + 1 < wr.heap.size) (hb5 : Below wr.heap.size wr w5) (hbox : Blok w5 wr.heap.size 68 bhc) (u : Value) (o : Obj)
    (own5 : w5.ownsRow (wr.heap.size + 1) 86 2 (.slice A (L.hands[k]).shapes.length c) (L.hands[k]).shapes.length (shCells (L.hands[k]).shapes)) (hpos : 0 < (L.hands[k]).shapes.length)
    (hg8 : ((w5.setCell ⟨wr.heap.size, 2, none⟩ u).alloc o).grownBy w8 v0.ownBlock)
    (own8 : w8.ownsRow (w.heap.size + 2) 68 3 (.slice A8 (k + 1) c8) (k + 1) (hdCells (L.hands.take k) svs ++ [.int .i64 (L.hands[k]).low, .int .i64 (L.hands[k]).high, .slice A (L.hands[k]).shapes.length c])) :
    CpH w L (k + 1) (w8.setCell ⟨w.heap.size, 0, none⟩ (.slice A8 (k + 1) c8)) := by
  have hb7 : Below wr.heap.size wr ((w5.setCell ⟨wr.heap.size, 2, none⟩ u).alloc o) := (hb5.setCell (p := ⟨wr.heap.size, 2, none⟩) (Nat.le_refl _) u).alloc (setCell_le hb5.size) o
  have hl := hb7.size
  have B17 := b1.below hb7 (by omega)
  have B27 := b2.below hb7 (by omega)
  have ho7 := own_below ho hb7 (Nat.le_refl _)
  have hsh7 : HdShapes ((w5.setCell ⟨wr.heap.size, 2, none⟩ u).alloc o) (L.hands.take k) svs := hsh.below hb7
  have hS5 : ShapesB w5 (.slice A (L.hands[k]).shapes.length c) (L.hands[k]).shapes := ShapesB.of_own own5 rfl hpos
  have hS7 : ShapesB ((w5.setCell ⟨wr.heap.size, 2, none⟩ u).alloc o) (.slice A (L.hands[k]).shapes.length c) (L.hands[k]).shapes := (hS5.far (p := ⟨wr.heap.size, 2, none⟩) hbox (by decide) u).below ((Below.refl _ _).alloc (Nat.le_refl _) o)
  have hne : ∀ (b : Nat) (cs : List Value), Blok ((w5.setCell ⟨wr.heap.size, 2, none⟩ u).alloc o) b 86 cs → v0.ownBlock ≠ some b := fun b cs h => own_ne_row ho7 h (by decide)
  have B18 := B17.grown hg8 (own_ne_row ho7 B17 (by decide))
  have B28 := B27.grown hg8 (own_ne_row ho7 B27 (by decide))
  have hsn : HdShapes ((w5.setCell ⟨wr.heap.size, 2, none⟩ u).alloc o) (L.hands.take k ++ [L.hands[k]]) (svs ++ [.slice A (L.hands[k]).shapes.length c]) := hsh7.snoc hS7
  have hs8 : HdShapes w8 (L.hands.take k ++ [L.hands[k]]) (svs ++ [.slice A (L.hands[k]).shapes.length c]) := ⟨hsn.1, fun j a b g1 g2 => (hsn.2 j a b g1 g2).grown hg8 hne⟩
  have htk : L.hands.take (k + 1) = L.hands.take k ++ [L.hands[k]] := List.take_succ_eq_append_getElem hk
  refine ⟨svs ++ [.slice A (L.hands[k]).shapes.length c], .slice A8 (k + 1) c8, B18.put 0 _, B28.far (by simp) _, ?_, ?_, ?_⟩
  · have := own_far own8 (p := ⟨w.heap.size, 0, none⟩) (own_ne_row own8 B18 (by decide)) (.slice A8 (k + 1) c8)
    rw [htk, hdCells_snoc _ _ _ _ hsh.1]
    exact this
  · rw [htk]
    exact ⟨hs8.1, fun j a b g1 g2 => (hs8.2 j a b g1 g2).far (p := ⟨w.heap.size, 0, none⟩) B18 (by decide) _⟩
  · exact ((hb.trans (hb7.mono (by omega))).grown hg8 (by omega) fun j e => by have := (ho.lt j e).1; omega).setCell (p := ⟨w.heap.size, 0, none⟩) (Nat.le_refl _) _

theorem own_blok {w : World} {base size n g : Nat} {e : TypeId} {v : Value} {xs : List Value} (h : w.ownsRow base e size v n xs) (hv : v.ownBlock = some g) : ∃ cs, Blok w g e cs := by
  rcases h.2 with ⟨rfl, _⟩ | ⟨g', cap, cur, rfl, _, hg, _⟩
  · cases hv
  · obtain rfl : g' = g := by simpa [Value.ownBlock] using hv
    exact ⟨cur.toList, by unfold Blok; rw [hg]⟩
theorem own_own_ne {w : World} {base base' size size' n n' : Nat} {e e' : TypeId} {v v' : Value} {xs xs' : List Value} (h : w.ownsRow base e size v n xs) (h' : w.ownsRow base' e' size' v' n' xs') (hne : e ≠ e') : v.ownBlock = none ∨ v.ownBlock ≠ v'.ownBlock := by
  cases hv : v.ownBlock with
  | none => exact .inl rfl
  | some g =>
    obtain ⟨cs, hb⟩ := own_blok h hv
    exact .inr fun e2 => own_ne_row h' hb (fun e3 => hne e3.symm) e2.symm
/-- The lights of each square in a row of their own, from block B on, no two in one. -/
def SqOwn (B : Nat) (w : World) (qs : List (List Light)) (lvs : List Value) : Prop :=
  lvs.length = qs.length ∧ (∀ (k : Nat) (q : List Light) (v : Value), qs[k]? = some q → lvs[k]? = some v → w.ownsRow B 27 2 v q.length (ltCells q)) ∧ lvs.Pairwise fun a b => ∀ g, a.ownBlock = some g → b.ownBlock ≠ some g
theorem SqOwn.lights {B : Nat} {w : World} {qs : List (List Light)} {lvs : List Value} (h : SqOwn B w qs lvs) : SqLights w qs lvs := ⟨h.1, fun k q v h1 h2 => LightsB.of_own (h.2.1 k q v h1 h2)⟩
/-- The squares so far. -/
def CpQ (w : World) (L : Line) (gh ch k : Nat) (wr : World) : Prop :=
  ∃ (lvs : List Value) (vq : Value), Blok wr w.heap.size 25 (lineC5 (.slice (some ⟨gh, 0, none⟩) L.hands.length ch) L vq) ∧ Blok wr (w.heap.size + 1) 25 zeroLine ∧ HandsB wr (.slice (some ⟨gh, 0, none⟩) L.hands.length ch) L.hands ∧
    wr.ownsRow (w.heap.size + 2) 39 1 vq k lvs ∧ SqOwn (w.heap.size + 2) wr (L.squares.take k) lvs ∧ Below w.heap.size w wr
theorem CpQ.step {w wr w5 w7 w8 : World} {L : Line} {gh ch k : Nat} {lvs : List Value} {vq : Value} {A A8 : Option Addr} {c c8 : Nat} (hk : k < L.squares.length)
    (b1 : Blok wr w.heap.size 25 (lineC5 (.slice (some ⟨gh, 0, none⟩) L.hands.length ch) L vq)) (b2 : Blok wr (w.heap.size + 1) 25 zeroLine) (hh : HandsB wr (.slice (some ⟨gh, 0, none⟩) L.hands.length ch) L.hands)
    (ho : wr.ownsRow (w.heap.size + 2) 39 1 vq k lvs) (hsq : SqOwn (w.heap.size + 2) wr (L.squares.take k) lvs) (hb : Below w.heap.size w wr)
    (hz : w.heap.size + 1 < wr.heap.size) (hb5 : Below wr.heap.size wr w5)
    (own5 : w5.ownsRow wr.heap.size 27 2 (.slice A (L.squares[k]).length c) (L.squares[k]).length (ltCells L.squares[k])) (hb7 : Below w5.heap.size w5 w7)
    (hg8 : w7.grownBy w8 vq.ownBlock)
    (own8 : w8.ownsRow (w.heap.size + 2) 39 1 (.slice A8 (k + 1) c8) (k + 1) (lvs ++ [.slice A (L.squares[k]).length c])) :
    CpQ w L gh ch (k + 1) (w8.setCell ⟨w.heap.size, 4, none⟩ (.slice A8 (k + 1) c8)) := by
  have hb57 := hb5.size
  have hbr7 : Below wr.heap.size wr w7 := hb5.trans (hb7.mono hb57)
  have hl := hbr7.size
  have B17 := b1.below hbr7 (by omega)
  have B27 := b2.below hbr7 (by omega)
  have ho7 := own_below ho hbr7 (Nat.le_refl _)
  have B18 := B17.grown hg8 (own_ne_row ho7 B17 (by decide))
  have B28 := B27.grown hg8 (own_ne_row ho7 B27 (by decide))
  have hh8 := (hh.below hbr7).grown hg8 fun b t cs h ht => own_ne_row ho7 h (by rintro rfl; rcases ht with ht | ht <;> exact absurd ht (by decide))
  have own7 := own_below own5 hb7 (Nat.le_refl _)
  have htk : L.squares.take (k + 1) = L.squares.take k ++ [L.squares[k]] := List.take_succ_eq_append_getElem hk
  have keep : ∀ {v : Value} {n base : Nat} {xs : List Value}, w7.ownsRow base 27 2 v n xs → (w8.setCell ⟨w.heap.size, 4, none⟩ (.slice A8 (k + 1) c8)).ownsRow base 27 2 v n xs := fun h =>
    have h8 := h.kept hg8 (own_own_ne h ho7 (by decide))
    own_far h8 (own_ne_row h8 B18 (by decide)) _
  refine ⟨lvs ++ [.slice A (L.squares[k]).length c], .slice A8 (k + 1) c8, B18.put 4 _, B28.far (by simp) _, hh8.far (p := ⟨w.heap.size, 4, none⟩) B18 (by decide) (by decide) _, own_far own8 (own_ne_row own8 B18 (by decide)) _, ⟨by rw [List.length_append, hsq.1]; simp; omega, ?_, ?_⟩, ?_⟩
  · intro j q v h1 h2
    rw [htk] at h1
    by_cases hj : j < (L.squares.take k).length
    · rw [List.getElem?_append_left hj] at h1
      rw [List.getElem?_append_left (by rw [hsq.1]; exact hj)] at h2
      exact keep (own_below (hsq.2.1 j q v h1 h2) hbr7 (Nat.le_refl _))
    · have hj' : j = (L.squares.take k).length := by
        have := (List.getElem?_eq_some_iff.1 h1).1
        simp at this
        simp at hj ⊢
        omega
      subst hj'
      have e1 : L.squares[k] = q := by
        rw [List.getElem?_append_right (Nat.le_refl _), Nat.sub_self] at h1
        injection h1
      rw [← hsq.1] at h2
      have e2 : (Value.slice A (L.squares[k]).length c) = v := by simpa using h2
      subst e1 e2
      exact keep (own_mono own7 (by omega))
  · rw [List.pairwise_append]
    refine ⟨hsq.2.2, by simp, fun a ha b hb' g hg hg' => ?_⟩
    obtain rfl : b = .slice A (L.squares[k]).length c := by simpa using hb'
    obtain ⟨j, hj⟩ := List.mem_iff_getElem?.1 ha
    have hjl := (List.getElem?_eq_some_iff.1 hj).1
    rw [hsq.1] at hjl
    have h1 := (hsq.2.1 j _ a (List.getElem?_eq_getElem hjl) hj).lt g hg
    have h2 := own5.lt g hg'
    omega
  · exact ((hb.trans (hbr7.mono (by omega))).grown hg8 (by omega) fun j e => by have := (ho.lt j e).1; omega).setCell (p := ⟨w.heap.size, 4, none⟩) (Nat.le_refl _) _

/-- A line's cells in the block r are stored, one by one. -/
def cp5 (w : World) (r : Nat) (v0 v1 v2 v3 v4 : Value) : World := ((((w.setCell ⟨r, 0, none⟩ v0).setCell ⟨r, 1, none⟩ v1).setCell ⟨r, 2, none⟩ v2).setCell ⟨r, 3, none⟩ v3).setCell ⟨r, 4, none⟩ v4
theorem cp5_blok {w : World} {r : Nat} {a b c d e v0 v1 v2 v3 v4 : Value} (h : Blok w r 25 [a, b, c, d, e]) : Blok (cp5 w r v0 v1 v2 v3 v4) r 25 [v0, v1, v2, v3, v4] := ((((h.put 0 v0).put 1 v1).put 2 v2).put 3 v3).put 4 v4
theorem cp5_hands {w : World} {r : Nat} {cs : List Value} {v v0 v1 v2 v3 v4 : Value} {hs : List Hand} (h : Blok w r 25 cs) (hh : HandsB w v hs) : HandsB (cp5 w r v0 v1 v2 v3 v4) v hs := by
  have a0 := hh.far (p := ⟨r, 0, none⟩) h (by decide) (by decide) v0
  have b0 := h.put 0 v0
  have a1 := a0.far (p := ⟨r, 1, none⟩) b0 (by decide) (by decide) v1
  have b1 := b0.put 1 v1
  have a2 := a1.far (p := ⟨r, 2, none⟩) b1 (by decide) (by decide) v2
  have b2 := b1.put 2 v2
  have a3 := a2.far (p := ⟨r, 3, none⟩) b2 (by decide) (by decide) v3
  have b3 := b2.put 3 v3
  exact a3.far (p := ⟨r, 4, none⟩) b3 (by decide) (by decide) v4
theorem cp5_own {w : World} {r base size n : Nat} {et : TypeId} {cs xs : List Value} {v v0 v1 v2 v3 v4 : Value} (h : Blok w r 25 cs) (ho : w.ownsRow base et size v n xs) (hne : et ≠ 25) : (cp5 w r v0 v1 v2 v3 v4).ownsRow base et size v n xs := by
  have n0 := own_ne_row ho h hne
  have a0 := own_far ho (p := ⟨r, 0, none⟩) n0 v0
  have a1 := own_far a0 (p := ⟨r, 1, none⟩) n0 v1
  have a2 := own_far a1 (p := ⟨r, 2, none⟩) n0 v2
  have a3 := own_far a2 (p := ⟨r, 3, none⟩) n0 v3
  exact own_far a3 (p := ⟨r, 4, none⟩) n0 v4
theorem cp5_below {B : Nat} {a w : World} {r : Nat} {v0 v1 v2 v3 v4 : Value} (h : Below B a w) (hr : B ≤ r) : Below B a (cp5 w r v0 v1 v2 v3 v4) :=
  ((((h.setCell (p := ⟨r, 0, none⟩) hr _).setCell (p := ⟨r, 1, none⟩) hr _).setCell (p := ⟨r, 2, none⟩) hr _).setCell (p := ⟨r, 3, none⟩) hr _).setCell (p := ⟨r, 4, none⟩) hr _
def CopyPost (L : Line) (w : World) (e : Ending) (w' : World) : Prop :=
  ∃ (gh ch gq cq : Nat) (lvs : List Value), e = .returned (.agg #[.slice (some ⟨gh, 0, none⟩) L.hands.length ch, .int .i64 L.worn, .int .i64 L.scr, .int .i64 L.total, .slice (some ⟨gq, 0, none⟩) L.squares.length cq]) ∧
    HandsB w' (.slice (some ⟨gh, 0, none⟩) L.hands.length ch) L.hands ∧ w'.ownsRow (w.heap.size + 2) 39 1 (.slice (some ⟨gq, 0, none⟩) L.squares.length cq) L.squares.length lvs ∧ SqOwn (w.heap.size + 2) w' L.squares lvs ∧ w.heap.size + 2 ≤ gh ∧ Below w.heap.size w w'
theorem CopyPost.of {w wr : World} {L : Line} {gh ch gq cq : Nat} {lvs : List Value} {v0 v1 v2 v3 v4 : Value} (b2 : Blok wr (w.heap.size + 1) 25 zeroLine) (hh : HandsB wr (.slice (some ⟨gh, 0, none⟩) L.hands.length ch) L.hands)
    (ho : wr.ownsRow (w.heap.size + 2) 39 1 (.slice (some ⟨gq, 0, none⟩) L.squares.length cq) L.squares.length lvs) (hsq : SqOwn (w.heap.size + 2) wr L.squares lvs) (hgh : w.heap.size + 2 ≤ gh) (hb : Below w.heap.size w wr) :
    CopyPost L w (.returned (.agg #[.slice (some ⟨gh, 0, none⟩) L.hands.length ch, .int .i64 L.worn, .int .i64 L.scr, .int .i64 L.total, .slice (some ⟨gq, 0, none⟩) L.squares.length cq])) (cp5 wr (w.heap.size + 1) v0 v1 v2 v3 v4) :=
  ⟨gh, ch, gq, cq, lvs, rfl, cp5_hands b2 hh, cp5_own b2 ho (by decide), ⟨hsq.1, fun k q v h1 h2 => cp5_own b2 (hsq.2.1 k q v h1 h2) (by decide), hsq.2.2⟩, hgh, cp5_below hb (by omega)⟩

set_option maxRecDepth 100000 in
set_option maxHeartbeats 1000000 in
theorem copyLine_any (L : Line) (bh ch bq cq : Nat) (w : World) (hL : L.ok) (hh : HandsB w (.slice (some ⟨bh, 0, none⟩) L.hands.length ch) L.hands) (hs : SquaresB w (.slice (some ⟨bq, 0, none⟩) L.squares.length cq) L.squares) :
    Calls Try.prog 17 #[.agg #[.slice (some ⟨bh, 0, none⟩) L.hands.length ch, .int .i64 L.worn, .int .i64 L.scr, .int .i64 L.total, .slice (some ⟨bq, 0, none⟩) L.squares.length cq]] w (CopyPost L w) := by
  obtain ⟨n, hn⟩ : ∃ n, n = L.hands.length := ⟨_, rfl⟩
  obtain ⟨m, hm⟩ : ∃ m, m = L.squares.length := ⟨_, rfl⟩
  have hn4 : n ≤ 4 := by rw [hn]; exact hL.2.1
  have hm8 : m ≤ 8 := by rw [hm]; exact hL.2.2.2.2.2.2.2.1
  have HHB := Lib.hid hh
  have HSB := Lib.hid hs
  rw [← hn, ← hm]
  have HN := Lib.hid hn
  have HM := Lib.hid hm
  have HOK := Lib.hid hL
  clear hn hm hL hh hs
  obtain ⟨ih, hih, hiz0, hiz1, hiz2⟩ := info_parts info_hand
  obtain ⟨is, his, hisz0, hisz1, hisz2⟩ := info_parts info_shape
  have HIH := Lib.hid hih
  have HIH0 := Lib.hid hiz0
  have HIH1 := Lib.hid hiz1
  have HIH2 := Lib.hid hiz2
  obtain ⟨il, hil, hilz0, hilz1, hilz2⟩ := info_parts info_cplight
  obtain ⟨iq, hiq, hiqz0, hiqz1, hiqz2⟩ := info_parts info_cplights
  have HIS := Lib.hid his
  have HIL := Lib.hid hil
  have HIL0 := Lib.hid hilz0
  have HIL1 := Lib.hid hilz1
  have HIL2 := Lib.hid hilz2
  have HIQ := Lib.hid hiq
  have HIQ0 := Lib.hid hiqz0
  have HIQ1 := Lib.hid hiqz1
  have HIQ2 := Lib.hid hiqz2
  clear hil hilz0 hilz1 hilz2 hiq hiqz0 hiqz1 hiqz2
  have HIS0 := Lib.hid hisz0
  have HIS1 := Lib.hid hisz1
  have HIS2 := Lib.hid hisz2
  clear hih hiz0 hiz1 hiz2 his hisz0 hisz1 hisz2
  have hbB : bh < w.heap.size := HHB.out.lt'
  go_enter Try.func17, Try.ntmps17
  go_wp2_with fail
  go_quiet (fail)
  go_wp2_with fail
  go_loopw [5] (fun i wr => ∃ k : Nat, k ≤ n ∧ i = .int .i64 k ∧ CpH w L k wr) (fun i _ => n - (intOf i).toNat)
  case atStart =>
    have hz1 : (w.alloc (.cells #[.slice (some ⟨bh, 0, none⟩) n ch, .int .i64 L.worn, .int .i64 L.scr, .int .i64 L.total, .slice (some ⟨bq, 0, none⟩) m cq] 25)).heap.size = w.heap.size + 1 := by simp
    have b2 := Blok.new (w.alloc (.cells #[.slice (some ⟨bh, 0, none⟩) n ch, .int .i64 L.worn, .int .i64 L.scr, .int .i64 L.total, .slice (some ⟨bq, 0, none⟩) m cq] 25)) 25 zeroLine
    rw [hz1] at b2
    have b1 := (Blok.new w 25 [.slice (some ⟨bh, 0, none⟩) n ch, .int .i64 L.worn, .int .i64 L.scr, .int .i64 L.total, .slice (some ⟨bq, 0, none⟩) m cq]).alloc (.cells #[.slice none 0 0, .int .i64 0, .int .i64 0, .int .i64 0, .slice none 0 0] 25)
    have hbl := ((Below.refl w.heap.size w).alloc (Nat.le_refl _) (.cells #[.slice (some ⟨bh, 0, none⟩) n ch, .int .i64 L.worn, .int .i64 L.scr, .int .i64 L.total, .slice (some ⟨bq, 0, none⟩) m cq] 25)).alloc (by simp) (.cells #[.slice none 0 0, .int .i64 0, .int .i64 0, .int .i64 0, .slice none 0 0] 25)
    refine ⟨0, by omega, rfl, [], .slice none 0 0, ?_, ?_, World.ownsRow_nil _ _ _ _, ⟨by simp, by simp⟩, ?_⟩
    · exact ((b1.drewN nq).put 0 _).put 4 _
    · exact ((b2.drewN nq).far (p := ⟨w.heap.size, 0, none⟩) (by simp) _).far (p := ⟨w.heap.size, 4, none⟩) (by simp) _
    · exact ((below_drewN hbl nq).setCell (p := ⟨w.heap.size, 0, none⟩) (Nat.le_refl _) _).setCell (p := ⟨w.heap.size, 4, none⟩) (Nat.le_refl _) _
  case round =>
    obtain ⟨k, hk, rfl, svs, vh', b1, b2, ho, hsh, hb⟩ := hrel
    obtain ⟨A', c', rfl⟩ := own_slice ho
    have B1 := Lib.hid b1
    have B2 := Lib.hid b2
    have HO := Lib.hid ho
    have HSH := Lib.hid hsh
    have HB := Lib.hid hb
    have hz := hb.size
    have hzl := b2.size
    clear b1 b2 ho hsh hb
    by_cases hlt : k < n
    · have hkl : k < L.hands.length := by rw [← HN.out]; exact hlt
      obtain ⟨bs, cs, d1, d2, d3, hbs, hR⟩ := hands_of_B HHB.out HB.out k hkl
      have hok := HOK.out.2.2.1 _ (List.getElem_mem hkl)
      have hp1 : 1 ≤ L.hands[k].shapes.length := hok.2.2.2.1
      have hp8 : L.hands[k].shapes.length ≤ 8 := hok.2.2.2.2.1
      have hbs' : bs < wr.heap.size := by omega
      have HR := Lib.hid hR
      have HKL := Lib.hid hkl
      clear hR hok
      have l0 := B1.out.cell 0
      have l1 := B1.out.free 0
      go_wp2_with (first
        | (at_builtin; refine wpList_append_src rfl _ _ 66 rfl (wr.heap.size + 1) 86 is _ 2 16 Try.underlying66 HIS.out HIS0.out HIS1.out HIS2.out rfl (by decide) (.slice (some ⟨wr.heap.size + 1, 0, none⟩) 0 0) 0 [] (by rfl) (own_lit0 wr _ _ _) _ L.hands[k].shapes.length (shCells L.hands[k].shapes) (by rfl) (Src.shapes HR.out fun i => ((HB.out.alloc (by omega) _).alloc (by simp; omega) _).cell (p := ⟨bs, i, none⟩) hbs) (shCells_len _) (shCells_one _) (by unfold maxLen; omega) (by omega) (by simp) _ rfl ?_; intro A5 c5 w5 hown5 hgrow5 hat5
           rw [Nat.zero_add] at hown5 hat5 ⊢
           have hb5 : Below wr.heap.size wr w5 := (((Below.refl _ wr).alloc (Nat.le_refl _) _).alloc (by simp) _).grown hgrow5 (by simp; omega) (fun j e => by simp [Value.ownBlock] at e; omega)
           have hbox5 := ((Blok.new wr 68 [.int .i64 L.hands[k].low, .int .i64 L.hands[k].high, .slice (some ⟨bs, 0, none⟩) L.hands[k].shapes.length cs]).alloc (.cells #[] 86)).grown hgrow5 (by simp [Value.ownBlock])
           have k0 : w5.cell? ⟨wr.heap.size, 0, none⟩ = some (.int .i64 L.hands[k].low) := hbox5.cell 0
           have k1 : w5.cell? ⟨wr.heap.size, 1, none⟩ = some (.int .i64 L.hands[k].high) := hbox5.cell 1
           have k2 : w5.cell? ⟨wr.heap.size, 2, none⟩ = some (.slice (some ⟨bs, 0, none⟩) L.hands[k].shapes.length cs) := hbox5.cell 2
           have k3 := hbox5.free 2
           have B5 := B1.out.below hb5 (by omega)
           have l0 : w5.cell? ⟨w.heap.size, 0, none⟩ = some (.slice A' k c') := B5.cell 0
           have l1 := B5.free 0
           have hne := Nat.ne_of_lt (show w.heap.size < wr.heap.size by omega)
           have HB7 := Lib.hid ((hb5.setCell (p := ⟨wr.heap.size, 2, none⟩) (Nat.le_refl _) (.slice A5 L.hands[k].shapes.length c5)).alloc (setCell_le hb5.size) (.cells #[.int .i64 L.hands[k].low, .int .i64 L.hands[k].high, .slice A5 L.hands[k].shapes.length c5] 68))
           have hn7 := World.news_of_block (heap_alloc_new (w5.setCell ⟨wr.heap.size, 2, none⟩ (.slice A5 L.hands[k].shapes.length c5)) (.cells #[.int .i64 L.hands[k].low, .int .i64 L.hands[k].high, .slice A5 L.hands[k].shapes.length c5] 68))
           rw [setCell_size] at hn7
           have HN7 := Lib.hid hn7
           have HB5 := Lib.hid hb5
           clear hn7
           have HBX := Lib.hid hbox5
           have HG5 := Lib.hid hgrow5
           have HO5 := Lib.hid hown5
           have hz5 := hb5.size
           have hz5' := hbox5.size
           clear B5 hb5 hbox5 hgrow5 hown5 hat5)
        | (at_builtin; go_loud (refine wpList_append_lies _ rfl _ _ 22 rfl (w.heap.size + 2) 68 ih _ 3 40 Try.underlying22 HIH.out HIH0.out HIH1.out HIH2.out rfl (by decide) (.slice A' k c') k (hdCells (L.hands.take k) svs) (by rfl) (own_below HO.out HB7.out (Nat.le_refl _)) ⟨w5.heap.size, 0, none⟩ 1 1 [.int .i64 L.hands[k].low, .int .i64 L.hands[k].high, .slice A5 L.hands[k].shapes.length c5] (by rfl) (by rfl) HN7.out (by simp [Value.oneCell']) (by omega) (by unfold maxLen; omega) (by omega) (by have := HB7.out.size; omega) _ rfl ?_); intro g8 c8 w8 hown8 hgrow8 hat8 hlt8
           have B8 := (B1.out.below HB7.out (by omega)).grown hgrow8 (own_ne_row (own_below HO.out HB7.out (Nat.le_refl _)) (B1.out.below HB7.out (by omega)) (by decide))
           have l8 : w8.cell? ⟨w.heap.size, 0, none⟩ = some (.slice A' k c') := B8.cell 0
           have l9 := B8.free 0
           have HG8 := Lib.hid hgrow8
           have HO8 := Lib.hid hown8
           clear B8 hgrow8 hown8 hat8))
      exact ⟨⟨k + 1, by omega, by go_num, CpH.step HKL.out B1.out B2.out HO.out HSH.out HB.out hzl HB5.out HBX.out _ _ HO5.out hp1 HG8.out HO8.out⟩, by simp [intOf]; omega⟩
    · obtain rfl : k = n := by omega
      have hk0 : 0 < k := by have := HOK.out.1; rw [← HN.out] at this; omega
      have htk : L.hands.take k = L.hands := List.take_of_length_le (by rw [← HN.out]; exact Nat.le_refl _)
      have ho := HO.out
      have hsh := HSH.out
      rw [htk] at ho hsh
      have hHB := HandsB.of_own ho HN.out hk0 hsh
      obtain ⟨gh, cH, hA, hgh, -⟩ := ho.form hk0
      injection hA with hA1 hA2 hA3
      subst hA1 hA3
      have HHB2 := Lib.hid hHB
      have HGH := Lib.hid hgh
      clear ho hsh hHB htk hA2 hgh HO HSH
      go_wp2_with fail
      go_loopw [7] (fun i wq => ∃ k : Nat, k ≤ m ∧ i = .int .i64 k ∧ CpQ w L gh c' k wq) (fun i _ => m - (intOf i).toNat)
      case atStart => exact ⟨0, by omega, rfl, [], .slice none 0 0, by rw [← HN.out]; exact B1.out, B2.out, by rw [← HN.out]; exact HHB2.out, World.ownsRow_nil _ _ _ _, ⟨by simp, by simp, List.Pairwise.nil⟩, HB.out⟩
      case round =>
        clear hz hzl B1 B2 HB
        obtain ⟨j, hj, rfl, lvs, vq, b1, b2, hh2, ho, hsq, hb⟩ := hrel
        obtain ⟨Aq, cq', rfl⟩ := own_slice ho
        have C1 := Lib.hid b1
        have C2 := Lib.hid b2
        have CH := Lib.hid hh2
        have CO := Lib.hid ho
        have CQ := Lib.hid hsq
        have CB := Lib.hid hb
        have hz := hb.size
        have hzl := b2.size
        clear b1 b2 ho hsq hb hh2 HHB2
        have l4 : wr.cell? ⟨w.heap.size, 4, none⟩ = some (.slice Aq j cq') := C1.out.cell 4
        have f4 := C1.out.free 4
        by_cases hlt : j < m
        · have hjl : j < L.squares.length := by rw [← HM.out]; exact hlt
          obtain ⟨A1, c1, d1, hbq, hR⟩ := squares_of_B HSB.out CB.out j hjl
          have hq4 : L.squares[j].length ≤ 4 := (HOK.out.2.2.2.2.2.2.2.2 _ (List.getElem_mem hjl)).1
          have hbq' : bq < wr.heap.size := by omega
          have hwl : w.heap.size < wr.heap.size := by omega
          have HR := Lib.hid hR
          have HJL := Lib.hid hjl
          clear hR
          go_wp2_with fail
          go_region_law (first
            | (refine step_append_src rfl _ _ 39 (by rfl) _ 27 il _ 2 16 Try.underlying39 HIL.out HIL0.out HIL1.out HIL2.out rfl (by decide) _ 0 [] (by rfl) (own_lit1 _ _ _) _ L.squares[j].length (ltCells L.squares[j]) (by rfl) (LightsB.src HR.out fun b i hb => (CB.out.drew.alloc (by exact hz) _).cell (p := ⟨b, i, none⟩) hb) (ltCells_len _) (ltCells_one _) (by unfold maxLen; omega) (by omega) (by simp) _ rfl ?_
               intro A5 c5 w5 hown5 hgrow5 hat5; rw [Nat.zero_add] at hown5 hat5 ⊢
               have hb5 : Below wr.heap.size wr w5 := ((((Below.refl wr.heap.size wr).drew).alloc (Nat.le_refl _) _).grown hgrow5 (by simp) (fun j e => by simp [Value.ownBlock] at e; omega))
               have l5 : w5.cell? ⟨w.heap.size, 4, none⟩ = some (.slice Aq j cq') := (C1.out.below hb5 (by omega)).cell 4
               have f5 := (C1.out.below hb5 (by omega)).free 4
               have hz5 := hb5.size
               have hw5 : w.heap.size < w5.heap.size := by omega
               have HB5 := Lib.hid hb5
               have HO5 := Lib.hid hown5
               clear hb5 hown5 hgrow5 hat5)
            | (refine step_append_lies (w5.alloc (.cells #[.slice A5 L.squares[j].length c5] 39)) (by rfl) (.tmp 42) (.tmp 49) 23 (by rfl) (w.heap.size + 2) 39 iq (.slice none 0 0) 1 24 Try.underlying23 HIQ.out HIQ0.out HIQ1.out HIQ2.out rfl (by decide) (.slice Aq j cq') j lvs (by rfl) (own_below CO.out (HB5.out.alloc hz5 (.cells #[.slice A5 L.squares[j].length c5] 39)) (Nat.le_refl _)) ⟨w5.heap.size, 0, none⟩ 1 1 [.slice A5 L.squares[j].length c5] (by rfl) (by rfl) (World.news_of_block (heap_alloc_new w5 (.cells #[.slice A5 L.squares[j].length c5] 39))) (by simp [Value.oneCell']) (by omega) (by unfold maxLen; omega) (by omega) (by simp; omega) _ rfl ?_
               intro g8 c8 w8 hown8 hgrow8 hat8 hlt8
               have B8 := (C1.out.below (HB5.out.alloc hz5 (.cells #[.slice A5 L.squares[j].length c5] 39)) (by omega)).grown hgrow8 (own_ne_row (own_below CO.out (HB5.out.alloc hz5 (.cells #[.slice A5 L.squares[j].length c5] 39)) (Nat.le_refl _)) (C1.out.below (HB5.out.alloc hz5 (.cells #[.slice A5 L.squares[j].length c5] 39)) (by omega)) (by decide))
               have l8 : w8.cell? ⟨w.heap.size, 4, none⟩ = some (.slice Aq j cq') := B8.cell 4
               have f8 := B8.free 4
               have HG8 := Lib.hid hgrow8
               have HO8 := Lib.hid hown8
               clear B8 hgrow8 hown8 hat8))
          all_goals
            go_wp2
            go_roundw
            case rel => exact ⟨j + 1, by omega, by go_num, CpQ.step HJL.out C1.out C2.out CH.out CO.out CQ.out CB.out hzl HB5.out HO5.out ((Below.refl _ _).alloc (Nat.le_refl _) _) HG8.out HO8.out⟩
            case measure => simp [intOf]; omega
        · obtain rfl : j = m := by omega
          have hj0 : 0 < j := by have := HOK.out.2.2.2.2.2.2.1; rw [← HM.out] at this; omega
          have htk : L.squares.take j = L.squares := List.take_of_length_le (by rw [← HM.out]; exact Nat.le_refl _)
          have hsq := CQ.out
          rw [htk] at hsq
          obtain ⟨gq, cQ, hA, -, -⟩ := CO.out.form hj0
          injection hA with hA1 hA2 hA3
          subst hA1 hA3
          have CSQ := Lib.hid hsq
          have l0 : wr.cell? ⟨w.heap.size, 0, none⟩ = some (.slice (some ⟨gh, 0, none⟩) k c') := by rw [C1.out.cell, HN.out]; rfl
          have l1 : wr.cell? ⟨w.heap.size, 1, none⟩ = some (.int .i64 L.worn) := C1.out.cell 1
          have l2 : wr.cell? ⟨w.heap.size, 2, none⟩ = some (.int .i64 L.scr) := C1.out.cell 2
          have l3 : wr.cell? ⟨w.heap.size, 3, none⟩ = some (.int .i64 L.total) := C1.out.cell 3
          have r0 : wr.cell? ⟨w.heap.size + 1, 0, none⟩ = some (.slice none 0 0) := C2.out.cell 0
          have r1 : wr.cell? ⟨w.heap.size + 1, 1, none⟩ = some (.int .i64 0) := C2.out.cell 1
          have r2 : wr.cell? ⟨w.heap.size + 1, 2, none⟩ = some (.int .i64 0) := C2.out.cell 2
          have r3 : wr.cell? ⟨w.heap.size + 1, 3, none⟩ = some (.int .i64 0) := C2.out.cell 3
          have r4 : wr.cell? ⟨w.heap.size + 1, 4, none⟩ = some (.slice none 0 0) := C2.out.cell 4
          have f0 := C2.out.free 0
          have f1 := C2.out.free 1
          have f2 := C2.out.free 2
          have f3 := C2.out.free 3
          have f4 := C2.out.free 4
          clear hsq htk hA2
          go_wp2
          refine bodyPost_ret (v := .agg #[.slice (some ⟨gh, 0, none⟩) k c', .int .i64 L.worn, .int .i64 L.scr, .int .i64 L.total, .slice (some ⟨gq, 0, none⟩) j cq']) ?_ ?_ ?_
          · exact results_cell_row Try.results17 _ _ (w.heap.size + 1) 25 _ (0, 0) _ rfl (cp5_blok (v0 := .slice (some ⟨gh, 0, none⟩) k c') (v1 := .int .i64 L.worn) (v2 := .int .i64 L.scr) (v3 := .int .i64 L.total) (v4 := .slice (some ⟨gq, 0, none⟩) j cq') C2.out) Try.underlying25 rfl (by kernel_rfl)
          · rfl
          · have hco := CO.out
            have hfin := CopyPost.of (v0 := .slice (some ⟨gh, 0, none⟩) k c') (v1 := .int .i64 L.worn) (v2 := .int .i64 L.scr) (v3 := .int .i64 L.total) (v4 := .slice (some ⟨gq, 0, none⟩) j cq') (gq := gq) (cq := cq') (lvs := lvs) C2.out CH.out (by rw [← HM.out]; exact hco) CSQ.out HGH.out CB.out
            rw [← HN.out, ← HM.out] at hfin
            exact hfin
end
end Go.Proofs.Ythhajbgddifenaa
