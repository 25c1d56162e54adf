/- append of all of a slice, which may be nil or empty, onto a row of the call's own. Ints and Spans: copies. · CopyDating: a dating with lists of its own. -/
import Derived.Test.YtcbdcdpoackplaaFc
import Derived.Laws.OwnMore
import Derived.Deep.AppendLies
import Derived.Deep.RegionLaw
import Derived.Deep.Onto
import Derived.Test.YtcbdcdpoackplaaEu
import Derived.Test.YtcbdcdpoackplaaFe
namespace Go.Proofs.Ytcbdcdpoackplaa
section
open Go.RowKit Dt

/-- A slice of m elements whose cells are these: nil, or at an address. -/
def Src (w : World) (v : Value) (m : Nat) (news : List Value) : Prop :=
  (v = .slice none 0 0 ∧ m = 0 ∧ news = []) ∨ ∃ ad c, v = .slice (some ad) m c ∧ ∀ j u, news[j]? = some u → w.cell? (ad.add j) = some u
theorem run_append_src {P : Program} (w : World) (t ty : TypeId) (base : Nat) (e : TypeId) (i : TypeInfo) (z : Value) (size bytes : Nat) (ht : P.underlying t = some (.slice e)) (hi : P.info? e = some i) (hz : i.zero = some z)
    (hsize : i.size = size) (hby : i.bytes = bytes) (hzs : z.cells.size = size) (hsz : 0 < size)
    (v : Value) (n : Nat) (xs : List Value) (hown : w.ownsRow base e size v n xs) (src : Value) (m : Nat) (news : List Value) (hsrc : Src w src m news) (hl : news.length = m * size) (h1 : ∀ u ∈ news, u.oneCell' = true)
    (h63 : n + m ≤ maxLen) (hbytes : (n + m) * bytes ≤ 140737488355328) (hbase : base ≤ w.heap.size) :
    ∃ A cap w', (Builtin.append_ #[t, t] ty #[v, src]).run P w = .ok (.slice A (n + m) cap) w' ∧ w'.ownsRow base e size (.slice A (n + m) cap) (n + m) (xs ++ news) ∧ w.grownBy w' v.ownBlock ∧
      ((Value.slice A (n + m) cap).ownBlock = v.ownBlock ∨ (Value.slice A (n + m) cap).ownBlock = some w.heap.size) := by
  rcases hsrc with ⟨rfl, rfl, rfl⟩ | ⟨ad, c, rfl, hc⟩
  · obtain ⟨A, c, rfl⟩ := own_slice hown
    have hrun := run_append_owned_none (P := P) (w := w) base t ty e i size ht hi _ n xs hown
    exact ⟨A, c, w, by simpa using hrun, by simpa using hown, ⟨rfl, rfl, rfl, Nat.le_refl _, fun _ _ _ => rfl⟩, .inl rfl⟩
  · obtain ⟨v', w', hr, h2, h3, _, h5⟩ := run_append_own_at (P := P) w base t ty e i z size bytes ht hi hz hsize hby hzs hsz v n xs hown ad m c news hl hc h1 h63 hbytes hbase
    obtain ⟨A, cap, rfl⟩ := own_slice h2
    exact ⟨A, cap, w', hr, h2, h3, h5⟩
section
variable {P : Program} {w : World} {ops : Array Oper} {o : Oper} {a : Act} {K : Act → World → Prop} {Q : Exit → Act → World → Prop}
theorem wp_append_src (s x : Operand) (t : TypeId)
    (ho : o.op = .call { callee := .builtin .append, args := #[s, x], argTypes := #[t, t] })
    (base : Nat) (e : TypeId) (i : TypeInfo) (z : Value) (size bytes : Nat) (ht : P.underlying t = some (.slice e)) (hi : P.info? e = some i) (hz : i.zero = some z)
    (hsize : i.size = size) (hby : i.bytes = bytes) (hzs : z.cells.size = size) (hsz : 0 < size)
    (v : Value) (n : Nat) (xs : List Value) (hs : a.eval s = v) (hown : w.ownsRow base e size v n xs)
    (src : Value) (m : Nat) (news : List Value) (hx : a.eval x = src) (hsrc : Src w src m news) (hl : news.length = m * size) (h1 : ∀ u ∈ news, u.oneCell' = true)
    (h63 : n + m ≤ maxLen) (hbytes : (n + m) * bytes ≤ 140737488355328) (hbase : base ≤ w.heap.size) (H : Nat) (hH : w.heap.size = H)
    (h : ∀ A cap w', w'.ownsRow base e size (.slice A (n + m) cap) (n + m) (xs ++ news) → w.grownBy w' v.ownBlock → ((Value.slice A (n + m) cap).ownBlock = v.ownBlock ∨ (Value.slice A (n + m) cap).ownBlock = some H) → K (a.put o.dst (.slice A (n + m) cap)) w') : o.wp P a w K Q := by
  obtain ⟨A, cap, w', hr, h2, h3, h4⟩ := run_append_src (P := P) w t o.type base e i z size bytes ht hi hz hsize hby hzs hsz v n xs hown src m news hsrc hl h1 h63 hbytes hbase
  unfold Oper.wp execOp
  simp only [ho, resolve, invoke, builtin, Sem.run_bind, Sem.run_pure, Result.andThen_ok, List.map_toArray, List.map_cons, List.map_nil, hs, hx, hr]
  exact h A cap w' h2 h3 (by rw [← hH]; exact h4)
theorem wpList_append_src {rest : List Oper} (hgd : o.guard = none) (s x : Operand) (t : TypeId)
    (ho : o.op = .call { callee := .builtin .append, args := #[s, x], argTypes := #[t, t] })
    (base : Nat) (e : TypeId) (i : TypeInfo) (z : Value) (size bytes : Nat) (ht : P.underlying t = some (.slice e)) (hi : P.info? e = some i) (hz : i.zero = some z)
    (hsize : i.size = size) (hby : i.bytes = bytes) (hzs : z.cells.size = size) (hsz : 0 < size)
    (v : Value) (n : Nat) (xs : List Value) (hs : a.eval s = v) (hown : w.ownsRow base e size v n xs)
    (src : Value) (m : Nat) (news : List Value) (hx : a.eval x = src) (hsrc : Src w src m news) (hl : news.length = m * size) (h1 : ∀ u ∈ news, u.oneCell' = true)
    (h63 : n + m ≤ maxLen) (hbytes : (n + m) * bytes ≤ 140737488355328) (hbase : base ≤ w.heap.size) (H : Nat) (hH : w.heap.size = H)
    (h : ∀ A cap w', w'.ownsRow base e size (.slice A (n + m) cap) (n + m) (xs ++ news) → w.grownBy w' v.ownBlock → ((Value.slice A (n + m) cap).ownBlock = v.ownBlock ∨ (Value.slice A (n + m) cap).ownBlock = some H) → wpList P ops Q rest (a.put o.dst (.slice A (n + m) cap)) w') : wpList P ops Q (o :: rest) a w :=
  wpList_plain hgd fun _ hK => wp_append_src s x t ho base e i z size bytes ht hi hz hsize hby hzs hsz v n xs hs hown src m news hx hsrc hl h1 h63 hbytes hbase H hH fun A cap w' h2 h3 h4 => hK _ _ (h A cap w' h2 h3 h4)
theorem step_append_src {E : Prop} (hgd : o.guard = none) (s x : Operand) (t : TypeId)
    (ho : o.op = .call { callee := .builtin .append, args := #[s, x], argTypes := #[t, t] })
    (base : Nat) (e : TypeId) (i : TypeInfo) (z : Value) (size bytes : Nat) (ht : P.underlying t = some (.slice e)) (hi : P.info? e = some i) (hz : i.zero = some z)
    (hsize : i.size = size) (hby : i.bytes = bytes) (hzs : z.cells.size = size) (hsz : 0 < size)
    (v : Value) (n : Nat) (xs : List Value) (hs : a.eval s = v) (hown : w.ownsRow base e size v n xs)
    (src : Value) (m : Nat) (news : List Value) (hx : a.eval x = src) (hsrc : Src w src m news) (hl : news.length = m * size) (h1 : ∀ u ∈ news, u.oneCell' = true)
    (h63 : n + m ≤ maxLen) (hbytes : (n + m) * bytes ≤ 140737488355328) (hbase : base ≤ w.heap.size) (H : Nat) (hH : w.heap.size = H)
    (h : ∀ A cap w', w'.ownsRow base e size (.slice A (n + m) cap) (n + m) (xs ++ news) → w.grownBy w' v.ownBlock → ((Value.slice A (n + m) cap).ownBlock = v.ownBlock ∨ (Value.slice A (n + m) cap).ownBlock = some H) → K (a.put o.dst (.slice A (n + m) cap)) w') :
    if Region.wanted o (yielded ops a.tmps) = true then Oper.wp P o a w K Q else E := by
  have hw : Region.wanted o (yielded ops a.tmps) = true := by simp [Region.wanted, hgd]
  rw [if_pos hw]
  exact wp_append_src s x t ho base e i z size bytes ht hi hz hsize hby hzs hsz v n xs hs hown src m news hx hsrc hl h1 h63 hbytes hbase H hH h
end
theorem addr_add (b o j : Nat) : (⟨b, o, none⟩ : Addr).add j = ⟨b, o + j, none⟩ := by unfold Addr.add; split <;> simp_all
theorem own_lit0 (w : World) (o : Obj) (e : TypeId) (size : Nat) : ((w.alloc o).alloc (.cells #[] e)).ownsRow (w.heap.size + 1) e size (.slice (some ⟨w.heap.size + 1, 0, none⟩) 0 0) 0 [] := by
  have h := World.ownsRow_lit (base := w.heap.size + 1) (e := e) (size := size) (w.alloc o) #[] 0 (by simp) (by unfold maxLen; omega) (by simp)
  rw [World.size_alloc] at h
  exact h
theorem setCell_size (w : World) (p : Addr) (u : Value) : (w.setCell p u).heap.size = w.heap.size := by simp [World.setCell]
theorem setCell_le {w : World} {p : Addr} {u : Value} {n : Nat} (h : n ≤ w.heap.size) : n ≤ (w.setCell p u).heap.size := by rw [setCell_size]; exact h
theorem own_lit1 (w : World) (e : TypeId) (size : Nat) : (w.alloc (.cells #[] e)).ownsRow w.heap.size e size (.slice (some ⟨w.heap.size, 0, none⟩) 0 0) 0 [] :=
  World.ownsRow_lit (base := w.heap.size) (e := e) (size := size) w #[] 0 (Nat.le_refl _) (by unfold maxLen; omega) (by simp)
theorem Src.own {w w' : World} {B size n : Nat} {e : TypeId} {v : Value} {xs : List Value} (h : w.ownsRow B e size v n xs) (hk : Below w.heap.size w w') : Src w' v n xs := by
  obtain ⟨h1, h2⟩ := h
  rcases h2 with ⟨rfl, rfl⟩ | ⟨g, cap, cur, rfl, hbg, hg, hcap, _, hsz, htake⟩
  · exact .inl ⟨rfl, rfl, List.length_eq_zero_iff.1 (by omega)⟩
  · have hb : Blok w g e cur.toList := by unfold Blok; rw [hg]
    refine .inr ⟨_, _, rfl, fun j u hj => ?_⟩
    have hlt := (List.getElem?_eq_some_iff.1 hj).1
    rw [← htake, List.getElem?_take, if_pos (by omega)] at hj
    rw [addr_add, Nat.zero_add]
    exact bcell hk hb.size ((hb.cell j).trans hj)
theorem intCells_one (l : List Int) : ∀ u ∈ intCells l, u.oneCell' = true := by
  intro u hu
  obtain ⟨x, _, rfl⟩ := List.mem_map.1 hu
  rfl
theorem intCells_len (l : List Int) : (intCells l).length = l.length := by simp [intCells]
theorem info_num2 : (Try.prog.info? 3).map (fun i => (i.zero, i.size, i.bytes)) = some (some (.int .i64 0), 1, 8) := by kernel_rfl
set_option maxHeartbeats 1000000 in
theorem ints_any (l : List Int) (hl : l.length ≤ 10000) (B : Nat) (v : Value) (w : World) (hv : IntsO w B v l) :
    Calls Try.prog 53 #[v] w fun e w' => ∃ v', e = .returned v' ∧ IntsO w' w.heap.size v' l ∧ Below w.heap.size w w' := by
  obtain ⟨i0, hi, hz0, hz1, hz2⟩ := info_parts info_num2
  have HSRC := Lib.hid (fun w' hk => Src.own (w' := w') hv hk)
  obtain ⟨n, hn⟩ : ∃ n, n = l.length := ⟨_, rfl⟩
  have hnl : n ≤ 10000 := by omega
  have HN := Lib.hid hn
  obtain ⟨A, c, rfl⟩ := own_slice hv
  rw [← hn] at HSRC ⊢
  have HL := Lib.hid (show (intCells l).length = n by rw [intCells_len, hn])
  clear hl hv hn
  go_enter Try.func53, Try.ntmps53
  have ba : Below w.heap.size w (w.alloc (.cells #[] 3)) := (Below.refl _ w).alloc (Nat.le_refl _) _
  have HBA := Lib.hid ba
  clear ba
  go_wp2_with (at_builtin; refine wpList_append_src rfl _ _ 22 rfl w.heap.size 3 i0 _ 1 8 Try.underlying22 hi hz0 hz1 hz2 rfl (by decide) _ 0 [] (by rfl) (own_lit1 w _ _) _ n (intCells l) (by rfl) (HSRC.out _ HBA.out) (by rw [HL.out]; omega) (intCells_one l) (by unfold maxLen; omega) (by omega) (by simp) _ rfl ?_; intro A8 c8 w8 hown8 hgrow8 hat8; have HO8 := Lib.hid hown8; have HB8 := Lib.hid (HBA.out.grown hgrow8 (by simp) (fun k e => by simp [Value.ownBlock] at e; omega)); clear hown8 hgrow8 hat8)
  go_ret
  exact ⟨.slice A8 n c8, rfl, by have h := HO8.out; unfold IntsO; rw [← HN.out]; simpa only [Nat.zero_add, List.nil_append] using h, HB8.out⟩
theorem flatS_one' (l : List (Int × Int)) : ∀ u ∈ flatS l, u.oneCell' = true := flatS_one l
set_option maxHeartbeats 1000000 in
theorem spansC_any (l : List (Int × Int)) (hl : l.length ≤ 10000) (B : Nat) (v : Value) (w : World) (hv : SpansO w B v l) :
    Calls Try.prog 52 #[v] w fun e w' => ∃ v', e = .returned v' ∧ SpansO w' w.heap.size v' l ∧ Below w.heap.size w w' := by
  obtain ⟨i0, hi, hz0, hz1, hz2⟩ := info_parts info_span
  have HSRC := Lib.hid (fun w' hk => Src.own (w' := w') hv hk)
  obtain ⟨n, hn⟩ : ∃ n, n = l.length := ⟨_, rfl⟩
  have hnl : n ≤ 10000 := by omega
  have HN := Lib.hid hn
  obtain ⟨A, c, rfl⟩ := own_slice hv
  rw [← hn] at HSRC ⊢
  have HL := Lib.hid (show (flatS l).length = n * 2 by rw [flatS_len, hn]; omega)
  clear hl hv hn
  go_enter Try.func52, Try.ntmps52
  have ba : Below w.heap.size w (w.alloc (.cells #[] 39)) := (Below.refl _ w).alloc (Nat.le_refl _) _
  have HBA := Lib.hid ba
  clear ba
  go_wp2_with (at_builtin; refine wpList_append_src rfl _ _ 25 rfl w.heap.size 39 i0 _ 2 16 Try.underlying25 hi hz0 hz1 hz2 rfl (by decide) _ 0 [] (by rfl) (own_lit1 w _ _) _ n (flatS l) (by rfl) (HSRC.out _ HBA.out) (by rw [HL.out]) (flatS_one l) (by unfold maxLen; omega) (by omega) (by simp) _ rfl ?_; intro A8 c8 w8 hown8 hgrow8 hat8; have HO8 := Lib.hid hown8; have HB8 := Lib.hid (HBA.out.grown hgrow8 (by simp) (fun k e => by simp [Value.ownBlock] at e; omega)); clear hown8 hgrow8 hat8)
  go_ret
  exact ⟨.slice A8 n c8, rfl, by have h := HO8.out; unfold SpansO; rw [← HN.out]; simpa only [Nat.zero_add, List.nil_append] using h, HB8.out⟩
end
section
open Go.RowKit Dt

/-- A copy under way: k notes are there. -/
structure CpI (w : World) (d : Dat) (k : Nat) (ve vn : Value) (xs : List (Nt × Value)) (wr : World) : Prop where
  k0 : Blok wr w.heap.size 28 [.int .i64 d.stones, ve, vn]
  k1 : Blok wr (w.heap.size + 1) 28 zeroD
  oe : SpansO wr w.heap.size ve d.eras
  map : xs.map Prod.fst = d.notes.take k
  on : wr.ownsRow w.heap.size 51 6 vn k (cellsN xs)
  years : ∀ p ∈ xs, IntsO wr w.heap.size p.2 p.1.years
  below : Below w.heap.size w wr
section
variable {w wr W : World} {d : Dat} {k : Nat} {ve vn : Value} {xs : List (Nt × Value)}
theorem CpI.to (h : CpI w d k ve vn xs wr) (hb : Below wr.heap.size wr W) : CpI w d k ve vn xs W :=
  ⟨h.k0.below hb h.k0.size, h.k1.below hb h.k1.size, own_fx h.oe (Fx.of_all hb) (fun _ _ _ _ => trivial), h.map, own_fx h.on (Fx.of_all hb) (fun _ _ _ _ => trivial), fun p hp => own_fx (h.years p hp) (Fx.of_all hb) (fun _ _ _ _ => trivial), h.below.trans (hb.mono h.below.size)⟩
theorem CpI.snoc {W' : World} {vn' v : Value} {x : Nt} {gg : Nat} (h : CpI w d k ve vn xs W) (hx : d.notes[k]? = some x) (hv : IntsO W w.heap.size v x.years) (hg : W.grownBy W' vn.ownBlock) (hn : W'.ownsRow w.heap.size 51 6 vn' (k + 1) (cellsN xs ++ ntL x v)) (_ : gg = 0) :
    CpI w d (k + 1) ve vn' (xs ++ [(x, v)]) (W'.setCell ⟨w.heap.size, 2, none⟩ vn') := by
  have q0 := h.k0.grown hg (own_ne h.on h.k0 (by decide))
  have q1 := h.k1.grown hg (own_ne h.on h.k1 (by decide))
  have far : ∀ {base size n : Nat} {e : TypeId} {u : Value} {cs : List Value}, e ≠ 51 → e ≠ 28 → W.ownsRow base e size u n cs → (W'.setCell ⟨w.heap.size, 2, none⟩ vn').ownsRow base e size u n cs := fun h1 h2 ho =>
    have ho' := own_fx ho (Fx.of_grown hg) (fun b _ _ hb => own_disj ho h.on h1 b hb)
    own_far ho' (own_ne ho' q0 h2) _
  refine ⟨q0.put 2 vn', q1.far (by simp) _, far (by decide) (by decide) h.oe, ?_, ?_, fun p hp => ?_, (h.below.grown hg h.below.size (fun j hj => (h.on.lt j hj).1)).setCell (p := ⟨w.heap.size, 2, none⟩) (Nat.le_refl _) _⟩
  · rw [List.map_append, h.map, List.map_cons, List.map_nil, List.take_add_one, hx]
    rfl
  · rw [cellsN_snoc]
    exact own_far hn (own_ne hn q0 (by decide)) _
  · rcases List.mem_append.1 hp with hp | hp
    · exact far (by decide) (by decide) (h.years p hp)
    · rw [List.mem_singleton.1 hp]
      exact far (by decide) (by decide) hv
end
set_option maxRecDepth 100000 in
set_option maxHeartbeats 4000000 in
theorem copyDating_any (d : Dat) (hd : d.Ok) (B : Nat) (v : Value) (w : World) (hv : DatO w B v d) :
    Calls Try.prog 21 #[v] w fun e w' => ∃ v', e = .returned v' ∧ DatO w' w.heap.size v' d ∧ Below w.heap.size w w' := by
  obtain ⟨ve, vn, rfl, hE, ys0, hmap, hN, hY⟩ := hv
  obtain ⟨Ae, ce, rfl⟩ := own_slice hE
  obtain ⟨n, hn⟩ : ∃ n, n = d.notes.length := ⟨_, rfl⟩
  have hn8 : n ≤ 8 := by rw [hn]; exact hd.notes.1
  have he3 := hd.eras.1
  have HE := Lib.hid hE
  rw [← hn] at hN
  obtain ⟨An, cn, rfl⟩ := own_slice hN
  have HN := Lib.hid hN
  have HY := Lib.hid hY
  have HM := Lib.hid hmap
  have HNN := Lib.hid hn
  obtain ⟨ne, hne⟩ : ∃ ne, ne = d.eras.length := ⟨_, rfl⟩
  obtain ⟨kI, hi, hz0, hz1, hz2⟩ := info_parts info_napi
  have HQ := Lib.hid hi
  have HQ0 := Lib.hid hz0
  have HQ1 := Lib.hid hz1
  have HQ2 := Lib.hid hz2
  clear hE hN hY hmap hi hz0 hz1 hz2
  rw [← hne]
  have HNE := Lib.hid hne
  clear hne hn
  go_enter Try.func21, Try.ntmps21
  go_wp2_with fail
  obtain ⟨W, hW⟩ : ∃ W, W = (w.alloc (.cells #[.int .i64 d.stones, .slice Ae ne ce, .slice An n cn] 28)).alloc (.cells zeroD.toArray 28) := ⟨_, rfl⟩
  have b0 : Below w.heap.size w W := by rw [hW]; exact ((Below.refl _ w).alloc (Nat.le_refl _) _).alloc (by simp) _
  have k0 : Blok W w.heap.size 28 [.int .i64 d.stones, .slice Ae ne ce, .slice An n cn] := by rw [hW]; exact (Blok.new w _ _).alloc _
  have k1 : Blok W (w.heap.size + 1) 28 zeroD := by
    rw [hW]
    have := Blok.new (w.alloc (.cells #[.int .i64 d.stones, .slice Ae ne ce, .slice An n cn] 28)) 28 zeroD
    simpa only [World.size_alloc] using this
  unfold zeroD at hW
  rw [← hW]
  clear hW
  refine (spansC_any d.eras (by omega) B (.slice Ae ne ce) W (by rw [HNE.out]; exact own_fx HE.out (Fx.of_all b0) (fun _ _ _ _ => trivial))).mono ?_
  rintro e w1 ⟨ve', rfl, hs, hb1⟩
  obtain ⟨Ae', ce', rfl⟩ := own_slice hs
  have q0 := k0.below hb1 k0.size
  have q1 := k1.below hb1 k1.size
  have c1 := q0.cell 1
  have c2 := q0.cell 2
  have f1 := q0.free 1
  have f2 := q0.free 2
  simp at c1 c2
  have hst : CpI w d 0 (.slice Ae' d.eras.length ce') (.slice none 0 0) [] ((w1.setCell ⟨w.heap.size, 1, none⟩ (.slice Ae' d.eras.length ce')).setCell ⟨w.heap.size, 2, none⟩ (.slice none 0 0)) :=
    ⟨(q0.put 1 _).put 2 _, (q1.far (by simp) _).far (by simp) _, own_far (own_far (hs.mono b0.size) (own_ne hs q0 (by decide)) _) (own_ne hs q0 (by decide)) _, rfl, World.ownsRow_nil _ _ _ _, by simp, ((b0.trans (hb1.mono b0.size)).setCell (p := ⟨w.heap.size, 1, none⟩) (Nat.le_refl _) _).setCell (p := ⟨w.heap.size, 2, none⟩) (Nat.le_refl _) _⟩
  have HST := Lib.hid hst
  have zz := q0.size
  clear hst hs hb1 q0 q1 b0 k0 k1
  go_wp2_with fail
  go_loopg [4] n (fun g i wr => ∃ (k : Nat) (vn : Value) (xs : List (Nt × Value)), i = .int .i64 (k : Nat) ∧ k + g = n ∧ CpI w d k (.slice Ae' d.eras.length ce') vn xs wr)
  case atStart => exact ⟨0, _, [], rfl, by omega, HST.out⟩
  case round =>
    clear HST
    obtain ⟨k, vn, xs, rfl, hkn, hcp⟩ := hrel
    have HC := Lib.hid hcp
    obtain ⟨Av, cv, rfl⟩ := own_slice hcp.on
    by_cases hlt : k < n
    · obtain ⟨p, hp⟩ : ∃ p, ys0[k]? = some p := ⟨_, List.getElem?_eq_getElem (by have := congrArg List.length HM.out; rw [List.length_map, ← HNN.out] at this; omega)⟩
      have hx : d.notes[k]? = some p.1 := by rw [← HM.out, List.getElem?_map, hp]; rfl
      obtain ⟨gn, rfl⟩ := own_addr HN.out (by omega)
      have hcell : ∀ i, i < 6 → wr.cell? ⟨gn, k * 6 + i, none⟩ = (ntL p.1 p.2)[i]? := fun i hi => by
        have hN' := own_fx HN.out (Fx.of_below (B := w.heap.size) hcp.below) (fun b _ hb _ => hb)
        rw [hN'.cellAt (k * 6 + i) (by omega)]
        exact cellsN_at ys0 k p i hp hi
      have hyo := HY.out p (List.mem_of_getElem? hp)
      obtain ⟨Ay, cy, hpy⟩ := own_slice hyo
      obtain ⟨x, hx1⟩ : ∃ x : Nt, x = p.1 := ⟨_, rfl⟩
      obtain ⟨ny, hny⟩ : ∃ ny, ny = x.years.length := ⟨_, rfl⟩
      rw [← hx1] at hcell hyo hx hpy
      rw [hpy, ← hny] at hcell
      rw [hpy, ← hny] at hyo
      have d0 := hcell 0 (by omega)
      have d1 := hcell 1 (by omega)
      have d2 := hcell 2 (by omega)
      have d3 := hcell 3 (by omega)
      have d4 := hcell 4 (by omega)
      have d5 := hcell 5 (by omega)
      simp [ntL] at d0 d1 d2 d3 d4 d5
      have hyl : ny ≤ 3 := by
        rw [hny]
        have ho := hd.notes.2 x (List.mem_of_getElem? hx)
        by_cases h1 : x.kind = 1
        · exact (ho.years h1).2.2.2.2.1
        · rw [(ho.span h1).1]; simp
      have HX := Lib.hid hx
      have HYO := Lib.hid (show w.ownsRow B 3 1 (.slice Ay ny cy) ny (intCells x.years) by have h := hyo; unfold IntsO at h; rw [← hny] at h; exact h)
      have HNY := Lib.hid hny
      clear hcell hp hx hx1 hpy hcp hyo hny
      go_wp2_with fail
      have ba : Below wr.heap.size wr (wr.alloc (.cells #[.int .i64 x.kind, .int .i64 x.stone, .int .i64 x.other, .slice Ay ny cy, .int .i64 x.lo, .int .i64 x.hi] 51)) := (Below.refl _ wr).alloc (Nat.le_refl _) _
      refine (ints_any x.years (by rw [← HNY.out]; omega) B (.slice Ay ny cy) _ (by unfold IntsO; rw [← HNY.out]; exact own_fx HYO.out (Fx.of_below (B := w.heap.size) (HC.out.below.trans (ba.mono HC.out.below.size))) (fun b _ hb _ => hb))).mono ?_
      rintro e w2 ⟨vy', rfl, hi2, hb2⟩
      obtain ⟨Ay', cy', rfl⟩ := own_slice hi2
      rw [← HNY.out] at hi2 ⊢
      have bx := (Blok.new wr 51 [.int .i64 x.kind, .int .i64 x.stone, .int .i64 x.other, .slice Ay ny cy, .int .i64 x.lo, .int .i64 x.hi]).below hb2 (by simp)
      have x3 := bx.cell 3
      have g3 := bx.free 3
      simp at x3
      have zx := bx.size
      have HBX := Lib.hid (bx.put 3 (.slice Ay' ny cy'))
      have hb12 : Below wr.heap.size wr w2 := ba.trans (hb2.mono ba.size)
      have HC2 := Lib.hid (HC.out.to (hb12.setCell (p := ⟨wr.heap.size, 3, none⟩) (Nat.le_refl _) (.slice Ay' ny cy')))
      have HI2 := Lib.hid (own_far hi2 (own_ne hi2 bx (by decide)) (.slice Ay' ny cy') (p := ⟨wr.heap.size, 3, none⟩))
      have hwr := HC.out.below.size
      clear d0 d1 d2 d3 d4 d5 ba hb2 hb12 bx hi2
      go_upto_region 8 with fail
      obtain ⟨U, hU⟩ : ∃ U, U = w2.setCell ⟨wr.heap.size, 3, none⟩ (.slice Ay' ny cy') := ⟨_, rfl⟩
      rw [← hU] at HBX HC2 HI2 ⊢
      have zU : w2.heap.size = U.heap.size := by rw [hU]; simp
      clear hU x3 g3
      have e0 := HBX.out.cell 0
      have e1 := HBX.out.cell 1
      have e2 := HBX.out.cell 2
      have e3 := HBX.out.cell 3
      have e4 := HBX.out.cell 4
      have e5 := HBX.out.cell 5
      simp at e0 e1 e2 e3 e4 e5
      have t2 : U.cell? ⟨w.heap.size, 2, none⟩ = some (.slice Av k cv) := HC2.out.k0.cell 2
      have zu := HBX.out.size
      have HCA := Lib.hid (HC2.out.to ((Below.refl _ U).alloc (Nat.le_refl _) (.cells #[.int .i64 x.kind, .int .i64 x.stone, .int .i64 x.other, .slice Ay' ny cy', .int .i64 x.lo, .int .i64 x.hi] 51)))
      have HIA := Lib.hid (HI2.out.alloc (.cells #[.int .i64 x.kind, .int .i64 x.stone, .int .i64 x.other, .slice Ay' ny cy', .int .i64 x.lo, .int .i64 x.hi] 51))
      have hCz : w.heap.size ≤ U.heap.size := HC2.out.below.size
      go_wp2_with (at_builtin; refine wpList_append_lies _ rfl _ _ 26 rfl w.heap.size 51 kI _ 6 64 Try.underlying26 HQ.out HQ0.out HQ1.out HQ2.out rfl (by decide) (.slice Av k cv) k (cellsN xs) (by rfl) HCA.out.on ⟨U.heap.size, 0, none⟩ 1 1 [.int .i64 x.kind, .int .i64 x.stone, .int .i64 x.other, .slice Ay' ny cy', .int .i64 x.lo, .int .i64 x.hi] (by rfl) (by rfl) (World.news_of_block (cs := #[.int .i64 x.kind, .int .i64 x.stone, .int .i64 x.other, .slice Ay' ny cy', .int .i64 x.lo, .int .i64 x.hi]) (t := 51) (fr := (0, 0)) (heap_alloc_new U _)) (by simp [Value.oneCell']) (by omega) (by unfold maxLen; omega) (by omega) (by simp; omega) _ rfl ?_; intro g8 c8 w8 hown8 hgrow8 hat8 hlt8; have hk8 := HCA.out.k0.grown hgrow8 (own_ne HCA.out.on HCA.out.k0 (by decide)); have q8 : w8.cell? ⟨w.heap.size, 2, none⟩ = some (.slice Av k cv) := hk8.cell 2; have f8 := hk8.free 2; have HO8 := Lib.hid hown8; have HG8 := Lib.hid hgrow8; clear hown8 hgrow8 hat8 hk8)
      go_roundg (gk - 1)
      case measure => omega
      case rel => exact ⟨k + 1, _, xs ++ [(x, .slice Ay' ny cy')], by go_num, by omega, HCA.out.snoc (x := x) (v := .slice Ay' ny cy') HX.out (by
        have h := HIA.out.mono (base' := w.heap.size) (by simp; omega)
        exact h) HG8.out HO8.out rfl⟩
    · obtain rfl : k = n := by omega
      have e0 : wr.cell? ⟨w.heap.size, 0, none⟩ = some (.int .i64 d.stones) := hcp.k0.cell 0
      have e1 : wr.cell? ⟨w.heap.size, 1, none⟩ = some (.slice Ae' d.eras.length ce') := hcp.k0.cell 1
      have e2 : wr.cell? ⟨w.heap.size, 2, none⟩ = some (.slice Av k cv) := hcp.k0.cell 2
      have r0 : wr.cell? ⟨w.heap.size + 1, 0, none⟩ = some (.int .i64 0) := hcp.k1.cell 0
      have r1 : wr.cell? ⟨w.heap.size + 1, 1, none⟩ = some (.slice none 0 0) := hcp.k1.cell 1
      have r2 : wr.cell? ⟨w.heap.size + 1, 2, none⟩ = some (.slice none 0 0) := hcp.k1.cell 2
      have g0 := hcp.k1.free 0
      have g1 := hcp.k1.free 1
      have g2 := hcp.k1.free 2
      clear hcp
      go_wp2_with fail
      have hC := HC.out
      refine bodyPost_ret (v := .agg #[.int .i64 d.stones, .slice Ae' d.eras.length ce', .slice Av k cv]) ?_ rfl ⟨_, rfl, ⟨_, _, rfl, ?_, xs, ?_, ?_, fun p hp => ?_⟩, ((hC.below.setCell (p := ⟨w.heap.size + 1, 0, none⟩) (Nat.le_succ _) _).setCell (p := ⟨w.heap.size + 1, 1, none⟩) (Nat.le_succ _) _).setCell (p := ⟨w.heap.size + 1, 2, none⟩) (Nat.le_succ _) _⟩
      · exact results_cell_row Try.results21 _ _ (w.heap.size + 1) 28 _ (0, 0) _ rfl (((hC.k1.put 0 (.int .i64 d.stones)).put 1 (.slice Ae' d.eras.length ce')).put 2 (.slice Av k cv)) Try.underlying28 rfl (by kernel_rfl)
      · exact own_far (own_far (own_far hC.oe (own_ne hC.oe hC.k1 (by decide)) _) (own_ne hC.oe hC.k1 (by decide)) _) (own_ne hC.oe hC.k1 (by decide)) _
      · rw [hC.map, HNN.out]
        exact List.take_length
      · rw [← HNN.out]
        exact own_far (own_far (own_far hC.on (own_ne hC.on hC.k1 (by decide)) _) (own_ne hC.on hC.k1 (by decide)) _) (own_ne hC.on hC.k1 (by decide)) _
      · have hy := hC.years p hp
        exact own_far (own_far (own_far hy (own_ne hy hC.k1 (by decide)) _) (own_ne hy hC.k1 (by decide)) _) (own_ne hy hC.k1 (by decide)) _
end
end Go.Proofs.Ytcbdcdpoackplaa
