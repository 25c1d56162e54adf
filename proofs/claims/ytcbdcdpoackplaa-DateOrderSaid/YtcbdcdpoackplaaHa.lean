/- DateOrder: notes in another order, and verdicts; a note that is stored into a row of notes. -/
import Derived.Test.YtcbdcdpoackplaaGl
import Derived.Test.YtcbdcdpoackplaaGg
namespace Go.Proofs.Ytcbdcdpoackplaa
open Go.RowKit Dt
namespace Dt
/-- Notes, of which the first k are those that an order names. -/
structure Shuf (l : List Nt) (ord : List Nat) (k : Nat) (l' : List Nt) : Prop where
  len : l'.length = l.length
  done : ∀ i j, i < k → ord[i]? = some j → l'[i]? = l[j]?
  rest : ∀ i, k ≤ i → l'[i]? = l[i]?
theorem Shuf.start (l : List Nt) (ord : List Nat) : Shuf l ord 0 l := ⟨rfl, fun i j h => absurd h (by omega), fun _ _ => rfl⟩
theorem Shuf.step {l l' : List Nt} {ord : List Nat} {k j : Nat} {x : Nt} (h : Shuf l ord k l') (hk : k < l.length) (ho : ord[k]? = some j) (hx : l[j]? = some x) : Shuf l ord (k + 1) (l'.set k x) := by
  refine ⟨by rw [List.length_set, h.len], fun i q hi hq => ?_, fun i hi => ?_⟩
  · by_cases e : k = i
    · subst e
      rw [ho] at hq
      injection hq with hq
      subst hq
      rw [List.getElem?_set_self (by rw [h.len]; exact hk), hx]
    · rw [List.getElem?_set_ne e]
      exact h.done i q (by omega) hq
  · rw [List.getElem?_set_ne (by omega)]
    exact h.rest i (by omega)
theorem Shuf.mem {l l' : List Nt} {ord : List Nat} (h : Shuf l ord l.length l') (hp : ord.Perm (List.range l.length)) (n : Nt) : n ∈ l' ↔ n ∈ l := by
  have hol := hp.length_eq
  simp only [List.length_range] at hol
  constructor
  · intro hn
    obtain ⟨i, hi⟩ := List.getElem?_of_mem hn
    have hil := (List.getElem?_eq_some_iff.1 hi).1
    have hll := h.len
    obtain ⟨j, hj⟩ : ∃ j, ord[i]? = some j := ⟨_, List.getElem?_eq_getElem (by omega)⟩
    rw [h.done i j (by omega) hj] at hi
    exact List.mem_of_getElem? hi
  · intro hn
    obtain ⟨j, hj⟩ := List.getElem?_of_mem hn
    have hjl := (List.getElem?_eq_some_iff.1 hj).1
    have hjo : j ∈ ord := hp.mem_iff.2 (List.mem_range.2 hjl)
    obtain ⟨i, hi⟩ := List.getElem?_of_mem hjo
    have hil := (List.getElem?_eq_some_iff.1 hi).1
    rw [← h.done i j (by omega) hi] at hj
    exact List.mem_of_getElem? hj
/-- Another dating with the same truths. -/
structure SameT (d x : Dat) : Prop where
  ok : x.Ok
  is : ∀ y, x.Is y ↔ d.Is y
  stones : x.stones = d.stones
theorem samet_mk {d : Dat} {l' : List Nt} (h : d.Ok) (hl : l'.length = d.notes.length) (hm : ∀ n, n ∈ l' ↔ n ∈ d.notes) : SameT d ⟨d.stones, d.eras, l'⟩ :=
  ⟨⟨h.stones, h.eras, ⟨by show l'.length ≤ 8; rw [hl]; exact h.notes.1, fun n hn => nt_ok (h.notes.2 n ((hm n).1 hn)) rfl rfl⟩⟩,
   fun y => ⟨fun hy => ⟨hy.zero, hy.base, fun n hn => hy.notes n ((hm n).2 hn)⟩, fun hy => ⟨hy.zero, hy.base, fun n hn => hy.notes n ((hm n).1 hn)⟩⟩, rfl⟩
section
variable {d x : Dat}
theorem SameT.may (h : SameT d x) (hm : d.may) : x.may := hm.imp fun y hy => (h.is y).2 hy
theorem SameT.span (h : SameT d x) (hd : d.Ok) (hm : d.may) (p : Nat) (hp : p < 10) : x.span p = d.span p := by
  have h1 := less_span hd h.ok (h.may hm) (fun y hy => (h.is y).1 hy) p hp
  have h2 := less_span h.ok hd hm (fun y hy => (h.is y).2 hy) p hp
  exact Prod.ext (by omega) (by omega)
theorem SameT.later (h : SameT d x) (hd : d.Ok) (hm : d.may) (a b : Nat) (ha : a < 10) (hb : b < 10) : x.laterV a b = d.laterV a b := by
  have h1 := less_verdict (laterV_spec hd hm a b ha hb) (laterV_spec h.ok (h.may hm) a b ha hb) (fun y hy => (h.is y).1 hy)
  have h2 := less_verdict (laterV_spec h.ok (h.may hm) a b ha hb) (laterV_spec hd hm a b ha hb) (fun y hy => (h.is y).2 hy)
  omega
theorem later_back (hd : d.Ok) (hm : d.may) {a b : Nat} (ha : a < 10) (hb : b < 10) (h : d.laterV a b = 1) : d.laterV b a = 2 :=
  (laterV_spec hd hm b a hb ha).no.2 fun y hy => by
    have := (laterV_spec hd hm a b ha hb).yes.1 h y hy
    omega
theorem later_self (hd : d.Ok) (hm : d.may) {a : Nat} (ha : a < 10) : d.laterV a a = 2 :=
  (laterV_spec hd hm a a ha ha).no.2 fun y _ => by omega
theorem later_trans (hd : d.Ok) (hm : d.may) {a b c : Nat} (ha : a < 10) (hb : b < 10) (hc : c < 10) (h1 : d.laterV a b = 1) (h2 : d.laterV b c = 1) : d.laterV a c = 1 :=
  (laterV_spec hd hm a c ha hc).yes.2 fun y hy => by
    have k1 := (laterV_spec hd hm a b ha hb).yes.1 h1 y hy
    have k2 := (laterV_spec hd hm b c hb hc).yes.1 h2 y hy
    omega
/-- The verdicts on a stone and the first so many ones. -/
def verd (d : Dat) (i n : Nat) : List Int := (List.range n).map fun k => (d.laterV (1 + i) (1 + k) : Int)
theorem verd_len (d : Dat) (i n : Nat) : (verd d i n).length = n := by simp [verd]
theorem verd_succ (d : Dat) (i n : Nat) : verd d i (n + 1) = verd d i n ++ [(d.laterV (1 + i) (1 + n) : Int)] := by simp [verd, List.range_succ]
theorem verd_at (d : Dat) (i n k : Nat) (h : k < n) : (verd d i n)[k]? = some (d.laterV (1 + i) (1 + k) : Int) := by simp [verd, h]
end
end Dt
theorem samet_list {d x : Dat} (h : SameT d x) (hd : d.Ok) (hm : d.may) (hs : d.stones ≤ 6) : spanList x 1 x.stones = spanList d 1 d.stones := by
  unfold spanList
  rw [h.stones]
  apply List.map_congr_left
  intro i hi
  have := List.mem_range.1 hi
  exact h.span hd hm (1 + i) (by omega)
theorem cellsN_cons (a : Nt × Value) (xs : List (Nt × Value)) : cellsN (a :: xs) = .int .i64 a.1.kind :: .int .i64 a.1.stone :: .int .i64 a.1.other :: a.2 :: .int .i64 a.1.lo :: .int .i64 a.1.hi :: cellsN xs := by simp [cellsN, ntL]
theorem cellsN_set : ∀ (xs : List (Nt × Value)) (k : Nat) (q : Nt) (vq : Value), k < xs.length →
    ((((((cellsN xs).set (k * 6) (.int .i64 q.kind)).set (k * 6 + 1) (.int .i64 q.stone)).set (k * 6 + 2) (.int .i64 q.other)).set (k * 6 + 3) vq).set (k * 6 + 4) (.int .i64 q.lo)).set (k * 6 + 5) (.int .i64 q.hi) = cellsN (xs.set k (q, vq))
  | [], _, _, _, h => by simp at h
  | a :: xs, 0, q, vq, _ => by simp [cellsN_cons]
  | a :: xs, k + 1, q, vq, h => by
    have ih := cellsN_set xs k q vq (by simpa using h)
    have e : ∀ i, (k + 1) * 6 + i = (k * 6 + i) + 1 + 1 + 1 + 1 + 1 + 1 := fun i => by omega
    have e0 : (k + 1) * 6 = k * 6 + 1 + 1 + 1 + 1 + 1 + 1 := by omega
    rw [e 1, e 2, e 3, e 4, e 5, e0, cellsN_cons]
    simp only [List.set_cons_succ]
    rw [ih]
    simp [cellsN_cons]
section
variable {w W : World} {g bd : Nat} {d : Dat} {ys fs : List Int} {ve vn vy vf : Value} {K : List OBlok} {L : List ORow} {l : List Nt}
/-- A note stored into a row of notes that is none of the dating's. -/
theorem LG.noteSet {gx c k : Nat} {q : Nt} {vq : Value} (h : LG w g bd d ys fs ve vn vy vf K L [(.slice (some ⟨gx, 0, none⟩) l.length c, l)] [] W) (hk : k < l.length) (hq : IntsO W w.heap.size vq q.years)
    (hne : vn.ownBlock ≠ some gx) (hK : ∀ p ∈ K, p.t ≠ 51) (hL : ∀ r ∈ L, r.e ≠ 51) :
    LG w g bd d ys fs ve vn vy vf K L [(.slice (some ⟨gx, 0, none⟩) (l.set k q).length c, l.set k q)] [] ((((((W.setCell ⟨gx, k * 6, none⟩ (.int .i64 q.kind)).setCell ⟨gx, k * 6 + 1, none⟩ (.int .i64 q.stone)).setCell ⟨gx, k * 6 + 2, none⟩ (.int .i64 q.other)).setCell ⟨gx, k * 6 + 3, none⟩ vq).setCell ⟨gx, k * 6 + 4, none⟩ (.int .i64 q.lo)).setCell ⟨gx, k * 6 + 5, none⟩ (.int .i64 q.hi)) := by
  obtain ⟨xs, hxs, ho, hyr⟩ := h.notes 0 rfl
  have ho : W.ownsRow w.heap.size 51 6 (.slice (some ⟨gx, 0, none⟩) l.length c) l.length (cellsN xs) := ho
  have hxs : xs.map Prod.fst = l := hxs
  have hgx : w.heap.size ≤ gx := (ho.lt gx rfl).1
  obtain ⟨cs, hb⟩ : ∃ cs, Blok W gx 51 cs := by
    rcases ho.2 with ⟨e, _⟩ | ⟨r, cap, cur, e, _, e3, _⟩
    · cases e
    · injection e with e
      injection e with e
      injection e with e
      subst e
      exact ⟨cur.toList, by unfold Blok; rw [e3]⟩
  have hug : g ≠ gx := h.lc.urn.ne' hb (by decide)
  obtain ⟨W', hW'⟩ : ∃ W', W' = ((((((W.setCell ⟨gx, k * 6, none⟩ (.int .i64 q.kind)).setCell ⟨gx, k * 6 + 1, none⟩ (.int .i64 q.stone)).setCell ⟨gx, k * 6 + 2, none⟩ (.int .i64 q.other)).setCell ⟨gx, k * 6 + 3, none⟩ vq).setCell ⟨gx, k * 6 + 4, none⟩ (.int .i64 q.lo)).setCell ⟨gx, k * 6 + 5, none⟩ (.int .i64 q.hi)) := ⟨_, rfl⟩
  have hfx : Fx (fun i _ => i ≠ gx) W W' := by
    rw [hW']
    exact (((((Fx.of_put W ⟨gx, k * 6, none⟩ _).trans (Fx.of_put _ ⟨gx, k * 6 + 1, none⟩ _)).trans (Fx.of_put _ ⟨gx, k * 6 + 2, none⟩ _)).trans (Fx.of_put _ ⟨gx, k * 6 + 3, none⟩ _)).trans (Fx.of_put _ ⟨gx, k * 6 + 4, none⟩ _)).trans (Fx.of_put _ ⟨gx, k * 6 + 5, none⟩ _)
  have hbl : Below w.heap.size w W' := by
    rw [hW']
    exact (((((h.lc.below.setCell (p := ⟨gx, k * 6, none⟩) hgx _).setCell (p := ⟨gx, k * 6 + 1, none⟩) hgx _).setCell (p := ⟨gx, k * 6 + 2, none⟩) hgx _).setCell (p := ⟨gx, k * 6 + 3, none⟩) hgx _).setCell (p := ⟨gx, k * 6 + 4, none⟩) hgx _).setCell (p := ⟨gx, k * 6 + 5, none⟩) hgx _
  have hnew : W'.ownsRow w.heap.size 51 6 (.slice (some ⟨gx, 0, none⟩) l.length c) l.length (cellsN (xs.set k (q, vq))) := by
    have := ((((((ho.stored (k * 6) (.int .i64 q.kind)).1.stored (k * 6 + 1) (.int .i64 q.stone)).1.stored (k * 6 + 2) (.int .i64 q.other)).1.stored (k * 6 + 3) vq).1.stored (k * 6 + 4) (.int .i64 q.lo)).1.stored (k * 6 + 5) (.int .i64 q.hi)).1
    rw [cellsN_set xs k q vq (by rw [← hxs, List.length_map] at hk; exact hk)] at this
    rw [hW']
    exact this
  rw [← hW']
  clear hW'
  have hT : ∀ {t : TypeId} {b : Nat} {cs' : List Value}, Blok W b t cs' → t ≠ 51 → b ≠ gx := fun h1 h2 => blok_ne h1 hb h2
  have hO : ∀ {base size n : Nat} {e : TypeId} {v : Value} {xs : List Value}, W.ownsRow base e size v n xs → v.ownBlock ≠ some gx → W'.ownsRow base e size v n xs := fun h1 h2 => own_fx h1 hfx fun b' _ _ hb' e => h2 (by rw [hb', e])
  have hO' : ∀ {base size n : Nat} {e : TypeId} {v : Value} {xs : List Value}, W.ownsRow base e size v n xs → e ≠ 51 → W'.ownsRow base e size v n xs := fun h1 h2 => hO h1 (own_ne h1 hb h2)
  have hu : UrnAt W' g := by
    obtain ⟨p, r, hu⟩ := h.lc.urn
    exact ⟨p, r, hfx _ _ _ hug hu⟩
  refine ⟨⟨hu, h.lc.hg, hbl, hfx _ _ _ (hT h.lc.kd (by decide)) h.lc.kd, hfx _ _ _ (hT h.lc.kw (by decide)) h.lc.kw, ?_, hO' h.lc.oy (by decide), hO' h.lc.of (by decide), h.lc.zd⟩,
    fun p hp => ⟨(h.bl p hp).1, (h.bl p hp).2.1, hfx _ _ _ (hT (h.bl p hp).2.2 (hK p hp)) (h.bl p hp).2.2⟩, fun r hr => ⟨(h.ow r hr).1, hO' (h.ow r hr).2 (hL r hr)⟩, fun p hp => ?_, by simp⟩
  · obtain ⟨ve', vn', e, h1, xs', h2, h3, h4⟩ := h.lc.dat
    injection e with e
    simp at e
    obtain ⟨rfl, rfl⟩ := e
    exact ⟨_, _, rfl, hO' h1 (by decide), xs', h2, hO h3 hne, fun p hp => hO' (h4 p hp) (by decide)⟩
  · rw [List.mem_singleton.1 hp]
    refine ⟨xs.set k (q, vq), by rw [List.map_set, hxs], ?_, fun p hp => ?_⟩
    · show W'.ownsRow w.heap.size 51 6 (.slice (some ⟨gx, 0, none⟩) (l.set k q).length c) (l.set k q).length (cellsN (xs.set k (q, vq)))
      rw [List.length_set]
      exact hnew
    · rcases List.mem_or_eq_of_mem_set hp with hp | hp
      · exact hO' (hyr p hp) (by decide)
      · rw [hp]
        exact hO' hq (by decide)
/-- Eras and notes of one's own are a dating; other rows are let go. -/
theorem LG.mkD2 {va vb : Value} {n st : Nat} {es : List (Int × Int)} (i : Nat) (h : LG w g bd d ys fs ve vn vy vf K L [(vb, l)] [] W) (hr : L[i]? = some ⟨39, 2, va, n, flatS es⟩) (hn : n = es.length) :
    LG w g bd d ys fs ve vn vy vf K [] [] [(.agg #[.int .i64 st, va, vb], ⟨st, es, l⟩)] W :=
  ⟨h.lc, h.bl, by simp, by simp, fun p hp => by
    rw [List.mem_singleton.1 hp]
    exact ⟨va, vb, rfl, by rw [SpansO, ← hn]; exact h.row i hr, h.no _ (List.mem_singleton.2 rfl)⟩⟩
end
/-- Rows of verdicts, made so far. -/
structure Mtx (d : Dat) (k : Nat) (vv : Value) (rows : List Value) (ws wr : World) : Prop where
  below : Below ws.heap.size ws wr
  len : rows.length = k
  own : wr.ownsRow ws.heap.size 22 1 vv k rows
  row : ∀ (i : Nat) (v : Value), rows[i]? = some v → wr.ownsRow ws.heap.size 3 1 v d.stones (intCells (verd d i d.stones))
theorem Mtx.start (d : Dat) (ws : World) : Mtx d 0 (.slice none 0 0) [] ws ws := ⟨Below.refl _ _, rfl, World.ownsRow_nil _ _ _ _, by simp⟩
theorem Mtx.to {d : Dat} {k : Nat} {vv : Value} {rows : List Value} {ws wr W : World} (h : Mtx d k vv rows ws wr) (hb : Below wr.heap.size wr W) : Mtx d k vv rows ws W :=
  ⟨h.below.trans (hb.mono h.below.size), h.len, own_fx h.own (Fx.of_all hb) (fun _ _ _ _ => trivial), fun i v hv => own_fx (h.row i v hv) (Fx.of_all hb) (fun _ _ _ _ => trivial)⟩
theorem Mtx.snoc {d : Dat} {k : Nat} {vv vv' u : Value} {rows : List Value} {ws wr W : World} (h : Mtx d k vv rows ws wr) (hu : wr.ownsRow ws.heap.size 3 1 u d.stones (intCells (verd d k d.stones))) (hg : wr.grownBy W vv.ownBlock) (ho : W.ownsRow ws.heap.size 22 1 vv' (k + 1) (rows ++ [u])) :
    Mtx d (k + 1) vv' (rows ++ [u]) ws W := by
  have hO : ∀ {base size n : Nat} {e : TypeId} {v : Value} {xs : List Value}, e ≠ 22 → wr.ownsRow base e size v n xs → W.ownsRow base e size v n xs := fun he h' => own_fx h' (Fx.of_grown hg) (fun b _ _ hb' => own_disj h' h.own he b hb')
  refine ⟨h.below.grown hg h.below.size (fun j hj => (h.own.lt j hj).1), by rw [List.length_append, h.len]; rfl, ho, fun i v hv => ?_⟩
  by_cases hi : i < k
  · rw [List.getElem?_append_left (by rw [h.len]; exact hi)] at hv
    exact hO (by decide) (h.row i v hv)
  · by_cases e : i = k
    · subst e
      rw [List.getElem?_append_right (by rw [h.len]; omega), h.len, Nat.sub_self] at hv
      injection hv with hv
      subst hv
      exact hO (by decide) hu
    · rw [List.getElem?_eq_none (by rw [List.length_append, h.len]; simp; omega)] at hv
      cases hv
/-- What the rows say, cell by cell. -/
theorem Mtx.get {d : Dat} {vv : Value} {rows : List Value} {ws wr : World} (h : Mtx d d.stones vv rows ws wr) (hs : 0 < d.stones) : ∃ gv cv, vv = .slice (some ⟨gv, 0, none⟩) d.stones cv ∧
    ∀ i, i < d.stones → ∃ gi ci, wr.cell? ⟨gv, i, none⟩ = some (.slice (some ⟨gi, 0, none⟩) d.stones ci) ∧ ∀ k, k < d.stones → wr.cell? ⟨gi, k, none⟩ = some (.int .i64 (d.laterV (1 + i) (1 + k))) := by
  obtain ⟨Av, cv, rfl⟩ := own_slice h.own
  obtain ⟨gv, rfl⟩ := own_addr h.own hs
  refine ⟨gv, cv, rfl, fun i hi => ?_⟩
  obtain ⟨v, hv⟩ : ∃ v, rows[i]? = some v := ⟨_, List.getElem?_eq_getElem (by rw [h.len]; exact hi)⟩
  have ho := h.row i v hv
  obtain ⟨Ai, ci, rfl⟩ := own_slice ho
  obtain ⟨gi, rfl⟩ := own_addr ho hs
  refine ⟨gi, ci, (h.own.cellAt i (by omega)).trans hv, fun k hk => ?_⟩
  rw [ho.cellAt k (by omega)]
  simp [intCells, verd, hk]
end Go.Proofs.Ytcbdcdpoackplaa
