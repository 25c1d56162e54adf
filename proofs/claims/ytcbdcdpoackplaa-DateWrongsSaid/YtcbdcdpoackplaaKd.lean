/- DateWrongs, walked. -/
import Derived.Test.YtcbdcdpoackplaaKc
namespace Go.Proofs.Ytcbdcdpoackplaa
open Go.RowKit Dt

theorem cellsN_cons3 (a : Nt × Value) (xs : List (Nt × Value)) : cellsN (a :: xs) = .int .i64 a.1.kind :: .int .i64 a.1.stone :: .int .i64 a.1.other :: a.2 :: .int .i64 a.1.lo :: .int .i64 a.1.hi :: cellsN xs := by simp [cellsN, ntL]
theorem cellsN_lohi2 : ∀ (xs : List (Nt × Value)) (k : Nat) (p : Nt × Value) (a b : Int), xs[k]? = some p →
    ((cellsN xs).set (k * 6 + 4) (.int .i64 a)).set (k * 6 + 5) (.int .i64 b) = cellsN (xs.set k (⟨p.1.kind, p.1.stone, p.1.other, p.1.years, a, b⟩, p.2))
  | [], _, _, _, _, h => by simp at h
  | x :: xs, 0, p, a, b, h => by
    obtain rfl : x = p := by simpa using h
    simp [cellsN_cons3]
  | x :: xs, k + 1, p, a, b, h => by
    have ih := cellsN_lohi2 xs k p a b (by simpa using h)
    rw [show (k + 1) * 6 + 4 = k * 6 + 4 + 1 + 1 + 1 + 1 + 1 + 1 by omega, show (k + 1) * 6 + 5 = k * 6 + 5 + 1 + 1 + 1 + 1 + 1 + 1 by omega, cellsN_cons3]
    simp only [List.set_cons_succ]
    rw [ih]
    simp [cellsN_cons3]
theorem cellsN_year2 : ∀ (xs : List (Nt × Value)) (k : Nat) (p : Nt × Value) (l : List Int) (u : Value), xs[k]? = some p →
    (cellsN xs).set (k * 6 + 3) u = cellsN (xs.set k (⟨p.1.kind, p.1.stone, p.1.other, l, p.1.lo, p.1.hi⟩, u))
  | [], _, _, _, _, h => by simp at h
  | x :: xs, 0, p, l, u, h => by
    obtain rfl : x = p := by simpa using h
    simp [cellsN_cons3]
  | x :: xs, k + 1, p, l, u, h => by
    have ih := cellsN_year2 xs k p l u (by simpa using h)
    rw [show (k + 1) * 6 + 3 = k * 6 + 3 + 1 + 1 + 1 + 1 + 1 + 1 by omega, cellsN_cons3]
    simp only [List.set_cons_succ]
    rw [ih]
    simp [cellsN_cons3]
/-- A dating with another note at a place. -/
def setN (d : Dat) (i : Nat) (x : Nt) : Dat := ⟨d.stones, d.eras, d.notes.set i x⟩
section
variable {w W : World} {g bd : Nat} {d : Dat} {ys fs : List Int} {ve vy vf : Value}
theorem pair_at {xs : List (Nt × Value)} {l : List Nt} {i : Nat} {n : Nt} (h : xs.map Prod.fst = l) (hn : l[i]? = some n) : ∃ p, xs[i]? = some p ∧ p.1 = n := by
  rw [← h, List.getElem?_map] at hn
  cases hq : xs[i]? with
  | none => rw [hq] at hn; simp at hn
  | some p => rw [hq] at hn; simp at hn; exact ⟨p, rfl, hn⟩
theorem row_blok {w : World} {B e size n g c : Nat} {xs : List Value} (h : w.ownsRow B e size (.slice (some ⟨g, 0, none⟩) n c) n xs) : ∃ cs, Blok w g e cs := by
  rcases h.2 with ⟨e, _⟩ | ⟨r, cap, cur, e, _, e3, _⟩
  · cases e
  · injection e with e
    injection e with e
    injection e with e
    subst e
    exact ⟨cur.toList, by unfold Blok; rw [e3]⟩
theorem LC.nrow {gn nn c : Nat} (h : LC w g bd d ys fs ve (.slice (some ⟨gn, 0, none⟩) nn c) vy vf W) : ∃ xs : List (Nt × Value), xs.map Prod.fst = d.notes ∧ nn = d.notes.length ∧ W.ownsRow w.heap.size 51 6 (.slice (some ⟨gn, 0, none⟩) d.notes.length c) d.notes.length (cellsN xs) ∧ (∀ p ∈ xs, IntsO W w.heap.size p.2 p.1.years) ∧ SpansO W w.heap.size ve d.eras := by
  obtain ⟨ve', vn', e, h1, xs, h2, h3, h4⟩ := h.dat
  injection e with e
  simp at e
  obtain ⟨rfl, rfl⟩ := e
  obtain ⟨A, c', e2⟩ := own_slice h3
  injection e2 with e2 e3 e4
  subst e3
  exact ⟨xs, h2, rfl, h3, h4, h1⟩
/-- A note's span is stored. -/
theorem LC.lohi {gn nn c i : Nat} {a b : Int} {n : Nt} (h : LC w g bd d ys fs ve (.slice (some ⟨gn, 0, none⟩) nn c) vy vf W) (hn : d.notes[i]? = some n) :
    LC w g bd (setN d i ⟨n.kind, n.stone, n.other, n.years, a, b⟩) ys fs ve (.slice (some ⟨gn, 0, none⟩) nn c) vy vf ((W.setCell ⟨gn, i * 6 + 4, none⟩ (.int .i64 a)).setCell ⟨gn, i * 6 + 5, none⟩ (.int .i64 b)) := by
  obtain ⟨xs, hxs, rfl, hon, hyr, hE⟩ := h.nrow
  obtain ⟨p, hp, rfl⟩ := pair_at hxs hn
  obtain ⟨cs, hb⟩ := row_blok hon
  have hgx := (hon.lt gn rfl).1
  have hT : ∀ {t : TypeId} {b : Nat} {cs' : List Value}, Blok W b t cs' → t ≠ 51 → b ≠ gn := fun h1 h2 => blok_ne h1 hb h2
  have hug : g ≠ gn := h.urn.ne' hb (by decide)
  have hO' : ∀ {base size n : Nat} {e : TypeId} {v : Value} {xs : List Value}, W.ownsRow base e size v n xs → e ≠ 51 → ((W.setCell ⟨gn, i * 6 + 4, none⟩ (.int .i64 a)).setCell ⟨gn, i * 6 + 5, none⟩ (.int .i64 b)).ownsRow base e size v n xs := fun h1 h2 => by
    have hn := own_ne h1 hb h2
    exact own_far (own_far h1 hn _) hn _
  refine ⟨(h.urn.far hug _).far hug _, h.hg, (h.below.setCell (p := ⟨gn, i * 6 + 4, none⟩) hgx _).setCell (p := ⟨gn, i * 6 + 5, none⟩) hgx _, (h.kd.far (hT h.kd (by decide)) _).far (hT h.kd (by decide)) _, (h.kw.far (hT h.kw (by decide)) _).far (hT h.kw (by decide)) _,
    ⟨_, _, rfl, hO' hE (by decide), xs.set i (⟨p.1.kind, p.1.stone, p.1.other, p.1.years, a, b⟩, p.2), by rw [List.map_set, hxs]; rfl, ?_, fun q hq => ?_⟩, hO' h.oy (by decide), hO' h.of (by decide), h.zd⟩
  · have := ((hon.stored (i * 6 + 4) (.int .i64 a)).1.stored (i * 6 + 5) (.int .i64 b)).1
    rw [cellsN_lohi2 xs i p a b hp] at this
    show World.ownsRow _ w.heap.size 51 6 (.slice (some ⟨gn, 0, none⟩) d.notes.length c) (d.notes.set i _).length _
    rw [List.length_set]
    exact this
  · rcases List.mem_or_eq_of_mem_set hq with hq | rfl
    · exact hO' (hyr q hq) (by decide)
    · exact hO' (hyr p (List.mem_of_getElem? hp)) (by decide)
/-- A note's years are another row, of one year. -/
theorem LC.year {gn nn c i : Nat} {y : Int} {n : Nt} (h : LC w g bd d ys fs ve (.slice (some ⟨gn, 0, none⟩) nn c) vy vf W) (hn : d.notes[i]? = some n) :
    LC w g bd (setN d i ⟨n.kind, n.stone, n.other, [y], n.lo, n.hi⟩) ys fs ve (.slice (some ⟨gn, 0, none⟩) nn c) vy vf ((W.setCell ⟨gn, i * 6 + 3, none⟩ (.slice (some ⟨W.heap.size, 0, none⟩) 1 1)).alloc (.cells #[.int .i64 y] 3)) := by
  obtain ⟨xs, hxs, rfl, hon, hyr, hE⟩ := h.nrow
  obtain ⟨p, hp, rfl⟩ := pair_at hxs hn
  obtain ⟨cs, hb⟩ := row_blok hon
  have hgx := (hon.lt gn rfl).1
  have hT : ∀ {t : TypeId} {b : Nat} {cs' : List Value}, Blok W b t cs' → t ≠ 51 → b ≠ gn := fun h1 h2 => blok_ne h1 hb h2
  have hug : g ≠ gn := h.urn.ne' hb (by decide)
  have hO' : ∀ {base size n : Nat} {e : TypeId} {v : Value} {xs : List Value}, W.ownsRow base e size v n xs → e ≠ 51 → ((W.setCell ⟨gn, i * 6 + 3, none⟩ (.slice (some ⟨W.heap.size, 0, none⟩) 1 1)).alloc (.cells #[.int .i64 y] 3)).ownsRow base e size v n xs := fun h1 h2 => by
    have hn := own_ne h1 hb h2
    exact (own_far h1 hn _).alloc _
  have hz : (W.setCell ⟨gn, i * 6 + 3, none⟩ (.slice (some ⟨W.heap.size, 0, none⟩) 1 1)).heap.size = W.heap.size := setCell_size _ _ _
  refine ⟨(h.urn.far hug _).alloc _, h.hg, (h.below.setCell (p := ⟨gn, i * 6 + 3, none⟩) hgx _).alloc (by rw [hz]; exact h.below.size) _, (h.kd.far (hT h.kd (by decide)) _).alloc _, (h.kw.far (hT h.kw (by decide)) _).alloc _,
    ⟨_, _, rfl, hO' hE (by decide), xs.set i (⟨p.1.kind, p.1.stone, p.1.other, [y], p.1.lo, p.1.hi⟩, .slice (some ⟨W.heap.size, 0, none⟩) 1 1), by rw [List.map_set, hxs]; rfl, ?_, fun q hq => ?_⟩, hO' h.oy (by decide), hO' h.of (by decide), h.zd⟩
  · have := (hon.stored (i * 6 + 3) (.slice (some ⟨W.heap.size, 0, none⟩) 1 1)).1
    rw [cellsN_year2 xs i p [y] _ hp] at this
    show World.ownsRow _ w.heap.size 51 6 (.slice (some ⟨gn, 0, none⟩) d.notes.length c) (d.notes.set i _).length _
    rw [List.length_set]
    exact this.alloc _
  · rcases List.mem_or_eq_of_mem_set hq with hq | rfl
    · exact hO' (hyr q hq) (by decide)
    · have := World.ownsRow_lit (base := w.heap.size) (e := 3) (size := 1) (W.setCell ⟨gn, i * 6 + 3, none⟩ (.slice (some ⟨W.heap.size, 0, none⟩) 1 1)) #[.int .i64 y] 1 (by rw [hz]; exact h.below.size) (by unfold maxLen; omega) (by simp)
      rw [hz] at this
      exact this
end
namespace Dt
/-- The notes below i may be others, and are valid. -/
structure Muts (d : Dat) (i : Nat) (d' : Dat) : Prop where
  stones : d'.stones = d.stones
  eras : d'.eras = d.eras
  len : d'.notes.length = d.notes.length
  ok : ∀ (j : Nat) (n : Nt), j < i → d'.notes[j]? = some n → n.Ok d
  rest : ∀ j, i ≤ j → d'.notes[j]? = d.notes[j]?
theorem Muts.start (d : Dat) : Muts d 0 d := ⟨rfl, rfl, rfl, fun j n h => absurd h (by omega), fun _ _ => rfl⟩
theorem Muts.skip {d d' : Dat} {i : Nat} {n : Nt} (h : Muts d i d') (hn : d'.notes[i]? = some n) (ho : n.Ok d) : Muts d (i + 1) d' :=
  ⟨h.stones, h.eras, h.len, fun j m hj hm => by
    by_cases e : j = i
    · subst e
      rw [hn] at hm
      injection hm with hm
      rw [← hm]
      exact ho
    · exact h.ok j m (by omega) hm, fun j hj => h.rest j (by omega)⟩
theorem Muts.put {d d' : Dat} {i : Nat} {x : Nt} (h : Muts d i d') (hi : i < d'.notes.length) (ho : x.Ok d) : Muts d (i + 1) (setN d' i x) :=
  ⟨h.stones, h.eras, by show (d'.notes.set i x).length = _; rw [List.length_set]; exact h.len, fun j m hj hm => by
    have hm : (d'.notes.set i x)[j]? = some m := hm
    by_cases e : i = j
    · subst e
      rw [List.getElem?_set_self hi] at hm
      injection hm with hm
      rw [← hm]
      exact ho
    · rw [List.getElem?_set_ne e] at hm
      exact h.ok j m (by omega) hm, fun j hj => by
    show (d'.notes.set i x)[j]? = _
    rw [List.getElem?_set_ne (by omega)]
    exact h.rest j (by omega)⟩
theorem Muts.all {d d' : Dat} (h : Muts d d.notes.length d') (hd : d.Ok) : d'.Ok :=
  ⟨by rw [h.stones]; exact hd.stones, by rw [h.eras]; exact hd.eras, ⟨by rw [h.len]; exact hd.notes.1, fun n hn => by
    obtain ⟨j, hj⟩ := List.getElem?_of_mem hn
    exact nt_ok (h.ok j n (by have := (List.getElem?_eq_some_iff.1 hj).1; have := h.len; omega) hj) h.stones (by rw [h.eras])⟩⟩
theorem year_ok {d : Dat} {n : Nt} {y : Int} (h : n.Ok d) (hk : n.kind = 1) (h1 : -3000 ≤ y) (h2 : y ≤ 3000) : (⟨n.kind, n.stone, n.other, [y], n.lo, n.hi⟩ : Nt).Ok d :=
  ⟨h.stone, h.kind, fun k => ⟨(h.years hk).1, (h.years hk).2.1, (h.years hk).2.2.1, by simp, by simp, fun z hz => by rw [List.mem_singleton.1 hz]; exact ⟨h1, h2⟩, List.pairwise_singleton _ _⟩, fun k => absurd hk k, h.within, fun k => absurd (show n.kind = 3 from k) (by omega), fun k => absurd (show n.kind = 4 from k) (by omega)⟩
theorem lohi_ok {d : Dat} {n : Nt} {b : Int} (h : n.Ok d) (hk : n.kind ≠ 1) (h1 : -3000 ≤ n.lo + b) (h2 : n.hi + b ≤ 3000) (h3 : n.kind = 3 → 0 ≤ b) : (⟨n.kind, n.stone, n.other, n.years, n.lo + b, n.hi + b⟩ : Nt).Ok d := by
  have hs := (h.span hk).2
  unfold SpanOk at hs
  exact ⟨h.stone, h.kind, fun k => absurd k hk, fun _ => ⟨(h.span hk).1, by unfold SpanOk; show -3000 ≤ n.lo + b ∧ n.lo + b ≤ n.hi + b ∧ n.hi + b ≤ 3000; omega⟩, h.within, fun k => ⟨(h.era k).1, by have := (h.era k).2; have := h3 k; show 1 ≤ n.lo + b; omega⟩, h.after⟩
end Dt
set_option maxRecDepth 100000 in
set_option maxHeartbeats 8000000 in
theorem wrongs_walk (a0 : Option Addr) (len cap : Nat) (w : World) (hr : NumRow w a0 len) :
    Calls Try.prog 8 #[.slice a0 len cap] w fun e w' => e = .returned (.bool true) ∧ Below w.heap.size w w' := by
  obtain ⟨kI, hi, hz0, hz1, hz2⟩ := info_parts info_napi
  have HQ := Lib.hid hi
  have HQ0 := Lib.hid hz0
  have HQ1 := Lib.hid hz1
  have HQ2 := Lib.hid hz2
  clear hi hz0 hz1 hz2
  go_enter Try.func8, Try.ntmps8
  go_wp2_with fail
  refine (newUrn_any a0 len cap _ hr).mono ?_
  rintro e w0 ⟨rfl, hu1, hb1⟩
  have HU0 := Lib.hid hu1
  have HB0 := Lib.hid hb1
  have hg0 := hu1.size
  clear hu1 hb1 hr
  go_wp2_with fail
  obtain ⟨w1, rfl⟩ : ∃ w1 : World, w1 = w0 := ⟨_, rfl⟩
  have HU1 := HU0
  have HB1 := HB0
  clear HU0 HB0
  refine (datingOf_any w.heap.size 3 5 8 w1 (by omega) (by omega) (by omega) (by omega) (by omega) HU1.out).mono ?_
  rintro e w2 ⟨d, ys, fs, vd, vy, vf, rfl, hm, hD, hY, hF, hu2, hk2⟩
  obtain ⟨Ae, ce, An, cn, rfl⟩ := hD.slices
  obtain ⟨Ay, cy, rfl⟩ := own_slice hY
  obtain ⟨Af, cf, rfl⟩ := own_slice hF
  have hst := hm.ok.stones
  obtain ⟨gy, rfl⟩ := own_addr hY (by have := hm.ny; omega)
  have HG := Lib.hid (LG.of (LC.start (smax := 0) HB1.out (Nat.le_refl _) hD hY hF hu2 hk2 rfl))
  have HM := Lib.hid hm
  have hn7 := hm.notes
  have he2 := hm.eras
  have hs6 := hm.stones
  have HNY := Lib.hid hm.ny
  have HNF := Lib.hid hm.nf
  have hyes := (may_iff hm.ok).1 ⟨_, hm.is⟩
  have HYES := Lib.hid hyes
  have HD := Lib.hid hm.ok
  have hlen : ∀ (d : Dat) (p n : Nat), (spanList d p n).length = n := fun d p n => by simp [spanList]
  have HLEN := Lib.hid hlen
  clear hD hY hF hu2 hk2 hm HU1 HB1 hyes hlen
  go_wp2_with fail
  have HLC := Lib.hid HG.out.lc
  clear HG HYES
  have hd2 := HLC.out.kd.cell 2
  simp at hd2
  go_loopg [6] d.notes.length (fun r ii wr => ∃ (i : Nat) (d' : Dat), ii = .int .i64 (i : Nat) ∧ i + r = d.notes.length ∧ Muts d i d' ∧ LC w w.heap.size w2.heap.size d' ys fs (.slice Ae d.eras.length ce) (.slice An d.notes.length cn) (.slice (some ⟨gy, 0, none⟩) ys.length cy) (.slice Af fs.length cf) wr)
  case atStart => exact ⟨0, d, rfl, by omega, Muts.start d, HLC.out⟩
  case round =>
    clear HLC hd2
    obtain ⟨i, d', rfl, hir, hmu, hs⟩ := hrel
    have HS := Lib.hid hs
    have HMU := Lib.hid hmu
    have d2 := HS.out.kd.cell 2
    simp at d2
    clear hs hmu
    by_cases hlt : i < d.notes.length
    · obtain ⟨gn, rfl⟩ : ∃ gn, An = some ⟨gn, 0, none⟩ := by
        obtain ⟨ve', vn', e, h1, xs, h2, h3, h4⟩ := HS.out.dat
        injection e with e
        simp at e
        obtain ⟨rfl, rfl⟩ := e
        rw [HMU.out.len] at h3
        exact own_addr h3 (by omega)
      obtain ⟨q, hq⟩ : ∃ q, d.notes[i]? = some q := ⟨_, List.getElem?_eq_getElem hlt⟩
      have hq' : d'.notes[i]? = some q := by rw [HMU.out.rest i (Nat.le_refl _)]; exact hq
      have hqo := HD.out.notes.2 q (List.mem_of_getElem? hq)
      have hqw := HM.out.small q (List.mem_of_getElem? hq)
      have HQO := Lib.hid hqo
      have HQW := Lib.hid hqw
      have HQ' := Lib.hid hq'
      have hlen' := HMU.out.len
      have HLEN' := Lib.hid hlen'
      have HCN := Lib.hid (fun (W : World) (h : LC w w.heap.size w2.heap.size d' ys fs (.slice Ae d.eras.length ce) (.slice (some ⟨gn, 0, none⟩) d.notes.length cn) (.slice (some ⟨gy, 0, none⟩) ys.length cy) (.slice Af fs.length cf) W) (j : Nat) (hj : j < 6) => (show ∃ Ay cy, W.ownsRow w.heap.size 3 1 (.slice Ay q.years.length cy) q.years.length (intCells q.years) ∧ W.cell? ⟨gn, i * 6 + j, none⟩ = (ntL q (.slice Ay q.years.length cy))[j]? by
        obtain ⟨xs, hxs, _, hon, hyr, _⟩ := h.nrow
        obtain ⟨p, hp, hpq⟩ := pair_at hxs hq'
        have ho := hyr p (List.mem_of_getElem? hp)
        obtain ⟨Ay, cy, hv⟩ := own_slice ho
        rw [hpq] at hv
        refine ⟨Ay, cy, ?_, ?_⟩
        · have h2 : W.ownsRow w.heap.size 3 1 p.2 p.1.years.length (intCells p.1.years) := ho
          rw [hpq, hv] at h2
          exact h2
        · rw [hon.cellAt (i * 6 + j) (by have := h.nrow; omega), cellsN_at xs i p j hp hj, hpq, hv]))
      have HN0 := Lib.hid (fun (W : World) (h : LC w w.heap.size w2.heap.size d' ys fs (.slice Ae d.eras.length ce) (.slice (some ⟨gn, 0, none⟩) d.notes.length cn) (.slice (some ⟨gy, 0, none⟩) ys.length cy) (.slice Af fs.length cf) W) => (show W.cell? ⟨gn, i * 6, none⟩ = some (.int .i64 (q.kind : Int)) from (HCN.out W h 0 (by omega)).elim fun _ h => h.elim fun _ h => h.2))
      have HN4 := Lib.hid (fun (W : World) (h : LC w w.heap.size w2.heap.size d' ys fs (.slice Ae d.eras.length ce) (.slice (some ⟨gn, 0, none⟩) d.notes.length cn) (.slice (some ⟨gy, 0, none⟩) ys.length cy) (.slice Af fs.length cf) W) => (show W.cell? ⟨gn, i * 6 + 4, none⟩ = some (.int .i64 q.lo) from (HCN.out W h 4 (by omega)).elim fun _ h => h.elim fun _ h => h.2))
      have HN5 := Lib.hid (fun (W : World) (h : LC w w.heap.size w2.heap.size d' ys fs (.slice Ae d.eras.length ce) (.slice (some ⟨gn, 0, none⟩) d.notes.length cn) (.slice (some ⟨gy, 0, none⟩) ys.length cy) (.slice Af fs.length cf) W) => (show W.cell? ⟨gn, i * 6 + 5, none⟩ = some (.int .i64 q.hi) from (HCN.out W h 5 (by omega)).elim fun _ h => h.elim fun _ h => h.2))
      have HFR := Lib.hid (fun (W : World) (h : LC w w.heap.size w2.heap.size d' ys fs (.slice Ae d.eras.length ce) (.slice (some ⟨gn, 0, none⟩) d.notes.length cn) (.slice (some ⟨gy, 0, none⟩) ys.length cy) (.slice Af fs.length cf) W) (j : Nat) => (show W.frozen? ⟨gn, j, none⟩ = false from h.nrow.elim fun _ h => h.2.2.1.frozenAt j))
      clear hq hq' hqo hqw hlen'
      go_wp2_with fail
      refine (odds_any _ _ _ _ (by omega) HS.out.urn).mono ?_
      rintro e w7 ⟨bo, rfl, hu, hk⟩
      have HS7 := Lib.hid (HS.out.calls hu hk)
      clear hu hk d2 HS
      cases bo
      · go_wp2_with fail
        go_roundg (gk - 1)
        case measure => omega
        case rel => exact ⟨i + 1, d', by go_num, by omega, HMU.out.skip HQ'.out HQO.out, HS7.out⟩
      · go_wp2_with fail
        refine (from_any w.heap.size (-20) 20 _ (by omega) (by omega) (by omega) (by omega) HS7.out.urn).mono ?_
        rintro e w8 ⟨b, rfl, b1, b2', hu, hk⟩
        have b2 : b ≤ 20 := by omega
        have HS8 := Lib.hid (HS7.out.calls hu hk)
        clear hu hk HS7 b2'
        have n0 := HN0.out _ HS8.out
        by_cases hk3 : q.kind = 3
        · have hb3 : ((q.kind : Int) == 3) = true := by rw [hk3]; rfl
          have hb1 : ((q.kind : Int) == 1) = false := by rw [hk3]; rfl
          have HK3 := Lib.hid hk3
          clear hk3
          go_wp2_with fail
          refine (from_any w.heap.size 0 20 _ (by omega) (by omega) (by omega) (by omega) HS8.out.urn).mono ?_
          rintro e w9 ⟨c, rfl, c1, c2', hu, hk⟩
          have c2 : c ≤ 20 := by omega
          have HS9 := Lib.hid (HS8.out.calls hu hk)
          clear hu hk HS8 c2' n0
          have n0 := HN0.out _ HS9.out
          have hk1 : q.kind ≠ 1 := by have := HK3.out; omega
          have l1 := (HQW.out.1 hk1).1
          have l2 := (HQW.out.1 hk1).2
          have l3 := ((HQO.out.span hk1).2).2.1
          have HOKN := Lib.hid (lohi_ok (b := c) HQO.out hk1 (by omega) (by omega) (fun _ => c1))
          have q1 : IntKind.i64.wrap (q.lo + c) = q.lo + c := IntWalk.i64_in _ (by omega)
          have q2 : IntKind.i64.wrap (q.hi + c) = q.hi + c := IntWalk.i64_in _ (by omega)
          clear hk1
          go_wp2_with fail
          clear n0 hb3 hb1
          refine wp_region_v [(fun j => j == 5 || j == 7 || j == 12 || j == 14 || j == 15 || j == 17, fun W => W.cell? ⟨gn, i * 6 + 4, none⟩ = some (.int .i64 q.lo) ∧ W.cell? ⟨gn, i * 6 + 5, none⟩ = some (.int .i64 q.hi))] (by kernel_rfl) ?_
          refine wpAnyV_world (fun W => LC w w.heap.size w2.heap.size d' ys fs (.slice Ae d.eras.length ce) (.slice (some ⟨gn, 0, none⟩) d.notes.length cn) (.slice (some ⟨gy, 0, none⟩) ys.length cy) (.slice Af fs.length cf) W) HS9.out.drew (fun V hV => ?_)
          have HV := Lib.hid hV
          clear hV
          refine wpAnyV_free (i := 0) (v := ?_) (by simp only [List.getElem?_toArray, List.getElem?_cons_zero]; rfl) (by kernel_rfl) (by kernel_rfl) (by kernel_rfl) (by kernel_rfl) (by exact fun _ _ _ h => h) (Or.inl ⟨by rfl, ?hyhc2⟩) (behind_cons (fun h => by simp at h) (fun p hp => by cases hp)) ?resthc2
          case hyhc2 => (intro W' _; go_simp; try with_reducible rfl)
          try simp only [Act.put, List.setIfInBounds_toArray, List.set_cons_zero, List.set_cons_succ]
          refine wpAnyV_free (i := 1) (v := ?_) (by simp only [List.getElem?_toArray, List.getElem?_cons_zero, List.getElem?_cons_succ]; rfl) (by kernel_rfl) (by kernel_rfl) (by kernel_rfl) (by kernel_rfl) (by exact fun _ _ _ h => h) (Or.inl ⟨by rfl, ?hyhc3⟩) (behind_cons (fun h => by simp at h) (fun p hp => by cases hp)) ?resthc3
          case hyhc3 => (intro W' _; go_simp; try with_reducible rfl)
          try simp only [Act.put, List.setIfInBounds_toArray, List.set_cons_zero, List.set_cons_succ]
          refine wpAnyV_free (i := 2) (v := ?_) (by simp only [List.getElem?_toArray, List.getElem?_cons_zero, List.getElem?_cons_succ]; rfl) (by kernel_rfl) (by kernel_rfl) (by kernel_rfl) (by kernel_rfl) (by exact fun _ _ _ h => h) (Or.inl ⟨by rfl, ?hyhc4⟩) (behind_cons (fun h => by simp at h) (fun p hp => by cases hp)) ?resthc4
          case hyhc4 => (intro W' _; go_simp; try with_reducible rfl)
          try simp only [Act.put, List.setIfInBounds_toArray, List.set_cons_zero, List.set_cons_succ]
          refine wpAnyV_free (i := 3) (v := ?_) (by simp only [List.getElem?_toArray, List.getElem?_cons_zero, List.getElem?_cons_succ]; rfl) (by kernel_rfl) (by kernel_rfl) (by kernel_rfl) (by kernel_rfl) (by exact fun _ _ _ h => h) (Or.inl ⟨by rfl, ?hyhc5⟩) (behind_cons (fun h => by simp at h) (fun p hp => by cases hp)) ?resthc5
          case hyhc5 => (intro W' _; go_simp; try with_reducible rfl)
          try simp only [Act.put, List.setIfInBounds_toArray, List.set_cons_zero, List.set_cons_succ]
          refine wpAnyV_free (i := 4) (v := ?_) (by simp only [List.getElem?_toArray, List.getElem?_cons_zero, List.getElem?_cons_succ]; rfl) (by kernel_rfl) (by kernel_rfl) (by kernel_rfl) (by kernel_rfl) (by exact fun _ _ _ h => h) (Or.inl ⟨by rfl, ?hyhc6⟩) (behind_cons (fun h => by simp at h) (fun p hp => by cases hp)) ?resthc6
          case hyhc6 => (intro W' _; go_simp; try with_reducible rfl)
          try simp only [Act.put, List.setIfInBounds_toArray, List.set_cons_zero, List.set_cons_succ]
          refine wpAnyV_free (i := 6) (v := ?_) (by simp only [List.getElem?_toArray, List.getElem?_cons_zero, List.getElem?_cons_succ]; rfl) (by kernel_rfl) (by kernel_rfl) (by kernel_rfl) (by kernel_rfl) (by exact fun _ _ _ h => h) (Or.inl ⟨by rfl, ?hyhc7⟩) (behind_cons (fun h => by simp at h) (fun p hp => by cases hp)) ?resthc7
          case hyhc7 => (intro W' _; go_simp; try with_reducible rfl)
          try simp only [Act.put, List.setIfInBounds_toArray, List.set_cons_zero, List.set_cons_succ]
          refine wpAnyV_free (i := 8) (v := ?_) (by simp only [List.getElem?_toArray, List.getElem?_cons_zero, List.getElem?_cons_succ]; rfl) (by kernel_rfl) (by kernel_rfl) (by kernel_rfl) (by kernel_rfl) (by exact fun _ _ _ h => h) (Or.inl ⟨by rfl, ?hyhc8⟩) (behind_cons (fun h => by simp at h) (fun p hp => by cases hp)) ?resthc8
          case hyhc8 => (intro W' _; go_simp; try with_reducible rfl)
          try simp only [Act.put, List.setIfInBounds_toArray, List.set_cons_zero, List.set_cons_succ]
          refine wpAnyV_free (i := 9) (v := ?_) (by simp only [List.getElem?_toArray, List.getElem?_cons_zero, List.getElem?_cons_succ]; rfl) (by kernel_rfl) (by kernel_rfl) (by kernel_rfl) (by kernel_rfl) (by exact fun _ _ _ h => h) (Or.inl ⟨by rfl, ?hyhc9⟩) (behind_cons (fun h => by simp at h) (fun p hp => by cases hp)) ?resthc9
          case hyhc9 => (intro W' _; go_simp; try with_reducible rfl)
          try simp only [Act.put, List.setIfInBounds_toArray, List.set_cons_zero, List.set_cons_succ]
          refine wpAnyV_free (i := 10) (v := ?_) (by simp only [List.getElem?_toArray, List.getElem?_cons_zero, List.getElem?_cons_succ]; rfl) (by kernel_rfl) (by kernel_rfl) (by kernel_rfl) (by kernel_rfl) (by exact fun _ _ _ h => h) (Or.inl ⟨by rfl, ?hyhc10⟩) (behind_cons (fun h => by simp at h) (fun p hp => by cases hp)) ?resthc10
          case hyhc10 => (intro W' _; go_simp; try with_reducible rfl)
          try simp only [Act.put, List.setIfInBounds_toArray, List.set_cons_zero, List.set_cons_succ]
          refine wpAnyV_free (i := 11) (v := ?_) (by simp only [List.getElem?_toArray, List.getElem?_cons_zero, List.getElem?_cons_succ]; rfl) (by kernel_rfl) (by kernel_rfl) (by kernel_rfl) (by kernel_rfl) (by exact fun _ _ _ h => h) (Or.inl ⟨by rfl, ?hyhc11⟩) (behind_cons (fun h => by simp at h) (fun p hp => by cases hp)) ?resthc11
          case hyhc11 => (intro W' _; go_simp; try with_reducible rfl)
          try simp only [Act.put, List.setIfInBounds_toArray, List.set_cons_zero, List.set_cons_succ]
          refine wpAnyV_free (i := 13) (v := ?_) (by simp only [List.getElem?_toArray, List.getElem?_cons_zero, List.getElem?_cons_succ]; rfl) (by kernel_rfl) (by kernel_rfl) (by kernel_rfl) (by kernel_rfl) (by exact fun _ _ _ h => h) (Or.inl ⟨by rfl, ?hyhc12⟩) (behind_cons (fun h => by simp at h) (fun p hp => by cases hp)) ?resthc12
          case hyhc12 => (intro W' _; go_simp; try with_reducible rfl)
          try simp only [Act.put, List.setIfInBounds_toArray, List.set_cons_zero, List.set_cons_succ]
          refine wpAnyV_take (i := 5) (m := 0) (v := ?_) (by simp only [List.getElem?_toArray, List.getElem?_cons_zero, List.getElem?_cons_succ]; rfl) (by rfl) (by kernel_rfl) (by kernel_rfl) (by kernel_rfl) (by kernel_rfl) (by exact fun _ _ _ h => h) (Or.inl ⟨by rfl, ?hyhc13⟩) ((And.intro (HN4.out _ HV.out) (HN5.out _ HV.out))) (behind_cons (fun _ => (And.intro (HN4.out _ HV.out) (HN5.out _ HV.out))) (fun p hp => by cases hp)) ?resthc13
          case hyhc13 => (intro W' hSW; go_simp; try with_reducible rfl)
          try simp only [Act.put, List.setIfInBounds_toArray, List.set_cons_zero, List.set_cons_succ]
          refine wpAnyV_free (i := 7) (v := ?_) (by simp only [List.getElem?_toArray, List.getElem?_cons_zero, List.getElem?_cons_succ]; rfl) (by kernel_rfl) (by kernel_rfl) (by kernel_rfl) (by kernel_rfl) (by exact fun _ _ _ h => h) (Or.inl ⟨by rfl, ?hyhc14⟩) (behind_cons (fun _ => (And.intro (HN4.out _ HV.out) (HN5.out _ HV.out))) (fun p hp => by cases hp)) ?resthc14
          case hyhc14 => (intro W' _; go_simp; try with_reducible rfl)
          try simp only [Act.put, List.setIfInBounds_toArray, List.set_cons_zero, List.set_cons_succ]
          refine wpAnyV_take (i := 12) (m := 0) (v := ?_) (by simp only [List.getElem?_toArray, List.getElem?_cons_zero, List.getElem?_cons_succ]; rfl) (by rfl) (by kernel_rfl) (by kernel_rfl) (by kernel_rfl) (by kernel_rfl) (by exact fun _ _ _ h => h) (Or.inl ⟨by rfl, ?hyhc15⟩) ((And.intro (HN4.out _ HV.out) (HN5.out _ HV.out))) (behind_cons (fun _ => (And.intro (HN4.out _ HV.out) (HN5.out _ HV.out))) (fun p hp => by cases hp)) ?resthc15
          case hyhc15 => (intro W' hSW; go_simp; try with_reducible rfl)
          try simp only [Act.put, List.setIfInBounds_toArray, List.set_cons_zero, List.set_cons_succ]
          refine wpAnyV_free (i := 14) (v := ?_) (by simp only [List.getElem?_toArray, List.getElem?_cons_zero, List.getElem?_cons_succ]; rfl) (by kernel_rfl) (by kernel_rfl) (by kernel_rfl) (by kernel_rfl) (by exact fun _ _ _ h => h) (Or.inl ⟨by rfl, ?hyhc16⟩) (behind_cons (fun _ => (And.intro (HN4.out _ HV.out) (HN5.out _ HV.out))) (fun p hp => by cases hp)) ?resthc16
          case hyhc16 => (intro W' _; go_simp; try with_reducible rfl)
          try simp only [Act.put, List.setIfInBounds_toArray, List.set_cons_zero, List.set_cons_succ]
          refine wpAnyV_ready (rs := [15]) (by kernel_rfl) (by simp) ?_
          refine AllReadyV.cons (by simp only [List.getElem?_toArray, List.getElem?_cons_zero, List.getElem?_cons_succ]; rfl) (fun K hK => ?_) AllReadyV.nil
          go_simp
          go_at_call 23
          (with_reducible refine (to_any (q.lo + c) (q.hi + c) _).mono ?_)
          rintro e w501 ⟨rfl, hb⟩
          have HC501 := Lib.hid (HV.out.to hb)
          clear hb
          refine hK.out _ _ (behind_cons (fun _ => (And.intro (HN4.out _ HC501.out) (HN5.out _ HC501.out))) (fun p hp => by cases hp)) ?_
          clear hK K
          try simp only [Act.put, List.setIfInBounds_toArray, List.set_cons_zero, List.set_cons_succ]
          refine wpAnyV_free (i := 16) (v := ?_) (by simp only [List.getElem?_toArray, List.getElem?_cons_zero, List.getElem?_cons_succ]; rfl) (by kernel_rfl) (by kernel_rfl) (by kernel_rfl) (by kernel_rfl) (by exact fun _ _ _ h => h) (Or.inl ⟨by rfl, ?hyhc18⟩) (behind_cons (fun h => by simp at h) (fun p hp => by cases hp)) ?resthc18
          case hyhc18 => (intro W' _; go_simp; try with_reducible rfl)
          try simp only [Act.put, List.setIfInBounds_toArray, List.set_cons_zero, List.set_cons_succ]
          refine wpAnyV_free (i := 17) (v := ?_) (by simp only [List.getElem?_toArray, List.getElem?_cons_zero, List.getElem?_cons_succ]; rfl) (by kernel_rfl) (by kernel_rfl) (by kernel_rfl) (by kernel_rfl) (by exact fun _ _ _ h => h) (Or.inl ⟨by rfl, ?hyhc19⟩) (behind_cons (fun _ => (And.intro (HN4.out _ HC501.out) (HN5.out _ HC501.out))) (fun p hp => by cases hp)) ?resthc19
          case hyhc19 => (intro W' _; go_simp; try with_reducible rfl)
          try simp only [Act.put, List.setIfInBounds_toArray, List.set_cons_zero, List.set_cons_succ]
          refine wpAnyV_ready (rs := [18]) (by kernel_rfl) (by simp) ?_
          refine AllReadyV.cons (by simp only [List.getElem?_toArray, List.getElem?_cons_zero, List.getElem?_cons_succ]; rfl) (fun K hK => ?_) AllReadyV.nil
          have x0 := HN4.out _ HC501.out
          have x1 := HN5.out _ HC501.out
          have y0 := HFR.out _ HC501.out (i * 6 + 4)
          have y1 := HFR.out _ HC501.out (i * 6 + 5)
          go_simp
          clear x0 x1 y0 y1
          refine hK.out _ _ (behind_cons (fun h => by simp at h) (fun p hp => by cases hp)) ?_
          clear hK K
          try simp only [Act.put, List.setIfInBounds_toArray, List.set_cons_zero, List.set_cons_succ]
          refine wpAnyV_done (by kernel_rfl) ?_ _
          have HLH := Lib.hid (HC501.out.lohi (a := q.lo + c) (b := q.hi + c) HQ'.out)
          go_wp2_with fail
          go_roundg (gk - 1)
          case measure => omega
          case rel => exact ⟨i + 1, _, by go_num, by omega, HMU.out.put (by have := HLEN'.out; omega) HOKN.out, HLH.out⟩
        · have hb3 : ((q.kind : Int) == 3) = false := by rw [beq_eq_false_iff_ne]; omega
          by_cases hk1 : q.kind = 1
          · have hb1 : ((q.kind : Int) == 1) = true := by rw [hk1]; rfl
            have HK1 := Lib.hid hk1
            have hyl := (HQO.out.years hk1).2.2.2.1
            obtain ⟨y, hy⟩ : ∃ y, q.years[0]? = some y := ⟨_, List.getElem?_eq_getElem (by omega)⟩
            have hyb := HQW.out.2 y (List.mem_of_getElem? hy)
            obtain ⟨yb1, yb2⟩ := hyb
            obtain ⟨Ay, cyy, hyo, n30⟩ := HCN.out _ HS8.out 3 (by omega)
            obtain ⟨nq, hnq⟩ : ∃ nq, nq = q.years.length := ⟨_, rfl⟩
            rw [← hnq] at hyo n30 hyl
            have n3 : w8.cell? ⟨gn, i * 6 + 3, none⟩ = some (.slice Ay nq cyy) := n30
            clear n30
            have hgl := World.block_lt_of_cell? w8 _ n3
            simp only at hgl
            have hgn : w8.heap.size ≠ gn := by omega
            obtain ⟨ga, rfl⟩ := own_addr hyo (by omega)
            have c0 : w8.cell? ⟨ga, 0, none⟩ = some (.int .i64 y) := by
              rw [hyo.cellAt 0 (by omega)]
              simp [intCells, hy]
            have f3 := HFR.out _ HS8.out (i * 6 + 3)
            have q1 : IntKind.i64.wrap (y + b) = y + b := IntWalk.i64_in _ (by omega)
            have HOKN := Lib.hid (year_ok (y := y + b) HQO.out hk1 (by omega) (by omega))
            have HLY := Lib.hid (HS8.out.year (y := y + b) HQ'.out)
            clear hk1 hk3 hy hyo hnq
            go_wp2_with fail
            go_roundg (gk - 1)
            case measure => omega
            case rel => exact ⟨i + 1, _, by go_num, by omega, HMU.out.put (by have := HLEN'.out; omega) HOKN.out, HLY.out⟩
          · have hb1 : ((q.kind : Int) == 1) = false := by rw [beq_eq_false_iff_ne]; omega
            have l1 := (HQW.out.1 hk1).1
            have l2 := (HQW.out.1 hk1).2
            have l3 := ((HQO.out.span hk1).2).2.1
            have HOKN := Lib.hid (lohi_ok (b := b) HQO.out hk1 (by omega) (by omega) (fun k => absurd k hk3))
            have q1 : IntKind.i64.wrap (q.lo + b) = q.lo + b := IntWalk.i64_in _ (by omega)
            have q2 : IntKind.i64.wrap (q.hi + b) = q.hi + b := IntWalk.i64_in _ (by omega)
            clear hk1 hk3
            go_wp2_with fail
            clear n0 hb3 hb1
            refine wp_region_v [(fun j => j == 5 || j == 7 || j == 12 || j == 14 || j == 15 || j == 17, fun W => W.cell? ⟨gn, i * 6 + 4, none⟩ = some (.int .i64 q.lo) ∧ W.cell? ⟨gn, i * 6 + 5, none⟩ = some (.int .i64 q.hi))] (by kernel_rfl) ?_
            refine wpAnyV_world (fun W => LC w w.heap.size w2.heap.size d' ys fs (.slice Ae d.eras.length ce) (.slice (some ⟨gn, 0, none⟩) d.notes.length cn) (.slice (some ⟨gy, 0, none⟩) ys.length cy) (.slice Af fs.length cf) W) HS8.out.drew (fun V hV => ?_)
            have HV := Lib.hid hV
            clear hV
            refine wpAnyV_free (i := 0) (v := ?_) (by simp only [List.getElem?_toArray, List.getElem?_cons_zero]; rfl) (by kernel_rfl) (by kernel_rfl) (by kernel_rfl) (by kernel_rfl) (by exact fun _ _ _ h => h) (Or.inl ⟨by rfl, ?hyhb2⟩) (behind_cons (fun h => by simp at h) (fun p hp => by cases hp)) ?resthb2
            case hyhb2 => (intro W' _; go_simp; try with_reducible rfl)
            try simp only [Act.put, List.setIfInBounds_toArray, List.set_cons_zero, List.set_cons_succ]
            refine wpAnyV_free (i := 1) (v := ?_) (by simp only [List.getElem?_toArray, List.getElem?_cons_zero, List.getElem?_cons_succ]; rfl) (by kernel_rfl) (by kernel_rfl) (by kernel_rfl) (by kernel_rfl) (by exact fun _ _ _ h => h) (Or.inl ⟨by rfl, ?hyhb3⟩) (behind_cons (fun h => by simp at h) (fun p hp => by cases hp)) ?resthb3
            case hyhb3 => (intro W' _; go_simp; try with_reducible rfl)
            try simp only [Act.put, List.setIfInBounds_toArray, List.set_cons_zero, List.set_cons_succ]
            refine wpAnyV_free (i := 2) (v := ?_) (by simp only [List.getElem?_toArray, List.getElem?_cons_zero, List.getElem?_cons_succ]; rfl) (by kernel_rfl) (by kernel_rfl) (by kernel_rfl) (by kernel_rfl) (by exact fun _ _ _ h => h) (Or.inl ⟨by rfl, ?hyhb4⟩) (behind_cons (fun h => by simp at h) (fun p hp => by cases hp)) ?resthb4
            case hyhb4 => (intro W' _; go_simp; try with_reducible rfl)
            try simp only [Act.put, List.setIfInBounds_toArray, List.set_cons_zero, List.set_cons_succ]
            refine wpAnyV_free (i := 3) (v := ?_) (by simp only [List.getElem?_toArray, List.getElem?_cons_zero, List.getElem?_cons_succ]; rfl) (by kernel_rfl) (by kernel_rfl) (by kernel_rfl) (by kernel_rfl) (by exact fun _ _ _ h => h) (Or.inl ⟨by rfl, ?hyhb5⟩) (behind_cons (fun h => by simp at h) (fun p hp => by cases hp)) ?resthb5
            case hyhb5 => (intro W' _; go_simp; try with_reducible rfl)
            try simp only [Act.put, List.setIfInBounds_toArray, List.set_cons_zero, List.set_cons_succ]
            refine wpAnyV_free (i := 4) (v := ?_) (by simp only [List.getElem?_toArray, List.getElem?_cons_zero, List.getElem?_cons_succ]; rfl) (by kernel_rfl) (by kernel_rfl) (by kernel_rfl) (by kernel_rfl) (by exact fun _ _ _ h => h) (Or.inl ⟨by rfl, ?hyhb6⟩) (behind_cons (fun h => by simp at h) (fun p hp => by cases hp)) ?resthb6
            case hyhb6 => (intro W' _; go_simp; try with_reducible rfl)
            try simp only [Act.put, List.setIfInBounds_toArray, List.set_cons_zero, List.set_cons_succ]
            refine wpAnyV_free (i := 6) (v := ?_) (by simp only [List.getElem?_toArray, List.getElem?_cons_zero, List.getElem?_cons_succ]; rfl) (by kernel_rfl) (by kernel_rfl) (by kernel_rfl) (by kernel_rfl) (by exact fun _ _ _ h => h) (Or.inl ⟨by rfl, ?hyhb7⟩) (behind_cons (fun h => by simp at h) (fun p hp => by cases hp)) ?resthb7
            case hyhb7 => (intro W' _; go_simp; try with_reducible rfl)
            try simp only [Act.put, List.setIfInBounds_toArray, List.set_cons_zero, List.set_cons_succ]
            refine wpAnyV_free (i := 8) (v := ?_) (by simp only [List.getElem?_toArray, List.getElem?_cons_zero, List.getElem?_cons_succ]; rfl) (by kernel_rfl) (by kernel_rfl) (by kernel_rfl) (by kernel_rfl) (by exact fun _ _ _ h => h) (Or.inl ⟨by rfl, ?hyhb8⟩) (behind_cons (fun h => by simp at h) (fun p hp => by cases hp)) ?resthb8
            case hyhb8 => (intro W' _; go_simp; try with_reducible rfl)
            try simp only [Act.put, List.setIfInBounds_toArray, List.set_cons_zero, List.set_cons_succ]
            refine wpAnyV_free (i := 9) (v := ?_) (by simp only [List.getElem?_toArray, List.getElem?_cons_zero, List.getElem?_cons_succ]; rfl) (by kernel_rfl) (by kernel_rfl) (by kernel_rfl) (by kernel_rfl) (by exact fun _ _ _ h => h) (Or.inl ⟨by rfl, ?hyhb9⟩) (behind_cons (fun h => by simp at h) (fun p hp => by cases hp)) ?resthb9
            case hyhb9 => (intro W' _; go_simp; try with_reducible rfl)
            try simp only [Act.put, List.setIfInBounds_toArray, List.set_cons_zero, List.set_cons_succ]
            refine wpAnyV_free (i := 10) (v := ?_) (by simp only [List.getElem?_toArray, List.getElem?_cons_zero, List.getElem?_cons_succ]; rfl) (by kernel_rfl) (by kernel_rfl) (by kernel_rfl) (by kernel_rfl) (by exact fun _ _ _ h => h) (Or.inl ⟨by rfl, ?hyhb10⟩) (behind_cons (fun h => by simp at h) (fun p hp => by cases hp)) ?resthb10
            case hyhb10 => (intro W' _; go_simp; try with_reducible rfl)
            try simp only [Act.put, List.setIfInBounds_toArray, List.set_cons_zero, List.set_cons_succ]
            refine wpAnyV_free (i := 11) (v := ?_) (by simp only [List.getElem?_toArray, List.getElem?_cons_zero, List.getElem?_cons_succ]; rfl) (by kernel_rfl) (by kernel_rfl) (by kernel_rfl) (by kernel_rfl) (by exact fun _ _ _ h => h) (Or.inl ⟨by rfl, ?hyhb11⟩) (behind_cons (fun h => by simp at h) (fun p hp => by cases hp)) ?resthb11
            case hyhb11 => (intro W' _; go_simp; try with_reducible rfl)
            try simp only [Act.put, List.setIfInBounds_toArray, List.set_cons_zero, List.set_cons_succ]
            refine wpAnyV_free (i := 13) (v := ?_) (by simp only [List.getElem?_toArray, List.getElem?_cons_zero, List.getElem?_cons_succ]; rfl) (by kernel_rfl) (by kernel_rfl) (by kernel_rfl) (by kernel_rfl) (by exact fun _ _ _ h => h) (Or.inl ⟨by rfl, ?hyhb12⟩) (behind_cons (fun h => by simp at h) (fun p hp => by cases hp)) ?resthb12
            case hyhb12 => (intro W' _; go_simp; try with_reducible rfl)
            try simp only [Act.put, List.setIfInBounds_toArray, List.set_cons_zero, List.set_cons_succ]
            refine wpAnyV_take (i := 5) (m := 0) (v := ?_) (by simp only [List.getElem?_toArray, List.getElem?_cons_zero, List.getElem?_cons_succ]; rfl) (by rfl) (by kernel_rfl) (by kernel_rfl) (by kernel_rfl) (by kernel_rfl) (by exact fun _ _ _ h => h) (Or.inl ⟨by rfl, ?hyhb13⟩) ((And.intro (HN4.out _ HV.out) (HN5.out _ HV.out))) (behind_cons (fun _ => (And.intro (HN4.out _ HV.out) (HN5.out _ HV.out))) (fun p hp => by cases hp)) ?resthb13
            case hyhb13 => (intro W' hSW; go_simp; try with_reducible rfl)
            try simp only [Act.put, List.setIfInBounds_toArray, List.set_cons_zero, List.set_cons_succ]
            refine wpAnyV_free (i := 7) (v := ?_) (by simp only [List.getElem?_toArray, List.getElem?_cons_zero, List.getElem?_cons_succ]; rfl) (by kernel_rfl) (by kernel_rfl) (by kernel_rfl) (by kernel_rfl) (by exact fun _ _ _ h => h) (Or.inl ⟨by rfl, ?hyhb14⟩) (behind_cons (fun _ => (And.intro (HN4.out _ HV.out) (HN5.out _ HV.out))) (fun p hp => by cases hp)) ?resthb14
            case hyhb14 => (intro W' _; go_simp; try with_reducible rfl)
            try simp only [Act.put, List.setIfInBounds_toArray, List.set_cons_zero, List.set_cons_succ]
            refine wpAnyV_take (i := 12) (m := 0) (v := ?_) (by simp only [List.getElem?_toArray, List.getElem?_cons_zero, List.getElem?_cons_succ]; rfl) (by rfl) (by kernel_rfl) (by kernel_rfl) (by kernel_rfl) (by kernel_rfl) (by exact fun _ _ _ h => h) (Or.inl ⟨by rfl, ?hyhb15⟩) ((And.intro (HN4.out _ HV.out) (HN5.out _ HV.out))) (behind_cons (fun _ => (And.intro (HN4.out _ HV.out) (HN5.out _ HV.out))) (fun p hp => by cases hp)) ?resthb15
            case hyhb15 => (intro W' hSW; go_simp; try with_reducible rfl)
            try simp only [Act.put, List.setIfInBounds_toArray, List.set_cons_zero, List.set_cons_succ]
            refine wpAnyV_free (i := 14) (v := ?_) (by simp only [List.getElem?_toArray, List.getElem?_cons_zero, List.getElem?_cons_succ]; rfl) (by kernel_rfl) (by kernel_rfl) (by kernel_rfl) (by kernel_rfl) (by exact fun _ _ _ h => h) (Or.inl ⟨by rfl, ?hyhb16⟩) (behind_cons (fun _ => (And.intro (HN4.out _ HV.out) (HN5.out _ HV.out))) (fun p hp => by cases hp)) ?resthb16
            case hyhb16 => (intro W' _; go_simp; try with_reducible rfl)
            try simp only [Act.put, List.setIfInBounds_toArray, List.set_cons_zero, List.set_cons_succ]
            refine wpAnyV_ready (rs := [15]) (by kernel_rfl) (by simp) ?_
            refine AllReadyV.cons (by simp only [List.getElem?_toArray, List.getElem?_cons_zero, List.getElem?_cons_succ]; rfl) (fun K hK => ?_) AllReadyV.nil
            go_simp
            go_at_call 23
            (with_reducible refine (to_any (q.lo + b) (q.hi + b) _).mono ?_)
            rintro e w502 ⟨rfl, hb⟩
            have HC502 := Lib.hid (HV.out.to hb)
            clear hb
            refine hK.out _ _ (behind_cons (fun _ => (And.intro (HN4.out _ HC502.out) (HN5.out _ HC502.out))) (fun p hp => by cases hp)) ?_
            clear hK K
            try simp only [Act.put, List.setIfInBounds_toArray, List.set_cons_zero, List.set_cons_succ]
            refine wpAnyV_free (i := 16) (v := ?_) (by simp only [List.getElem?_toArray, List.getElem?_cons_zero, List.getElem?_cons_succ]; rfl) (by kernel_rfl) (by kernel_rfl) (by kernel_rfl) (by kernel_rfl) (by exact fun _ _ _ h => h) (Or.inl ⟨by rfl, ?hyhb18⟩) (behind_cons (fun h => by simp at h) (fun p hp => by cases hp)) ?resthb18
            case hyhb18 => (intro W' _; go_simp; try with_reducible rfl)
            try simp only [Act.put, List.setIfInBounds_toArray, List.set_cons_zero, List.set_cons_succ]
            refine wpAnyV_free (i := 17) (v := ?_) (by simp only [List.getElem?_toArray, List.getElem?_cons_zero, List.getElem?_cons_succ]; rfl) (by kernel_rfl) (by kernel_rfl) (by kernel_rfl) (by kernel_rfl) (by exact fun _ _ _ h => h) (Or.inl ⟨by rfl, ?hyhb19⟩) (behind_cons (fun _ => (And.intro (HN4.out _ HC502.out) (HN5.out _ HC502.out))) (fun p hp => by cases hp)) ?resthb19
            case hyhb19 => (intro W' _; go_simp; try with_reducible rfl)
            try simp only [Act.put, List.setIfInBounds_toArray, List.set_cons_zero, List.set_cons_succ]
            refine wpAnyV_ready (rs := [18]) (by kernel_rfl) (by simp) ?_
            refine AllReadyV.cons (by simp only [List.getElem?_toArray, List.getElem?_cons_zero, List.getElem?_cons_succ]; rfl) (fun K hK => ?_) AllReadyV.nil
            have x0 := HN4.out _ HC502.out
            have x1 := HN5.out _ HC502.out
            have y0 := HFR.out _ HC502.out (i * 6 + 4)
            have y1 := HFR.out _ HC502.out (i * 6 + 5)
            go_simp
            clear x0 x1 y0 y1
            refine hK.out _ _ (behind_cons (fun h => by simp at h) (fun p hp => by cases hp)) ?_
            clear hK K
            try simp only [Act.put, List.setIfInBounds_toArray, List.set_cons_zero, List.set_cons_succ]
            refine wpAnyV_done (by kernel_rfl) ?_ _
            have HLH := Lib.hid (HC502.out.lohi (a := q.lo + b) (b := q.hi + b) HQ'.out)
            go_wp2_with fail
            go_roundg (gk - 1)
            case measure => omega
            case rel => exact ⟨i + 1, _, by go_num, by omega, HMU.out.put (by have := HLEN'.out; omega) HOKN.out, HLH.out⟩
    · obtain rfl : i = d.notes.length := by omega
      have hok5 := HMU.out.all HD.out
      have HOK5 := Lib.hid hok5
      have hlen5 := HMU.out.len
      have hs5 := HMU.out.stones
      obtain ⟨nn, hnn⟩ : ∃ nn, nn = d'.notes.length := ⟨_, rfl⟩
      have hn5 : nn ≤ 5 := by omega
      have HNN := Lib.hid hnn
      rw [← hlen5, ← hnn] at HS d2 ⊢
      clear hok5 hlen5 hs5 hnn HMU HD HM
      obtain ⟨w1, rfl⟩ : ∃ w1 : World, w1 = wr := ⟨_, rfl⟩
      have d0 := HS.out.kd.cell 0
      have d1 := HS.out.kd.cell 1
      simp at d0 d1
      go_wp2_with fail
      refine (wrong_any d' HOK5.out _ w1.heap.size w1 (Nat.le_refl _) HS.out.dat.dat).mono ?_
      rintro e w3 ⟨s0, vw, hleast, rfl, hints, hb⟩
      have HLE := Lib.hid hleast
      have HS3 := Lib.hid (HS.out.to hb)
      obtain ⟨Aw, cw, hvw, _⟩ := id hints
      rw [hvw] at hints ⊢
      have HINT := Lib.hid hints
      have h8s := setTo_len s0 8
      obtain ⟨n0, hn0⟩ : ∃ n0, n0 = (setTo s0 8).length := ⟨_, rfl⟩
      rw [← hn0] at HINT h8s ⊢
      clear hleast hb d0 d1 d2 HS hints hvw hn0
      have d2 := HS3.out.kd.cell 2
      simp at d2
      go_wp2_with fail
      go_loopg [11] (nn + 1) (fun r mm wr => ∃ many : Nat, mm = .int .i64 (many : Nat) ∧ many + r = nn + 1 ∧ NotYet d' many 0 ∧ Below w3.heap.size w3 wr)
      case atStart => exact ⟨0, rfl, by omega, NotYet.start _, Below.refl _ _⟩
      case round =>
        clear d2
        obtain ⟨many, rfl, hmr, hny, hbl⟩ := hrel
        obtain ⟨wo, rfl⟩ : ∃ wo : World, wo = wr := ⟨_, rfl⟩
        obtain ⟨ga, hga⟩ : ∃ ga, ga = gk := ⟨_, rfl⟩
        have HNY := Lib.hid hny
        have HBL := Lib.hid hbl
        have HSO := Lib.hid (HS3.out.to hbl)
        clear hny hbl
        by_cases hmn : many ≤ nn
        · have hl0 : ∀ W, Calls Try.prog 32 #[.int .i64 0, .int .i64 nn, .int .i64 many] W (ListsPost (listsP many 0 nn) W) := fun W => lists_any nn (by omega) many (by omega) 0 (by omega) W
          have HL0 := Lib.hid hl0
          clear hl0
          have d2 := HSO.out.kd.cell 2
          simp at d2
          go_wp2_with fail
          refine (HL0.out wo).mono ?_
          rintro e w4 ⟨vl, rfl, hro, hb⟩
          obtain ⟨Al, cl, rfl⟩ := hro.slice
          obtain ⟨N, hN⟩ : ∃ N, N = (listsP many 0 nn).length := ⟨_, rfl⟩
          have hN32 : N ≤ 32 := by rw [hN]; exact lists_len many (by omega) 0 (by omega) nn (by omega)
          rw [← hN] at hro ⊢
          have HN := Lib.hid hN
          have HRO := Lib.hid (hro.mono HSO.out.below.size)
          have HS4 := Lib.hid (HSO.out.to hb)
          have HB4 := Lib.hid (HBL.out.trans (hb.mono HBL.out.size))
          clear hN hro hb d2 HL0
          go_wp2_with fail
          go_loopg [13] N (fun r ii wr => ∃ i : Nat, ii = .int .i64 (i : Nat) ∧ i + r = N ∧ NotYet d' many i ∧ Below w4.heap.size w4 wr)
          case atStart => exact ⟨0, rfl, by omega, HNY.out, Below.refl _ _⟩
          case round =>
            obtain ⟨i, rfl, hir, hny, hbl⟩ := hrel
            have HNI := Lib.hid hny
            have HBI := Lib.hid hbl
            clear hny hbl
            by_cases hi : i < N
            · obtain ⟨gl, rfl⟩ : ∃ gl, Al = some ⟨gl, 0, none⟩ := by
                obtain ⟨rr, _, h2, _⟩ := HRO.out
                rw [← HN.out] at h2
                exact own_addr h2 (by omega)
              obtain ⟨l, hl⟩ : ∃ l, (listsP many 0 nn)[i]? = some l := ⟨_, List.getElem?_eq_getElem (by have := HN.out; omega)⟩
              have hget := HRO.out.to HBI.out
              rw [show (Value.slice (some ⟨gl, 0, none⟩) N cl) = .slice (some ⟨gl, 0, none⟩) (listsP many 0 nn).length cl by rw [HN.out]] at hget
              obtain ⟨A1, c1, k0, hol⟩ := hget.get hl
              obtain ⟨g1, g2, g3⟩ := lists_mem nn (by omega) many (by omega) l (List.mem_of_getElem? hl)
              have g32 : setOf l < 32 := Nat.lt_of_lt_of_le g2 (Nat.pow_le_pow_right (show 0 < 2 by omega) hn5)
              obtain ⟨nl, hnl⟩ : ∃ nl, nl = l.length := ⟨_, rfl⟩
              rw [← hnl] at k0 hol
              have HNL := Lib.hid hnl
              have hlw := World.block_lt_of_cell? wr _ k0
              simp only at hlw
              have HK := Lib.hid (fun (W : World) (h : Below wr.heap.size wr W) => (show W.cell? ⟨gl, i, none⟩ = some (.slice A1 nl c1) from (h.cell (p := ⟨gl, i, none⟩) hlw).trans k0))
              have HKR := Lib.hid (fun (W : World) (h : Below wr.heap.size wr W) => (show W.ownsRow w.heap.size 3 1 (.slice A1 nl c1) l.length (intCells (ints l)) by
                rw [← hnl]
                exact own_fx hol (Fx.of_all h) (fun _ _ _ _ => trivial)))
              have HSI := Lib.hid (HS4.out.to HBI.out)
              have HKD := Lib.hid (fun (W : World) (h : Below wr.heap.size wr W) => (show W.cell? ⟨w2.heap.size, 0, none⟩ = some (.int .i64 d'.stones) ∧ W.cell? ⟨w2.heap.size, 1, none⟩ = some (.slice Ae d.eras.length ce) ∧ W.cell? ⟨w2.heap.size, 2, none⟩ = some (.slice An nn cn) from ⟨(HSI.out.to h).kd.cell 0, (HSI.out.to h).kd.cell 1, (HSI.out.to h).kd.cell 2⟩))
              have HKT := Lib.hid (fun (W : World) (h : Below wr.heap.size wr W) => (HSI.out.to h).dat)
              have hwr : w.heap.size ≤ wr.heap.size := HSI.out.below.size
              have HBIT := Lib.hid (fun (j : Nat) (hj : j < d'.notes.length) => (show (setOf l).testBit j = decide (j ∈ l) by
                have := set_bit (setOf l) g32 j (by have := HNN.out; omega)
                rw [g3] at this
                exact this))
              have HLT := Lib.hid (fun (j : Nat) (hj : j ∈ l) => (show j < 100 by
                have := nats_lt nn (by omega) (setOf l) g2 j (by rw [g3]; exact hj)
                omega))
              have HL := Lib.hid hl
              have hll8 : l.length ≤ 8 := by omega
              have HLL8 := Lib.hid hll8
              clear hget k0 hol hnl g1 g2 g3 g32 hl hll8
              by_cases hmay : Dat.mayS d' (setOf l) = true
              · have HMAY := Lib.hid hmay
                have HSY := Lib.hid ((may_iff (sub_ok HOK5.out (setOf l))).1 ((mayS_iff HOK5.out (setOf l)).1 hmay))
                have HSO2 := Lib.hid (sub_ok HOK5.out (setOf l))
                clear hmay
                go_wp2_with fail
                refine wp_region_v [(fun j => j == 0 || j == 4 || j == 5 || j == 6 || j == 7 || j == 8 || j == 9 || j == 10 || j == 11, fun W => W.cell? ⟨w2.heap.size, 0, none⟩ = some (.int .i64 d'.stones) ∧ W.cell? ⟨w2.heap.size, 1, none⟩ = some (.slice Ae d.eras.length ce) ∧ W.cell? ⟨w2.heap.size, 2, none⟩ = some (.slice An nn cn)), (fun j => j == 4 || j == 5 || j == 6 || j == 7 || j == 8 || j == 9 || j == 10 || j == 11, fun W => W.cell? ⟨gl, i, none⟩ = some (.slice A1 nl c1))] (by kernel_rfl) ?_
                refine wpAnyV_world (fun W => Below wr.heap.size wr W) (show Below wr.heap.size wr wr.drew from (Below.refl _ wr).drew) (fun V hV => ?_)
                have HV := Lib.hid hV
                clear hV
                refine wpAnyV_free (i := 1) (v := ?_) (by simp only [List.getElem?_toArray, List.getElem?_cons_zero, List.getElem?_cons_succ]; rfl) (by kernel_rfl) (by kernel_rfl) (by kernel_rfl) (by kernel_rfl) (by exact fun _ _ _ h => h) (Or.inl ⟨by rfl, ?hykyes2⟩) (behind_cons (fun h => by simp at h) (behind_cons (fun h => by simp at h) (fun p hp => by cases hp))) ?restkyes2
                case hykyes2 => (intro W' _; go_simp; try with_reducible rfl)
                try simp only [Act.put, List.setIfInBounds_toArray, List.set_cons_zero, List.set_cons_succ]
                refine wpAnyV_free (i := 2) (v := ?_) (by simp only [List.getElem?_toArray, List.getElem?_cons_zero, List.getElem?_cons_succ]; rfl) (by kernel_rfl) (by kernel_rfl) (by kernel_rfl) (by kernel_rfl) (by exact fun _ _ _ h => h) (Or.inl ⟨by rfl, ?hykyes3⟩) (behind_cons (fun h => by simp at h) (behind_cons (fun h => by simp at h) (fun p hp => by cases hp))) ?restkyes3
                case hykyes3 => (intro W' _; go_simp; try with_reducible rfl)
                try simp only [Act.put, List.setIfInBounds_toArray, List.set_cons_zero, List.set_cons_succ]
                refine wpAnyV_free (i := 3) (v := ?_) (by simp only [List.getElem?_toArray, List.getElem?_cons_zero, List.getElem?_cons_succ]; rfl) (by kernel_rfl) (by kernel_rfl) (by kernel_rfl) (by kernel_rfl) (by exact fun _ _ _ h => h) (Or.inl ⟨by rfl, ?hykyes4⟩) (behind_cons (fun h => by simp at h) (behind_cons (fun h => by simp at h) (fun p hp => by cases hp))) ?restkyes4
                case hykyes4 => (intro W' _; go_simp; try with_reducible rfl)
                try simp only [Act.put, List.setIfInBounds_toArray, List.set_cons_zero, List.set_cons_succ]
                refine wpAnyV_take (i := 0) (m := 0) (v := ?_) (by simp only [List.getElem?_toArray, List.getElem?_cons_zero]; rfl) (by rfl) (by kernel_rfl) (by kernel_rfl) (by kernel_rfl) (by kernel_rfl) (by exact fun _ _ _ h => h) (Or.inl ⟨by rfl, ?hykyes5⟩) ((HKD.out _ HV.out)) (behind_cons (fun _ => (HKD.out _ HV.out)) (behind_cons (fun h => by simp at h) (fun p hp => by cases hp))) ?restkyes5
                case hykyes5 => (intro W' hSW; go_simp; try with_reducible rfl)
                try simp only [Act.put, List.setIfInBounds_toArray, List.set_cons_zero, List.set_cons_succ]
                refine wpAnyV_take (i := 4) (m := 1) (v := ?_) (by simp only [List.getElem?_toArray, List.getElem?_cons_zero, List.getElem?_cons_succ]; rfl) (by rfl) (by kernel_rfl) (by kernel_rfl) (by kernel_rfl) (by kernel_rfl) (by exact fun _ _ _ h => h) (Or.inl ⟨by rfl, ?hykyes6⟩) ((HK.out _ HV.out)) (behind_cons (fun _ => (HKD.out _ HV.out)) (behind_cons (fun _ => (HK.out _ HV.out)) (fun p hp => by cases hp))) ?restkyes6
                case hykyes6 => (intro W' hSW; go_simp; try with_reducible rfl)
                try simp only [Act.put, List.setIfInBounds_toArray, List.set_cons_zero, List.set_cons_succ]
                refine wpAnyV_ready (rs := [5]) (by kernel_rfl) (by simp) ?_
                refine AllReadyV.cons (by simp only [List.getElem?_toArray, List.getElem?_cons_zero, List.getElem?_cons_succ]; rfl) (fun K hK => ?_) AllReadyV.nil
                go_simp
                go_at_call 33
                refine (without_any d' HOK5.out (setOf l) l HLL8.out HLT.out HBIT.out w.heap.size _ _ _ (Nat.le_trans hwr HV.out.size) (HKT.out _ HV.out) (HKR.out _ HV.out)).mono ?_
                rintro e w503 ⟨vs, rfl, hds, hb⟩
                have HC503 := Lib.hid (HV.out.trans (hb.mono HV.out.size))
                have HDS := Lib.hid hds
                clear hb hds
                refine hK.out _ _ (behind_cons (fun _ => (HKD.out _ HC503.out)) (behind_cons (fun _ => (HK.out _ HC503.out)) (fun p hp => by cases hp))) ?_
                clear hK K
                try simp only [Act.put, List.setIfInBounds_toArray, List.set_cons_zero, List.set_cons_succ]
                refine wpAnyV_ready (rs := [6]) (by kernel_rfl) (by simp) ?_
                refine AllReadyV.cons (by simp only [List.getElem?_toArray, List.getElem?_cons_zero, List.getElem?_cons_succ]; rfl) (fun K hK => ?_) AllReadyV.nil
                go_simp
                go_at_call 12
                refine (years_yes (Dat.sub d' (setOf l)) HSO2.out HSY.out _ _ w503 (Nat.le_refl _) HDS.out.dat).mono ?_
                rintro e w504 ⟨vz, rfl, _, hb⟩
                have HC504 := Lib.hid (HC503.out.trans (hb.mono HC503.out.size))
                clear hb
                refine hK.out _ _ (behind_cons (fun _ => (HKD.out _ HC504.out)) (behind_cons (fun _ => (HK.out _ HC504.out)) (fun p hp => by cases hp))) ?_
                clear hK K
                try simp only [Act.put, List.setIfInBounds_toArray, List.set_cons_zero, List.set_cons_succ]
                refine wpAnyV_free (i := 7) (v := ?_) (by simp only [List.getElem?_toArray, List.getElem?_cons_zero, List.getElem?_cons_succ]; rfl) (by kernel_rfl) (by kernel_rfl) (by kernel_rfl) (by kernel_rfl) (by exact fun _ _ _ h => h) (Or.inl ⟨by rfl, ?hykyes9⟩) (behind_cons (fun _ => (HKD.out _ HC504.out)) (behind_cons (fun _ => (HK.out _ HC504.out)) (fun p hp => by cases hp))) ?restkyes9
                case hykyes9 => (intro W' _; go_simp; try with_reducible rfl)
                try simp only [Act.put, List.setIfInBounds_toArray, List.set_cons_zero, List.set_cons_succ]
                refine wpAnyV_free (i := 8) (v := ?_) (by simp only [List.getElem?_toArray, List.getElem?_cons_zero, List.getElem?_cons_succ]; rfl) (by kernel_rfl) (by kernel_rfl) (by kernel_rfl) (by kernel_rfl) (by exact fun _ _ _ h => h) (Or.inl ⟨by rfl, ?hykyes10⟩) (behind_cons (fun _ => (HKD.out _ HC504.out)) (behind_cons (fun _ => (HK.out _ HC504.out)) (fun p hp => by cases hp))) ?restkyes10
                case hykyes10 => (intro W' _; go_simp; try with_reducible rfl)
                try simp only [Act.put, List.setIfInBounds_toArray, List.set_cons_zero, List.set_cons_succ]
                refine wpAnyV_free (i := 9) (v := ?_) (by simp only [List.getElem?_toArray, List.getElem?_cons_zero, List.getElem?_cons_succ]; rfl) (by kernel_rfl) (by kernel_rfl) (by kernel_rfl) (by kernel_rfl) (by exact fun _ _ _ h => h) (Or.inl ⟨by rfl, ?hykyes11⟩) (behind_cons (fun _ => (HKD.out _ HC504.out)) (behind_cons (fun _ => (HK.out _ HC504.out)) (fun p hp => by cases hp))) ?restkyes11
                case hykyes11 => (intro W' _; go_simp; try with_reducible rfl)
                try simp only [Act.put, List.setIfInBounds_toArray, List.set_cons_zero, List.set_cons_succ]
                refine wpAnyV_free (i := 10) (v := ?_) (by simp only [List.getElem?_toArray, List.getElem?_cons_zero, List.getElem?_cons_succ]; rfl) (by kernel_rfl) (by kernel_rfl) (by kernel_rfl) (by kernel_rfl) (by exact fun _ _ _ h => h) (Or.inl ⟨by rfl, ?hykyes12⟩) (behind_cons (fun _ => (HKD.out _ HC504.out)) (behind_cons (fun _ => (HK.out _ HC504.out)) (fun p hp => by cases hp))) ?restkyes12
                case hykyes12 => (intro W' _; go_simp; try with_reducible rfl)
                try simp only [Act.put, List.setIfInBounds_toArray, List.set_cons_zero, List.set_cons_succ]
                refine wpAnyV_free (i := 11) (v := ?_) (by simp only [List.getElem?_toArray, List.getElem?_cons_zero, List.getElem?_cons_succ]; rfl) (by kernel_rfl) (by kernel_rfl) (by kernel_rfl) (by kernel_rfl) (by exact fun _ _ _ h => h) (Or.inl ⟨by rfl, ?hykyes13⟩) (behind_cons (fun _ => (HKD.out _ HC504.out)) (behind_cons (fun _ => (HK.out _ HC504.out)) (fun p hp => by cases hp))) ?restkyes13
                case hykyes13 => (intro W' _; go_simp; try with_reducible rfl)
                try simp only [Act.put, List.setIfInBounds_toArray, List.set_cons_zero, List.set_cons_succ]
                refine wpAnyV_done (by kernel_rfl) ?_ _
                have HB9 := HC504
                have k9 := HK.out _ HB9.out
                have hfl := first_least (by have := HNN.out; omega) (by omega) HNI.out (by rw [← HNN.out]; exact HL.out) HMAY.out HLE.out
                have hb3 : Below w3.heap.size w3 w504 := (HB4.out.trans (HBI.out.mono HB4.out.size)).trans (HB9.out.mono (Nat.le_trans HB4.out.size HBI.out.size))
                have hsm := sameInts_any (setTo s0 8) (ints l) (by have := setTo_len s0 8; omega) (by rw [← hfl]; have := setTo_len s0 8; omega) w504.heap.size (.slice Aw n0 cw) (.slice A1 nl c1) w504 (Nat.le_refl _) (HINT.out.keep (Same.of_below hb3) hb3.size) (intsO_ints (B := w.heap.size) (by unfold IntsO; have e : (ints l).length = l.length := by { simp [ints] }; rw [e]; exact HKR.out _ HB9.out))
                rw [show decide (setTo s0 8 = ints l) = true from decide_eq_true hfl] at hsm
                have HSM := Lib.hid hsm
                have HBW := Lib.hid (HSI.out.below.trans (HB9.out.mono hwr))
                clear hsm hfl hb3
                go_wp2_with (first
                  | (go_at_call 34; (with_reducible refine HSM.out.mono ?_); rintro e w8 ⟨rfl, hb⟩; have HB10 := Lib.hid (HBW.out.trans (hb.mono HBW.out.size)); clear hb)
                  | (go_at_call 20; refine (timely_any _).mono ?_; rintro e w9 ⟨rfl, hb⟩; have HB11 := Lib.hid (HB10.out.trans (hb.mono HB10.out.size)); clear hb))
                go_ret
                exact ⟨rfl, HB11.out⟩
              · have hnm : Dat.mayS d' (setOf l) = false := by
                  cases h : Dat.mayS d' (setOf l)
                  · rfl
                  · exact absurd h hmay
                have HMAY := Lib.hid hnm
                have HSY : Hid ((Dat.sub d' (setOf l)).all = []) := Lib.hid (Classical.byContradiction fun h => hmay ((mayS_iff HOK5.out (setOf l)).2 ((may_iff (sub_ok HOK5.out (setOf l))).2 h)))
                have HSO2 := Lib.hid (sub_ok HOK5.out (setOf l))
                clear hmay hnm
                go_wp2_with fail
                refine wp_region_v [(fun j => j == 0 || j == 4 || j == 5 || j == 6 || j == 7 || j == 8 || j == 9 || j == 10 || j == 11, fun W => W.cell? ⟨w2.heap.size, 0, none⟩ = some (.int .i64 d'.stones) ∧ W.cell? ⟨w2.heap.size, 1, none⟩ = some (.slice Ae d.eras.length ce) ∧ W.cell? ⟨w2.heap.size, 2, none⟩ = some (.slice An nn cn)), (fun j => j == 4 || j == 5 || j == 6 || j == 7 || j == 8 || j == 9 || j == 10 || j == 11, fun W => W.cell? ⟨gl, i, none⟩ = some (.slice A1 nl c1))] (by kernel_rfl) ?_
                refine wpAnyV_world (fun W => Below wr.heap.size wr W) (show Below wr.heap.size wr wr.drew from (Below.refl _ wr).drew) (fun V hV => ?_)
                have HV := Lib.hid hV
                clear hV
                refine wpAnyV_free (i := 1) (v := ?_) (by simp only [List.getElem?_toArray, List.getElem?_cons_zero, List.getElem?_cons_succ]; rfl) (by kernel_rfl) (by kernel_rfl) (by kernel_rfl) (by kernel_rfl) (by exact fun _ _ _ h => h) (Or.inl ⟨by rfl, ?hykno2⟩) (behind_cons (fun h => by simp at h) (behind_cons (fun h => by simp at h) (fun p hp => by cases hp))) ?restkno2
                case hykno2 => (intro W' _; go_simp; try with_reducible rfl)
                try simp only [Act.put, List.setIfInBounds_toArray, List.set_cons_zero, List.set_cons_succ]
                refine wpAnyV_free (i := 2) (v := ?_) (by simp only [List.getElem?_toArray, List.getElem?_cons_zero, List.getElem?_cons_succ]; rfl) (by kernel_rfl) (by kernel_rfl) (by kernel_rfl) (by kernel_rfl) (by exact fun _ _ _ h => h) (Or.inl ⟨by rfl, ?hykno3⟩) (behind_cons (fun h => by simp at h) (behind_cons (fun h => by simp at h) (fun p hp => by cases hp))) ?restkno3
                case hykno3 => (intro W' _; go_simp; try with_reducible rfl)
                try simp only [Act.put, List.setIfInBounds_toArray, List.set_cons_zero, List.set_cons_succ]
                refine wpAnyV_free (i := 3) (v := ?_) (by simp only [List.getElem?_toArray, List.getElem?_cons_zero, List.getElem?_cons_succ]; rfl) (by kernel_rfl) (by kernel_rfl) (by kernel_rfl) (by kernel_rfl) (by exact fun _ _ _ h => h) (Or.inl ⟨by rfl, ?hykno4⟩) (behind_cons (fun h => by simp at h) (behind_cons (fun h => by simp at h) (fun p hp => by cases hp))) ?restkno4
                case hykno4 => (intro W' _; go_simp; try with_reducible rfl)
                try simp only [Act.put, List.setIfInBounds_toArray, List.set_cons_zero, List.set_cons_succ]
                refine wpAnyV_take (i := 0) (m := 0) (v := ?_) (by simp only [List.getElem?_toArray, List.getElem?_cons_zero]; rfl) (by rfl) (by kernel_rfl) (by kernel_rfl) (by kernel_rfl) (by kernel_rfl) (by exact fun _ _ _ h => h) (Or.inl ⟨by rfl, ?hykno5⟩) ((HKD.out _ HV.out)) (behind_cons (fun _ => (HKD.out _ HV.out)) (behind_cons (fun h => by simp at h) (fun p hp => by cases hp))) ?restkno5
                case hykno5 => (intro W' hSW; go_simp; try with_reducible rfl)
                try simp only [Act.put, List.setIfInBounds_toArray, List.set_cons_zero, List.set_cons_succ]
                refine wpAnyV_take (i := 4) (m := 1) (v := ?_) (by simp only [List.getElem?_toArray, List.getElem?_cons_zero, List.getElem?_cons_succ]; rfl) (by rfl) (by kernel_rfl) (by kernel_rfl) (by kernel_rfl) (by kernel_rfl) (by exact fun _ _ _ h => h) (Or.inl ⟨by rfl, ?hykno6⟩) ((HK.out _ HV.out)) (behind_cons (fun _ => (HKD.out _ HV.out)) (behind_cons (fun _ => (HK.out _ HV.out)) (fun p hp => by cases hp))) ?restkno6
                case hykno6 => (intro W' hSW; go_simp; try with_reducible rfl)
                try simp only [Act.put, List.setIfInBounds_toArray, List.set_cons_zero, List.set_cons_succ]
                refine wpAnyV_ready (rs := [5]) (by kernel_rfl) (by simp) ?_
                refine AllReadyV.cons (by simp only [List.getElem?_toArray, List.getElem?_cons_zero, List.getElem?_cons_succ]; rfl) (fun K hK => ?_) AllReadyV.nil
                go_simp
                go_at_call 33
                refine (without_any d' HOK5.out (setOf l) l HLL8.out HLT.out HBIT.out w.heap.size _ _ _ (Nat.le_trans hwr HV.out.size) (HKT.out _ HV.out) (HKR.out _ HV.out)).mono ?_
                rintro e w505 ⟨vs, rfl, hds, hb⟩
                have HC505 := Lib.hid (HV.out.trans (hb.mono HV.out.size))
                have HDS := Lib.hid hds
                clear hb hds
                refine hK.out _ _ (behind_cons (fun _ => (HKD.out _ HC505.out)) (behind_cons (fun _ => (HK.out _ HC505.out)) (fun p hp => by cases hp))) ?_
                clear hK K
                try simp only [Act.put, List.setIfInBounds_toArray, List.set_cons_zero, List.set_cons_succ]
                refine wpAnyV_ready (rs := [6]) (by kernel_rfl) (by simp) ?_
                refine AllReadyV.cons (by simp only [List.getElem?_toArray, List.getElem?_cons_zero, List.getElem?_cons_succ]; rfl) (fun K hK => ?_) AllReadyV.nil
                go_simp
                go_at_call 12
                refine (years_no (Dat.sub d' (setOf l)) HSO2.out HSY.out _ _ w505 (Nat.le_refl _) HDS.out.dat).mono ?_
                rintro e w506 ⟨rfl, hb⟩
                have HC506 := Lib.hid (HC505.out.trans (hb.mono HC505.out.size))
                clear hb
                refine hK.out _ _ (behind_cons (fun _ => (HKD.out _ HC506.out)) (behind_cons (fun _ => (HK.out _ HC506.out)) (fun p hp => by cases hp))) ?_
                clear hK K
                try simp only [Act.put, List.setIfInBounds_toArray, List.set_cons_zero, List.set_cons_succ]
                refine wpAnyV_free (i := 7) (v := ?_) (by simp only [List.getElem?_toArray, List.getElem?_cons_zero, List.getElem?_cons_succ]; rfl) (by kernel_rfl) (by kernel_rfl) (by kernel_rfl) (by kernel_rfl) (by exact fun _ _ _ h => h) (Or.inl ⟨by rfl, ?hykno9⟩) (behind_cons (fun _ => (HKD.out _ HC506.out)) (behind_cons (fun _ => (HK.out _ HC506.out)) (fun p hp => by cases hp))) ?restkno9
                case hykno9 => (intro W' _; go_simp; try with_reducible rfl)
                try simp only [Act.put, List.setIfInBounds_toArray, List.set_cons_zero, List.set_cons_succ]
                refine wpAnyV_free (i := 8) (v := ?_) (by simp only [List.getElem?_toArray, List.getElem?_cons_zero, List.getElem?_cons_succ]; rfl) (by kernel_rfl) (by kernel_rfl) (by kernel_rfl) (by kernel_rfl) (by exact fun _ _ _ h => h) (Or.inl ⟨by rfl, ?hykno10⟩) (behind_cons (fun _ => (HKD.out _ HC506.out)) (behind_cons (fun _ => (HK.out _ HC506.out)) (fun p hp => by cases hp))) ?restkno10
                case hykno10 => (intro W' _; go_simp; try with_reducible rfl)
                try simp only [Act.put, List.setIfInBounds_toArray, List.set_cons_zero, List.set_cons_succ]
                refine wpAnyV_free (i := 9) (v := ?_) (by simp only [List.getElem?_toArray, List.getElem?_cons_zero, List.getElem?_cons_succ]; rfl) (by kernel_rfl) (by kernel_rfl) (by kernel_rfl) (by kernel_rfl) (by exact fun _ _ _ h => h) (Or.inl ⟨by rfl, ?hykno11⟩) (behind_cons (fun _ => (HKD.out _ HC506.out)) (behind_cons (fun _ => (HK.out _ HC506.out)) (fun p hp => by cases hp))) ?restkno11
                case hykno11 => (intro W' _; go_simp; try with_reducible rfl)
                try simp only [Act.put, List.setIfInBounds_toArray, List.set_cons_zero, List.set_cons_succ]
                refine wpAnyV_free (i := 10) (v := ?_) (by simp only [List.getElem?_toArray, List.getElem?_cons_zero, List.getElem?_cons_succ]; rfl) (by kernel_rfl) (by kernel_rfl) (by kernel_rfl) (by kernel_rfl) (by exact fun _ _ _ h => h) (Or.inl ⟨by rfl, ?hykno12⟩) (behind_cons (fun _ => (HKD.out _ HC506.out)) (behind_cons (fun _ => (HK.out _ HC506.out)) (fun p hp => by cases hp))) ?restkno12
                case hykno12 => (intro W' _; go_simp; try with_reducible rfl)
                try simp only [Act.put, List.setIfInBounds_toArray, List.set_cons_zero, List.set_cons_succ]
                refine wpAnyV_free (i := 11) (v := ?_) (by simp only [List.getElem?_toArray, List.getElem?_cons_zero, List.getElem?_cons_succ]; rfl) (by kernel_rfl) (by kernel_rfl) (by kernel_rfl) (by kernel_rfl) (by exact fun _ _ _ h => h) (Or.inl ⟨by rfl, ?hykno13⟩) (behind_cons (fun _ => (HKD.out _ HC506.out)) (behind_cons (fun _ => (HK.out _ HC506.out)) (fun p hp => by cases hp))) ?restkno13
                case hykno13 => (intro W' _; go_simp; try with_reducible rfl)
                try simp only [Act.put, List.setIfInBounds_toArray, List.set_cons_zero, List.set_cons_succ]
                refine wpAnyV_done (by kernel_rfl) ?_ _
                have HB9 := HC506
                go_wp2_with fail
                go_roundg (gk - 1)
                case measure => omega
                case rel => exact ⟨i + 1, by go_num, by omega, HNI.out.step (by rw [← HNN.out]; exact HL.out) HMAY.out, HBI.out.trans (HB9.out.mono HBI.out.size)⟩
            · obtain rfl : i = N := by omega
              go_wp2_with fail
              go_roundg (ga - 1)
              case measure => omega
              case rel => exact ⟨many + 1, by go_num, by omega, HNI.out.next (by rw [← HNN.out, ← HN.out]; exact Nat.le_refl _), HB4.out.trans (HBI.out.mono HB4.out.size)⟩
        · exfalso
          have hm1 : many = d'.notes.length + 1 := by have := HNN.out; omega
          have h := HNY.out
          rw [hm1] at h
          exact h.never (by have := HNN.out; omega)
end Go.Proofs.Ytcbdcdpoackplaa
