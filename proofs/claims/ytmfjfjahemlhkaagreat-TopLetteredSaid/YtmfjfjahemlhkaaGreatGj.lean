/- Narrow: a span in a span that has a number. · What a law holds, in general: an urn, a dating with a truth, blocks, rows, notes and datings of its own. · What more is known: plain, and a span that is stored into a row of spans. -/
import Derived.Test.YtmfjfjahemlhkaaGreatGg
namespace Go.Proofs.YtmfjfjahemlhkaaGreat
section
open Go.RowKit Dt

/-- The urn, with a span in a variable and one for the result. -/
structure UB (g : Nat) (w : World) (bx : Nat) (lo hi : Int) (W : World) : Prop where
  urn : UrnAt W g
  kg : Kg g w W
  box : Blok W bx 33 [.int .i64 lo, .int .i64 hi]
  res : Blok W (bx + 1) 33 [.int .i64 0, .int .i64 0]
section
variable {g bx : Nat} {w W W' : World} {lo hi : Int}
theorem UB.calls (h : UB g w bx lo hi W) (hu : UrnAt W' g) (hk : Kg g W W') : UB g w bx lo hi W' :=
  ⟨hu, h.kg.trans hk, h.box.kg hk (h.urn.ne h.box (by decide)), h.res.kg hk (h.urn.ne h.res (by decide))⟩
theorem UB.alloc (h : UB g w bx lo hi W) (o : Obj) : UB g w bx lo hi (W.alloc o) := h.calls (h.urn.alloc o) ((Kg.refl g W).alloc o)
theorem UB.drew (h : UB g w bx lo hi W) : UB g w bx lo hi W.drew := h.calls h.urn (Kg.refl g W).drew
end
def NarrowPost (g : Nat) (lo hi n : Int) (w : World) (e : Ending) (w' : World) : Prop :=
  ∃ a b : Int, e = .returned (.agg #[.int .i64 a, .int .i64 b]) ∧ lo ≤ a ∧ a ≤ n ∧ n ≤ b ∧ b ≤ hi ∧ UrnAt w' g ∧ Kg g w w'
end
section
section
open Go.RowKit Dt

structure ORow where
  e : TypeId
  size : Nat
  v : Value
  n : Nat
  xs : List Value
structure OBlok where
  b : Nat
  t : TypeId
  cs : List Value
structure LG (w : World) (g bd : Nat) (d : Dat) (ys fs : List Int) (ve vn vy vf : Value) (K : List OBlok) (L : List ORow) (N : List (Value × List Nt)) (D : List (Value × Dat)) (W : World) : Prop where
  lc : LC w g bd d ys fs ve vn vy vf W
  bl : ∀ p ∈ K, p.t ≠ 71 ∧ w.heap.size ≤ p.b ∧ Blok W p.b p.t p.cs
  ow : ∀ r ∈ L, r.e ≠ 71 ∧ W.ownsRow w.heap.size r.e r.size r.v r.n r.xs
  no : ∀ p ∈ N, NotesO W w.heap.size p.1 p.2
  da : ∀ p ∈ D, DatO W w.heap.size p.1 p.2
section
variable {w W W' : World} {g bd : Nat} {d : Dat} {ys fs : List Int} {ve vn vy vf : Value} {K : List OBlok} {L : List ORow} {N : List (Value × List Nt)} {D : List (Value × Dat)}
theorem LG.calls (h : LG w g bd d ys fs ve vn vy vf K L N D W) (hu : UrnAt W' g) (hk : Kg g W W') : LG w g bd d ys fs ve vn vy vf K L N D W' :=
  ⟨h.lc.calls hu hk, fun p hp => ⟨(h.bl p hp).1, (h.bl p hp).2.1, (h.bl p hp).2.2.kg hk (h.lc.urn.ne (h.bl p hp).2.2 (h.bl p hp).1)⟩, fun r hr => ⟨(h.ow r hr).1, own_kg (h.ow r hr).2 h.lc.urn (h.ow r hr).1 hk⟩,
   fun p hp => (h.no p hp).fx (Fx.of_kg hk h.lc.urn) (fun _ _ _ => by decide), fun p hp => (h.da p hp).kg h.lc.urn hk⟩
theorem LG.to (h : LG w g bd d ys fs ve vn vy vf K L N D W) (hk : Below W.heap.size W W') : LG w g bd d ys fs ve vn vy vf K L N D W' :=
  ⟨h.lc.to hk, fun p hp => ⟨(h.bl p hp).1, (h.bl p hp).2.1, (h.bl p hp).2.2.below hk (h.bl p hp).2.2.size⟩, fun r hr => ⟨(h.ow r hr).1, own_fx (h.ow r hr).2 (Fx.of_all hk) (fun _ _ _ _ => trivial)⟩,
   fun p hp => (h.no p hp).fx (Fx.of_all hk) (fun _ _ _ => ⟨trivial, trivial⟩), fun p hp => (h.da p hp).below hk⟩
theorem LG.alloc (h : LG w g bd d ys fs ve vn vy vf K L N D W) (o : Obj) : LG w g bd d ys fs ve vn vy vf K L N D (W.alloc o) := h.to ((Below.refl _ W).alloc (Nat.le_refl _) o)
theorem LG.drew (h : LG w g bd d ys fs ve vn vy vf K L N D W) : LG w g bd d ys fs ve vn vy vf K L N D W.drew := h.to (Below.refl _ W).drew
theorem LG.urn (h : LG w g bd d ys fs ve vn vy vf K L N D W) : UrnAt W g := h.lc.urn
theorem LG.below (h : LG w g bd d ys fs ve vn vy vf K L N D W) : Below w.heap.size w W := h.lc.below
theorem LG.of (h : LC w g bd d ys fs ve vn vy vf W) : LG w g bd d ys fs ve vn vy vf [] [] [] [] W := ⟨h, by simp, by simp, by simp, by simp⟩
theorem LG.blok (h : LG w g bd d ys fs ve vn vy vf K L N D W) (k : Nat) {p : OBlok} (hp : K[k]? = some p) : Blok W p.b p.t p.cs := (h.bl p (List.mem_of_getElem? hp)).2.2
theorem LG.row (h : LG w g bd d ys fs ve vn vy vf K L N D W) (k : Nat) {r : ORow} (hr : L[k]? = some r) : W.ownsRow w.heap.size r.e r.size r.v r.n r.xs := (h.ow r (List.mem_of_getElem? hr)).2
theorem LG.notes (h : LG w g bd d ys fs ve vn vy vf K L N D W) (k : Nat) {p : Value × List Nt} (hp : N[k]? = some p) : NotesO W w.heap.size p.1 p.2 := h.no p (List.mem_of_getElem? hp)
theorem LG.dat (h : LG w g bd d ys fs ve vn vy vf K L N D W) (k : Nat) {p : Value × Dat} (hp : D[k]? = some p) : DatO W w.heap.size p.1 p.2 := h.da p (List.mem_of_getElem? hp)
theorem LG.addB (h : LG w g bd d ys fs ve vn vy vf K L N D W) (p : OBlok) (h1 : p.t ≠ 71) (h2 : w.heap.size ≤ p.b) (h3 : Blok W p.b p.t p.cs) : LG w g bd d ys fs ve vn vy vf (K ++ [p]) L N D W :=
  ⟨h.lc, fun q hq => by
    rcases List.mem_append.1 hq with hq | hq
    · exact h.bl q hq
    · rw [List.mem_singleton.1 hq]; exact ⟨h1, h2, h3⟩, h.ow, h.no, h.da⟩
theorem LG.addR (h : LG w g bd d ys fs ve vn vy vf K L N D W) (r : ORow) (h1 : r.e ≠ 71) (h3 : W.ownsRow w.heap.size r.e r.size r.v r.n r.xs) : LG w g bd d ys fs ve vn vy vf K (L ++ [r]) N D W :=
  ⟨h.lc, h.bl, fun q hq => by
    rcases List.mem_append.1 hq with hq | hq
    · exact h.ow q hq
    · rw [List.mem_singleton.1 hq]; exact ⟨h1, h3⟩, h.no, h.da⟩
theorem LG.addN (h : LG w g bd d ys fs ve vn vy vf K L N D W) (p : Value × List Nt) (h3 : NotesO W w.heap.size p.1 p.2) : LG w g bd d ys fs ve vn vy vf K L (N ++ [p]) D W :=
  ⟨h.lc, h.bl, h.ow, fun q hq => by
    rcases List.mem_append.1 hq with hq | hq
    · exact h.no q hq
    · rw [List.mem_singleton.1 hq]; exact h3, h.da⟩
theorem LG.addD (h : LG w g bd d ys fs ve vn vy vf K L N D W) (p : Value × Dat) (h3 : DatO W w.heap.size p.1 p.2) : LG w g bd d ys fs ve vn vy vf K L N (D ++ [p]) W :=
  ⟨h.lc, h.bl, h.ow, h.no, fun q hq => by
    rcases List.mem_append.1 hq with hq | hq
    · exact h.da q hq
    · rw [List.mem_singleton.1 hq]; exact h3⟩
/-- A law's start is laid in a world that goes on from w. -/
theorem DatO.mono {B B' : Nat} {v : Value} {d : Dat} (h : DatO W B v d) (hB : B' ≤ B) : DatO W B' v d := by
  obtain ⟨ve, vn, e, h1, xs, h2, h3, h4⟩ := h
  exact ⟨ve, vn, e, h1.mono hB, xs, h2, h3.mono hB, fun p hp => (h4 p hp).mono hB⟩
end
end
section
open Go.RowKit Dt
namespace Dt
/-- The note that a stone is within some years. -/
def spanN (k : Nat) (lo hi : Int) : Nt := ⟨2, k, 0, [], lo, hi⟩
def Dat.withEras (d : Dat) (es : List (Int × Int)) : Dat := ⟨d.stones, es, d.notes⟩
/-- Eras, the first k of which were made narrower. -/
structure Narrowed (es : List (Int × Int)) (k : Nat) (es' : List (Int × Int)) : Prop where
  len : es'.length = es.length
  sub : ∀ (i : Nat) (s t : Int × Int), es[i]? = some s → es'[i]? = some t → s.1 ≤ t.1 ∧ t.1 ≤ t.2 ∧ t.2 ≤ s.2
  rest : ∀ i, k ≤ i → es'[i]? = es[i]?
theorem Narrowed.start {es : List (Int × Int)} (h : ∀ s ∈ es, SpanOk s.1 s.2) : Narrowed es 0 es :=
  ⟨rfl, fun i s t hs ht => by rw [hs] at ht; injection ht with ht; subst ht; exact ⟨Int.le_refl _, (h s (List.mem_of_getElem? hs)).2.1, Int.le_refl _⟩, fun _ _ => rfl⟩
theorem Narrowed.step {es es' : List (Int × Int)} {k : Nat} {s : Int × Int} {a b : Int} (h : Narrowed es k es') (hs : es[k]? = some s) (h1 : s.1 ≤ a) (h2 : a ≤ b) (h3 : b ≤ s.2) : Narrowed es (k + 1) (es'.set k (a, b)) := by
  refine ⟨by rw [List.length_set, h.len], fun i s' t hs' ht => ?_, fun i hi => ?_⟩
  · by_cases e : k = i
    · subst e
      rw [hs] at hs'
      injection hs' with hs'
      subst hs'
      have hk := (List.getElem?_eq_some_iff.1 ht).1
      rw [List.getElem?_set_self (by simpa using hk)] at ht
      injection ht with ht
      subst ht
      exact ⟨h1, h2, h3⟩
    · rw [List.getElem?_set_ne e] at ht
      exact h.sub i s' t hs' ht
  · rw [List.getElem?_set_ne (by omega)]
    exact h.rest i (by omega)
theorem flatS_set : ∀ (l : List (Int × Int)) (k : Nat) (s : Int × Int), ((flatS l).set (k * 2) (.int .i64 s.1)).set (k * 2 + 1) (.int .i64 s.2) = flatS (l.set k s)
  | [], _, _ => rfl
  | x :: l, 0, s => by simp [flatS]
  | x :: l, k + 1, s => by
    have := flatS_set l k s
    have e : flatS (x :: l) = .int .i64 x.1 :: .int .i64 x.2 :: flatS l := by simp [flatS]
    rw [e, show (k + 1) * 2 = k * 2 + 1 + 1 by omega, show k * 2 + 1 + 1 + 1 = (k * 2 + 1) + 1 + 1 by omega]
    simp only [List.set_cons_succ, List.set_cons_zero]
    rw [this]
    simp [flatS]
theorem narrow_ok {d : Dat} {es' : List (Int × Int)} (h : d.Ok) (hn : Narrowed d.eras d.eras.length es') : (d.withEras es').Ok := by
  refine ⟨h.stones, ⟨by show es'.length ≤ 3; rw [hn.len]; exact h.eras.1, fun t ht => ?_⟩, ⟨h.notes.1, fun n hn' => nt_ok (h.notes.2 n hn') rfl hn.len⟩⟩
  obtain ⟨i, hi⟩ := List.getElem?_of_mem ht
  have hil : i < es'.length := (List.getElem?_eq_some_iff.1 hi).1
  obtain ⟨s, hs⟩ : ∃ s, d.eras[i]? = some s := ⟨_, List.getElem?_eq_getElem (by have := hn.len; omega)⟩
  have h1 := hn.sub i s t hs hi
  have h2 := h.eras.2 s (List.mem_of_getElem? hs)
  unfold SpanOk at h2 ⊢
  omega
theorem narrow_is {d : Dat} {es' : List (Int × Int)} (hn : Narrowed d.eras d.eras.length es') (x : Nat → Int) (h : (d.withEras es').Is x) : d.Is x := by
  refine ⟨h.zero, fun p hp => ?_, h.notes⟩
  have hb := h.base p hp
  unfold Dat.base at hb ⊢
  by_cases p0 : p = 0
  · rw [if_pos p0] at hb ⊢
    exact hb
  · by_cases p7 : p < 7
    · rw [if_neg p0, if_pos p7] at hb ⊢
      exact hb
    · rw [if_neg p0, if_neg p7] at hb ⊢
      show (d.eras.getD (p - 7) (-3000, 3000)).1 ≤ x p ∧ x p ≤ (d.eras.getD (p - 7) (-3000, 3000)).2
      rw [List.getD_eq_getElem?_getD] at hb ⊢
      have hb' : ((es'[p - 7]?).getD (-3000, 3000)).1 ≤ x p ∧ x p ≤ ((es'[p - 7]?).getD (-3000, 3000)).2 := hb
      cases hg : d.eras[p - 7]? with
      | none =>
        have : es'[p - 7]? = none := by
          rw [List.getElem?_eq_none_iff] at hg ⊢
          rw [hn.len]; exact hg
        rw [this] at hb'
        exact hb'
      | some s =>
        obtain ⟨t, ht⟩ : ∃ t, es'[p - 7]? = some t := ⟨_, List.getElem?_eq_getElem (by rw [hn.len]; exact (List.getElem?_eq_some_iff.1 hg).1)⟩
        rw [ht] at hb'
        have := hn.sub _ s t hg ht
        simp only [Option.getD_some] at hb' ⊢
        omega
theorem spanN_ok {d : Dat} {k : Nat} {lo hi : Int} (hk : k < d.stones) (h : SpanOk lo hi) : (spanN k lo hi).Ok d :=
  ⟨hk, ⟨by simp [spanN], by simp [spanN]⟩, fun h => by simp [spanN] at h, fun _ => ⟨rfl, h⟩, fun _ => rfl, fun h => by simp [spanN] at h, fun h => by simp [spanN] at h⟩
/-- Less truths: no span is wider, and a verdict that is sure stays. -/
theorem less_span {d x : Dat} (hd : d.Ok) (hx : x.Ok) (hm : x.may) (hsub : ∀ y, x.Is y → d.Is y) (p : Nat) (hp : p < 10) : (d.span p).1 ≤ (x.span p).1 ∧ (x.span p).2 ≤ (d.span p).2 := by
  obtain ⟨⟨a, ha, h1⟩, ⟨b, hb, h2⟩, _⟩ := span_spec hx hm p hp
  have h3 := (span_spec hd (by obtain ⟨y, hy⟩ := hm; exact ⟨y, hsub y hy⟩) p hp).2.2
  have ha' := h3 a (hsub a ha)
  have hb' := h3 b (hsub b hb)
  omega
theorem less_verdict {T T' so : (Nat → Int) → Prop} {v u : Nat} (h : Verdict T so v) (h' : Verdict T' so u) (hsub : ∀ y, T' y → T y) : v = 3 ∨ u = v := by
  rcases h.rest with e | e | e
  · exact .inr ((h'.yes.2 fun y hy => h.yes.1 e y (hsub y hy)).trans e.symm)
  · exact .inr ((h'.no.2 fun y hy => h.no.1 e y (hsub y hy)).trans e.symm)
  · exact .inl e
/-- What more is known of a dating. -/
structure More (d x : Dat) : Prop where
  ok : x.Ok
  sub : ∀ y, x.Is y → d.Is y
  stones : x.stones = d.stones
  eras : x.eras.length = d.eras.length
theorem more_mk {d : Dat} {es' : List (Int × Int)} {k : Nat} {lo hi : Int} (h : d.Ok) (hn : Narrowed d.eras d.eras.length es') (hk : k < d.stones) (hs : SpanOk lo hi) (h8 : d.notes.length < 8) : More d ((d.withEras es').plus (spanN k lo hi)) :=
  ⟨plus_ok (narrow_ok h hn) (spanN_ok hk hs) h8, fun y hy => narrow_is hn y ((plus_is y).1 hy).1, rfl, hn.len⟩
end Dt
section
variable {w W : World} {g bd : Nat} {d : Dat} {ys fs : List Int} {ve vn vy vf : Value} {K : List OBlok} {N : List (Value × List Nt)} {es : List (Int × Int)}
/-- A span stored into a row of spans that is none of the dating's. -/
theorem LG.span {gx n c k : Nat} {a b : Int} (h : LG w g bd d ys fs ve vn vy vf K [⟨33, 2, .slice (some ⟨gx, 0, none⟩) n c, n, flatS es⟩] N [] W) (hne : ve.ownBlock ≠ some gx) (hK : ∀ p ∈ K, p.t ≠ 33) :
    LG w g bd d ys fs ve vn vy vf K [⟨33, 2, .slice (some ⟨gx, 0, none⟩) n c, n, flatS (es.set k (a, b))⟩] N [] ((W.setCell ⟨gx, k * 2, none⟩ (.int .i64 a)).setCell ⟨gx, k * 2 + 1, none⟩ (.int .i64 b)) := by
  have ho := (h.ow _ (List.mem_singleton.2 rfl)).2
  have hgx : w.heap.size ≤ gx := (ho.lt gx rfl).1
  obtain ⟨cs, hb⟩ : ∃ cs, Blok W gx 33 cs := by
    rcases ho.2 with ⟨e, _⟩ | ⟨r, cap, cur, e, _, e3, _⟩
    · cases e
    · injection e with e
      injection e with e
      injection e with e
      subst e
      exact ⟨cur.toList, by unfold Blok; rw [e3]⟩
  have hug : g ≠ gx := h.lc.urn.ne' hb (by decide)
  have hfx : Fx (fun i _ => i ≠ gx) W ((W.setCell ⟨gx, k * 2, none⟩ (.int .i64 a)).setCell ⟨gx, k * 2 + 1, none⟩ (.int .i64 b)) := (Fx.of_put W ⟨gx, k * 2, none⟩ _).trans (Fx.of_put _ ⟨gx, k * 2 + 1, none⟩ _)
  have hT : ∀ {t : TypeId} {b : Nat} {cs' : List Value}, Blok W b t cs' → t ≠ 33 → b ≠ gx := fun h1 h2 => blok_ne h1 hb h2
  have hO : ∀ {base size n : Nat} {e : TypeId} {v : Value} {xs : List Value}, W.ownsRow base e size v n xs → v.ownBlock ≠ some gx → ((W.setCell ⟨gx, k * 2, none⟩ (.int .i64 a)).setCell ⟨gx, k * 2 + 1, none⟩ (.int .i64 b)).ownsRow base e size v n xs := fun h1 h2 => own_fx h1 hfx fun b' _ _ hb' e => h2 (by rw [hb', e])
  have hO' : ∀ {base size n : Nat} {e : TypeId} {v : Value} {xs : List Value}, W.ownsRow base e size v n xs → e ≠ 33 → ((W.setCell ⟨gx, k * 2, none⟩ (.int .i64 a)).setCell ⟨gx, k * 2 + 1, none⟩ (.int .i64 b)).ownsRow base e size v n xs := fun h1 h2 => hO h1 (own_ne h1 hb h2)
  have hN : ∀ {v : Value} {l : List Nt}, NotesO W w.heap.size v l → NotesO ((W.setCell ⟨gx, k * 2, none⟩ (.int .i64 a)).setCell ⟨gx, k * 2 + 1, none⟩ (.int .i64 b)) w.heap.size v l := fun ⟨xs, e, h1, h2⟩ => ⟨xs, e, hO' h1 (by decide), fun p hp => hO' (h2 p hp) (by decide)⟩
  refine ⟨⟨(h.lc.urn.far hug _).far hug _, h.lc.hg, (h.lc.below.setCell (p := ⟨gx, k * 2, none⟩) hgx _).setCell (p := ⟨gx, k * 2 + 1, none⟩) hgx _, hfx _ _ _ (hT h.lc.kd (by decide)) h.lc.kd, hfx _ _ _ (hT h.lc.kw (by decide)) h.lc.kw, ?_, hO' h.lc.oy (by decide), hO' h.lc.of (by decide), h.lc.zd⟩,
    fun p hp => ⟨(h.bl p hp).1, (h.bl p hp).2.1, hfx _ _ _ (hT (h.bl p hp).2.2 (hK p hp)) (h.bl p hp).2.2⟩, fun r hr => ?_, fun p hp => hN (h.no p hp), by simp⟩
  · obtain ⟨ve', vn', e, h1, h2⟩ := h.lc.dat
    injection e with e
    simp at e
    obtain ⟨rfl, rfl⟩ := e
    exact ⟨_, _, rfl, hO h1 hne, hN h2⟩
  · rw [List.mem_singleton.1 hr]
    refine ⟨by show (33 : TypeId) ≠ 71; decide, ?_⟩
    have := ((ho.stored (k * 2) (.int .i64 a)).1.stored (k * 2 + 1) (.int .i64 b)).1
    rw [flatS_set es k (a, b)] at this
    exact this
end
end
end
end Go.Proofs.YtmfjfjahemlhkaaGreat
