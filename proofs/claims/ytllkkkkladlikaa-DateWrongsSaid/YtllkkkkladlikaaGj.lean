/- What more is known: plain, and a span that is stored into a row of spans. -/
import Derived.Test.YtllkkkkladlikaaGi
namespace Go.Proofs.Ytllkkkkladlikaa
open Go.RowKit Dt
namespace Dt
/-- The note that a stone is within some years. -/
def spanN (k : Nat) (lo hi : Int) : Nt := ⟨2, k, 0, [], lo, hi⟩
def Dat.withEras (d : Dat) (es : List (Int × Int)) : Dat := ⟨d.stones, es, d.notes⟩
/-- Eras, the first k of which were made narrower. -/
structure Narrowed (es : List (Int × Int)) (k : Nat) (es' : List (Int × Int)) : Prop where
  len : es'.length = es.length
  sub : ∀ (i : Nat) (s t : Int × Int), es[i]? = some s → es'[i]? = some t → s.1 ≤ t.1 ∧ t.1 ≤ t.2 ∧ t.2 ≤ s.2
  rest : ∀ i, k ≤ i → es'[i]? = es[i]?
theorem Narrowed.start {es : List (Int × Int)} (h : ∀ s ∈ es, SpanOk s.1 s.2) : Narrowed es 0 es :=
  ⟨rfl, fun i s t hs ht => by rw [hs] at ht; injection ht with ht; subst ht; exact ⟨Int.le_refl _, (h s (List.mem_of_getElem? hs)).2.1, Int.le_refl _⟩, fun _ _ => rfl⟩
theorem Narrowed.step {es es' : List (Int × Int)} {k : Nat} {s : Int × Int} {a b : Int} (h : Narrowed es k es') (hs : es[k]? = some s) (h1 : s.1 ≤ a) (h2 : a ≤ b) (h3 : b ≤ s.2) : Narrowed es (k + 1) (es'.set k (a, b)) := by
  refine ⟨by rw [List.length_set, h.len], fun i s' t hs' ht => ?_, fun i hi => ?_⟩
  · by_cases e : k = i
    · subst e
      rw [hs] at hs'
      injection hs' with hs'
      subst hs'
      have hk := (List.getElem?_eq_some_iff.1 ht).1
      rw [List.getElem?_set_self (by simpa using hk)] at ht
      injection ht with ht
      subst ht
      exact ⟨h1, h2, h3⟩
    · rw [List.getElem?_set_ne e] at ht
      exact h.sub i s' t hs' ht
  · rw [List.getElem?_set_ne (by omega)]
    exact h.rest i (by omega)
theorem flatS_set : ∀ (l : List (Int × Int)) (k : Nat) (s : Int × Int), ((flatS l).set (k * 2) (.int .i64 s.1)).set (k * 2 + 1) (.int .i64 s.2) = flatS (l.set k s)
  | [], _, _ => rfl
  | x :: l, 0, s => by simp [flatS]
  | x :: l, k + 1, s => by
    have := flatS_set l k s
    have e : flatS (x :: l) = .int .i64 x.1 :: .int .i64 x.2 :: flatS l := by simp [flatS]
    rw [e, show (k + 1) * 2 = k * 2 + 1 + 1 by omega, show k * 2 + 1 + 1 + 1 = (k * 2 + 1) + 1 + 1 by omega]
    simp only [List.set_cons_succ, List.set_cons_zero]
    rw [this]
    simp [flatS]
theorem narrow_ok {d : Dat} {es' : List (Int × Int)} (h : d.Ok) (hn : Narrowed d.eras d.eras.length es') : (d.withEras es').Ok := by
  refine ⟨h.stones, ⟨by show es'.length ≤ 3; rw [hn.len]; exact h.eras.1, fun t ht => ?_⟩, ⟨h.notes.1, fun n hn' => nt_ok (h.notes.2 n hn') rfl hn.len⟩⟩
  obtain ⟨i, hi⟩ := List.getElem?_of_mem ht
  have hil : i < es'.length := (List.getElem?_eq_some_iff.1 hi).1
  obtain ⟨s, hs⟩ : ∃ s, d.eras[i]? = some s := ⟨_, List.getElem?_eq_getElem (by have := hn.len; omega)⟩
  have h1 := hn.sub i s t hs hi
  have h2 := h.eras.2 s (List.mem_of_getElem? hs)
  unfold SpanOk at h2 ⊢
  omega
theorem narrow_is {d : Dat} {es' : List (Int × Int)} (hn : Narrowed d.eras d.eras.length es') (x : Nat → Int) (h : (d.withEras es').Is x) : d.Is x := by
  refine ⟨h.zero, fun p hp => ?_, h.notes⟩
  have hb := h.base p hp
  unfold Dat.base at hb ⊢
  by_cases p0 : p = 0
  · rw [if_pos p0] at hb ⊢
    exact hb
  · by_cases p7 : p < 7
    · rw [if_neg p0, if_pos p7] at hb ⊢
      exact hb
    · rw [if_neg p0, if_neg p7] at hb ⊢
      show (d.eras.getD (p - 7) (-3000, 3000)).1 ≤ x p ∧ x p ≤ (d.eras.getD (p - 7) (-3000, 3000)).2
      rw [List.getD_eq_getElem?_getD] at hb ⊢
      have hb' : ((es'[p - 7]?).getD (-3000, 3000)).1 ≤ x p ∧ x p ≤ ((es'[p - 7]?).getD (-3000, 3000)).2 := hb
      cases hg : d.eras[p - 7]? with
      | none =>
        have : es'[p - 7]? = none := by
          rw [List.getElem?_eq_none_iff] at hg ⊢
          rw [hn.len]; exact hg
        rw [this] at hb'
        exact hb'
      | some s =>
        obtain ⟨t, ht⟩ : ∃ t, es'[p - 7]? = some t := ⟨_, List.getElem?_eq_getElem (by rw [hn.len]; exact (List.getElem?_eq_some_iff.1 hg).1)⟩
        rw [ht] at hb'
        have := hn.sub _ s t hg ht
        simp only [Option.getD_some] at hb' ⊢
        omega
theorem spanN_ok {d : Dat} {k : Nat} {lo hi : Int} (hk : k < d.stones) (h : SpanOk lo hi) : (spanN k lo hi).Ok d :=
  ⟨hk, ⟨by simp [spanN], by simp [spanN]⟩, fun h => by simp [spanN] at h, fun _ => ⟨rfl, h⟩, fun _ => rfl, fun h => by simp [spanN] at h, fun h => by simp [spanN] at h⟩
/-- Less truths: no span is wider, and a verdict that is sure stays. -/
theorem less_span {d x : Dat} (hd : d.Ok) (hx : x.Ok) (hm : x.may) (hsub : ∀ y, x.Is y → d.Is y) (p : Nat) (hp : p < 10) : (d.span p).1 ≤ (x.span p).1 ∧ (x.span p).2 ≤ (d.span p).2 := by
  obtain ⟨⟨a, ha, h1⟩, ⟨b, hb, h2⟩, _⟩ := span_spec hx hm p hp
  have h3 := (span_spec hd (by obtain ⟨y, hy⟩ := hm; exact ⟨y, hsub y hy⟩) p hp).2.2
  have ha' := h3 a (hsub a ha)
  have hb' := h3 b (hsub b hb)
  omega
theorem less_verdict {T T' so : (Nat → Int) → Prop} {v u : Nat} (h : Verdict T so v) (h' : Verdict T' so u) (hsub : ∀ y, T' y → T y) : v = 3 ∨ u = v := by
  rcases h.rest with e | e | e
  · exact .inr ((h'.yes.2 fun y hy => h.yes.1 e y (hsub y hy)).trans e.symm)
  · exact .inr ((h'.no.2 fun y hy => h.no.1 e y (hsub y hy)).trans e.symm)
  · exact .inl e
/-- What more is known of a dating. -/
structure More (d x : Dat) : Prop where
  ok : x.Ok
  sub : ∀ y, x.Is y → d.Is y
  stones : x.stones = d.stones
  eras : x.eras.length = d.eras.length
theorem more_mk {d : Dat} {es' : List (Int × Int)} {k : Nat} {lo hi : Int} (h : d.Ok) (hn : Narrowed d.eras d.eras.length es') (hk : k < d.stones) (hs : SpanOk lo hi) (h8 : d.notes.length < 8) : More d ((d.withEras es').plus (spanN k lo hi)) :=
  ⟨plus_ok (narrow_ok h hn) (spanN_ok hk hs) h8, fun y hy => narrow_is hn y ((plus_is y).1 hy).1, rfl, hn.len⟩
end Dt
section
variable {w W : World} {g bd : Nat} {d : Dat} {ys fs : List Int} {ve vn vy vf : Value} {K : List OBlok} {N : List (Value × List Nt)} {es : List (Int × Int)}
/-- A span stored into a row of spans that is none of the dating's. -/
theorem LG.span {gx n c k : Nat} {a b : Int} (h : LG w g bd d ys fs ve vn vy vf K [⟨39, 2, .slice (some ⟨gx, 0, none⟩) n c, n, flatS es⟩] N [] W) (hne : ve.ownBlock ≠ some gx) (hK : ∀ p ∈ K, p.t ≠ 39) :
    LG w g bd d ys fs ve vn vy vf K [⟨39, 2, .slice (some ⟨gx, 0, none⟩) n c, n, flatS (es.set k (a, b))⟩] N [] ((W.setCell ⟨gx, k * 2, none⟩ (.int .i64 a)).setCell ⟨gx, k * 2 + 1, none⟩ (.int .i64 b)) := by
  have ho := (h.ow _ (List.mem_singleton.2 rfl)).2
  have hgx : w.heap.size ≤ gx := (ho.lt gx rfl).1
  obtain ⟨cs, hb⟩ : ∃ cs, Blok W gx 39 cs := by
    rcases ho.2 with ⟨e, _⟩ | ⟨r, cap, cur, e, _, e3, _⟩
    · cases e
    · injection e with e
      injection e with e
      injection e with e
      subst e
      exact ⟨cur.toList, by unfold Blok; rw [e3]⟩
  have hug : g ≠ gx := h.lc.urn.ne' hb (by decide)
  have hfx : Fx (fun i _ => i ≠ gx) W ((W.setCell ⟨gx, k * 2, none⟩ (.int .i64 a)).setCell ⟨gx, k * 2 + 1, none⟩ (.int .i64 b)) := (Fx.of_put W ⟨gx, k * 2, none⟩ _).trans (Fx.of_put _ ⟨gx, k * 2 + 1, none⟩ _)
  have hT : ∀ {t : TypeId} {b : Nat} {cs' : List Value}, Blok W b t cs' → t ≠ 39 → b ≠ gx := fun h1 h2 => blok_ne h1 hb h2
  have hO : ∀ {base size n : Nat} {e : TypeId} {v : Value} {xs : List Value}, W.ownsRow base e size v n xs → v.ownBlock ≠ some gx → ((W.setCell ⟨gx, k * 2, none⟩ (.int .i64 a)).setCell ⟨gx, k * 2 + 1, none⟩ (.int .i64 b)).ownsRow base e size v n xs := fun h1 h2 => own_fx h1 hfx fun b' _ _ hb' e => h2 (by rw [hb', e])
  have hO' : ∀ {base size n : Nat} {e : TypeId} {v : Value} {xs : List Value}, W.ownsRow base e size v n xs → e ≠ 39 → ((W.setCell ⟨gx, k * 2, none⟩ (.int .i64 a)).setCell ⟨gx, k * 2 + 1, none⟩ (.int .i64 b)).ownsRow base e size v n xs := fun h1 h2 => hO h1 (own_ne h1 hb h2)
  have hN : ∀ {v : Value} {l : List Nt}, NotesO W w.heap.size v l → NotesO ((W.setCell ⟨gx, k * 2, none⟩ (.int .i64 a)).setCell ⟨gx, k * 2 + 1, none⟩ (.int .i64 b)) w.heap.size v l := fun ⟨xs, e, h1, h2⟩ => ⟨xs, e, hO' h1 (by decide), fun p hp => hO' (h2 p hp) (by decide)⟩
  refine ⟨⟨(h.lc.urn.far hug _).far hug _, h.lc.hg, (h.lc.below.setCell (p := ⟨gx, k * 2, none⟩) hgx _).setCell (p := ⟨gx, k * 2 + 1, none⟩) hgx _, hfx _ _ _ (hT h.lc.kd (by decide)) h.lc.kd, hfx _ _ _ (hT h.lc.kw (by decide)) h.lc.kw, ?_, hO' h.lc.oy (by decide), hO' h.lc.of (by decide), h.lc.zd⟩,
    fun p hp => ⟨(h.bl p hp).1, (h.bl p hp).2.1, hfx _ _ _ (hT (h.bl p hp).2.2 (hK p hp)) (h.bl p hp).2.2⟩, fun r hr => ?_, fun p hp => hN (h.no p hp), by simp⟩
  · obtain ⟨ve', vn', e, h1, h2⟩ := h.lc.dat
    injection e with e
    simp at e
    obtain ⟨rfl, rfl⟩ := e
    exact ⟨_, _, rfl, hO h1 hne, hN h2⟩
  · rw [List.mem_singleton.1 hr]
    refine ⟨by show (39 : TypeId) ≠ 69; decide, ?_⟩
    have := ((ho.stored (k * 2) (.int .i64 a)).1.stored (k * 2 + 1) (.int .i64 b)).1
    rw [flatS_set es k (a, b)] at this
    exact this
end
end Go.Proofs.Ytllkkkkladlikaa
