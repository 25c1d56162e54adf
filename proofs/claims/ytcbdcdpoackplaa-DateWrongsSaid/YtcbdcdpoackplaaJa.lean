/- DateShifted, plainly: all years later, time turned round, stones bound. -/
import Derived.Test.YtcbdcdpoackplaaGj
namespace Go.Proofs.Ytcbdcdpoackplaa.Dt

/-- A note so many years later. -/
def Nt.moved (b : Int) (n : Nt) : Nt := ⟨n.kind, n.stone, n.other, n.years.map (· + b), if n.kind = 2 then n.lo + b else n.lo, if n.kind = 2 then n.hi + b else n.hi⟩
def movedE (b : Int) (s : Int × Int) : Int × Int := (s.1 + b, s.2 + b)
def Dat.moved (b : Int) (d : Dat) : Dat := ⟨d.stones, d.eras.map (movedE b), d.notes.map (Nt.moved b)⟩
/-- A note with time turned round. -/
def Nt.turned (n : Nt) : Nt := ⟨n.kind, n.stone, n.other, (n.years.map (- ·)).reverse, if n.kind = 1 then n.lo else -n.hi, if n.kind = 1 then n.hi else -n.lo⟩
def notEra (n : Nt) : Bool := decide (n.kind ≠ 3)
def Dat.turned (d : Dat) : Dat := ⟨d.stones, [], (d.notes.filter notEra).map Nt.turned⟩
/-- Each stone within some years. -/
def bounds (n : Nat) : List Nt := (List.range n).map fun i => spanN i (-900) 900
def Dat.bound (d : Dat) : Dat := ⟨d.stones, d.eras, d.notes.take (8 - d.stones) ++ bounds d.stones⟩
/-- All numbers of a dating are small. -/
structure Wee (d : Dat) : Prop where
  notes : ∀ n ∈ d.notes, (n.kind ≠ 1 → -1000 ≤ n.lo ∧ n.hi ≤ 1000) ∧ ∀ y ∈ n.years, -1000 ≤ y ∧ y ≤ 1000
  eras : ∀ s ∈ d.eras, -1000 ≤ s.1 ∧ s.2 ≤ 1000
theorem bounds_mem {n : Nat} {x : Nt} (h : x ∈ bounds n) : ∃ i, i < n ∧ x = spanN i (-900) 900 := by
  obtain ⟨i, hi, rfl⟩ := List.mem_map.1 h
  exact ⟨i, List.mem_range.1 hi, rfl⟩
theorem mem_bounds {n i : Nat} (h : i < n) : spanN i (-900) 900 ∈ bounds n := List.mem_map.2 ⟨i, List.mem_range.2 h, rfl⟩
theorem bounds_len (n : Nat) : (bounds n).length = n := by simp [bounds]
theorem bound_mem {d : Dat} {x : Nt} (h : x ∈ d.bound.notes) : x ∈ d.notes ∨ ∃ i, i < d.stones ∧ x = spanN i (-900) 900 := by
  rcases List.mem_append.1 h with h | h
  · exact .inl (List.mem_of_mem_take h)
  · exact .inr (bounds_mem h)
theorem bound_ok {d : Dat} (h : d.Ok) : d.bound.Ok := by
  have h1 := h.stones
  refine ⟨h.stones, h.eras, ⟨?_, fun n hn => ?_⟩⟩
  · show (d.notes.take (8 - d.stones) ++ bounds d.stones).length ≤ 8
    rw [List.length_append, bounds_len, List.length_take]
    omega
  · rcases bound_mem hn with hn | ⟨i, hi, rfl⟩
    · exact nt_ok (h.notes.2 n hn) rfl rfl
    · exact spanN_ok hi (by unfold SpanOk; omega)
theorem bound_is {d : Dat} {x : Nat → Int} (h : d.Is x) (hb : ∀ p, 1 ≤ p → p ≤ d.stones → -900 ≤ x p ∧ x p ≤ 900) : d.bound.Is x := by
  refine ⟨h.zero, h.base, fun n hn => ?_⟩
  rcases bound_mem hn with hn | ⟨i, hi, rfl⟩
  · exact h.notes n hn
  · have := hb (1 + i) (by omega) (by omega)
    simpa [spanN, Nt.right] using this
theorem bound_stone {d : Dat} {x : Nat → Int} (h : d.bound.Is x) (i : Nat) (hi : i < d.stones) : -900 ≤ x (1 + i) ∧ x (1 + i) ≤ 900 := by
  have := h.notes (spanN i (-900) 900) (List.mem_append_right _ (mem_bounds hi))
  simpa [spanN, Nt.right] using this
theorem bound_wee {d : Dat} (h : Wee d) : Wee d.bound := by
  refine ⟨fun n hn => ?_, h.eras⟩
  rcases bound_mem hn with hn | ⟨i, hi, rfl⟩
  · exact h.notes n hn
  · exact ⟨fun _ => by simp [spanN], by simp [spanN]⟩
theorem moved_nt {d : Dat} {b : Int} {n : Nt} (h : n.Ok d) (hw : (n.kind ≠ 1 → -1000 ≤ n.lo ∧ n.hi ≤ 1000) ∧ ∀ y ∈ n.years, -1000 ≤ y ∧ y ≤ 1000) (b1 : -500 ≤ b) (b2 : b ≤ 500) : (n.moved b).Ok (d.moved b) := by
  refine ⟨h.stone, h.kind, fun k => ?_, fun k => ?_, h.within, fun k => ?_, h.after⟩
  · obtain ⟨h1, h2, h3, h4, h5, h6, h7⟩ := h.years k
    have hk : n.kind = 1 := k
    refine ⟨h1, ?_, ?_, ?_, ?_, fun y hy => ?_, ?_⟩
    · show (if n.kind = 2 then n.lo + b else n.lo) = 0
      rw [if_neg (by omega)]; exact h2
    · show (if n.kind = 2 then n.hi + b else n.hi) = 0
      rw [if_neg (by omega)]; exact h3
    · show 1 ≤ (n.years.map (· + b)).length
      rw [List.length_map]; exact h4
    · show (n.years.map (· + b)).length ≤ 3
      rw [List.length_map]; exact h5
    · obtain ⟨z, hz, rfl⟩ := List.mem_map.1 hy
      have := hw.2 z hz
      show -3000 ≤ z + b ∧ z + b ≤ 3000
      omega
    · show (n.years.map (· + b)).Pairwise (· < ·)
      rw [List.pairwise_map]
      exact h7.imp fun h => by omega
  · obtain ⟨h1, h2⟩ := h.span k
    refine ⟨by show n.years.map (· + b) = []; rw [h1]; rfl, ?_⟩
    have := hw.1 k
    unfold SpanOk at h2 ⊢
    show -3000 ≤ (if n.kind = 2 then n.lo + b else n.lo) ∧ (if n.kind = 2 then n.lo + b else n.lo) ≤ (if n.kind = 2 then n.hi + b else n.hi) ∧ (if n.kind = 2 then n.hi + b else n.hi) ≤ 3000
    split <;> omega
  · have := h.era k
    have hk : n.kind = 3 := k
    refine ⟨by show n.other < (d.eras.map (movedE b)).length; rw [List.length_map]; exact this.1, ?_⟩
    show 1 ≤ (if n.kind = 2 then n.lo + b else n.lo)
    rw [if_neg (by omega)]
    exact this.2
theorem moved_ok {d : Dat} {b : Int} (h : d.Ok) (hw : Wee d) (b1 : -500 ≤ b) (b2 : b ≤ 500) : (d.moved b).Ok := by
  refine ⟨h.stones, ⟨by show (d.eras.map (movedE b)).length ≤ 3; rw [List.length_map]; exact h.eras.1, fun s hs => ?_⟩, ⟨by show (d.notes.map (Nt.moved b)).length ≤ 8; rw [List.length_map]; exact h.notes.1, fun n hn => ?_⟩⟩
  · obtain ⟨z, hz, rfl⟩ := List.mem_map.1 hs
    have h1 := h.eras.2 z hz
    have h2 := hw.eras z hz
    unfold SpanOk at h1 ⊢
    show -3000 ≤ z.1 + b ∧ z.1 + b ≤ z.2 + b ∧ z.2 + b ≤ 3000
    omega
  · obtain ⟨z, hz, rfl⟩ := List.mem_map.1 hn
    exact moved_nt (h.notes.2 z hz) (hw.notes z hz) b1 b2
/-- All stones and eras so many years later. -/
def shift (d : Dat) (b : Int) (x : Nat → Int) : Nat → Int := fun p => if (1 ≤ p ∧ p ≤ d.stones) ∨ (7 ≤ p ∧ p < 7 + d.eras.length) then x p + b else x p
theorem shift_stone {d : Dat} (b : Int) (x : Nat → Int) {i : Nat} (hi : i < d.stones) : shift d b x (1 + i) = x (1 + i) + b := by
  unfold shift
  rw [if_pos (.inl ⟨by omega, by omega⟩)]
theorem shift_era {d : Dat} (b : Int) (x : Nat → Int) {i : Nat} (hi : i < d.eras.length) : shift d b x (7 + i) = x (7 + i) + b := by
  unfold shift
  rw [if_pos (.inr ⟨by omega, by omega⟩)]
theorem moved_is {d : Dat} {b : Int} {x : Nat → Int} (h : d.Ok) (hx : d.Is x) (hs : ∀ i, i < d.stones → -3000 ≤ x (1 + i) + b ∧ x (1 + i) + b ≤ 3000) : (d.moved b).Is (shift d b x) := by
  have h6 := h.stones
  refine ⟨?_, fun p hp => ?_, fun n hn => ?_⟩
  · unfold shift
    rw [if_neg (by omega)]
    exact hx.zero
  · have hb := hx.base p hp
    unfold Dat.base at hb ⊢
    by_cases p0 : p = 0
    · subst p0
      unfold shift
      rw [if_pos rfl, if_neg (by omega)]
      rw [if_pos rfl] at hb
      exact hb
    · by_cases p7 : p < 7
      · rw [if_neg p0, if_pos p7] at hb ⊢
        unfold shift
        by_cases hps : p ≤ d.stones
        · rw [if_pos (.inl ⟨by omega, hps⟩)]
          have := hs (p - 1) (by omega)
          rw [show 1 + (p - 1) = p by omega] at this
          exact this
        · rw [if_neg (by omega)]
          exact hb
      · rw [if_neg p0, if_neg p7] at hb ⊢
        rw [List.getD_eq_getElem?_getD] at hb ⊢
        show ((d.eras.map (movedE b))[p - 7]?.getD (-3000, 3000)).1 ≤ shift d b x p ∧ shift d b x p ≤ ((d.eras.map (movedE b))[p - 7]?.getD (-3000, 3000)).2
        rw [List.getElem?_map]
        unfold shift
        cases hg : d.eras[p - 7]? with
        | none =>
          have hl := List.getElem?_eq_none_iff.1 hg
          rw [if_neg (by omega)]
          rw [hg] at hb
          exact hb
        | some s =>
          have hl := (List.getElem?_eq_some_iff.1 hg).1
          rw [if_pos (.inr ⟨by omega, by omega⟩)]
          rw [hg] at hb
          simp only [Option.getD_some, Option.map_some, movedE] at hb ⊢
          omega
  · obtain ⟨z, hz, rfl⟩ := List.mem_map.1 hn
    have hr := hx.notes z hz
    have ho := h.notes.2 z hz
    have hk := ho.kind
    have e1 := shift_stone b x ho.stone
    unfold Nt.right at hr ⊢
    show if z.kind = 1 then shift d b x (1 + z.stone) ∈ z.years.map (· + b) else if z.kind = 2 then (if z.kind = 2 then z.lo + b else z.lo) ≤ shift d b x (1 + z.stone) ∧ shift d b x (1 + z.stone) ≤ (if z.kind = 2 then z.hi + b else z.hi)
      else if z.kind = 3 then (if z.kind = 2 then z.lo + b else z.lo) ≤ shift d b x (1 + z.stone) - shift d b x (7 + z.other) + 1 ∧ shift d b x (1 + z.stone) - shift d b x (7 + z.other) + 1 ≤ (if z.kind = 2 then z.hi + b else z.hi)
      else (if z.kind = 2 then z.lo + b else z.lo) ≤ shift d b x (1 + z.stone) - shift d b x (1 + z.other) ∧ shift d b x (1 + z.stone) - shift d b x (1 + z.other) ≤ (if z.kind = 2 then z.hi + b else z.hi)
    rw [e1]
    by_cases k1 : z.kind = 1
    · rw [if_pos k1] at hr ⊢
      exact List.mem_map.2 ⟨_, hr, rfl⟩
    · by_cases k2 : z.kind = 2
      · rw [if_neg k1, if_pos k2] at hr ⊢
        rw [if_pos k2, if_pos k2]
        omega
      · rw [if_neg k2, if_neg k2]
        by_cases k3 : z.kind = 3
        · rw [if_neg k1, if_neg k2, if_pos k3] at hr ⊢
          rw [shift_era b x (ho.era k3).1]
          omega
        · rw [if_neg k1, if_neg k2, if_neg k3] at hr ⊢
          rw [shift_stone b x (ho.after (by omega)).1]
          omega
theorem moved_back {d : Dat} (b : Int) : (d.moved b).moved (-b) = d := by
  have e1 : ∀ s, movedE (-b) (movedE b s) = s := fun s => by
    unfold movedE
    exact Prod.ext (show s.1 + b + -b = s.1 by omega) (show s.2 + b + -b = s.2 by omega)
  have e2 : ∀ n, Nt.moved (-b) (Nt.moved b n) = n := fun n => by
    rcases n with ⟨k, s, o, ys, lo, hi⟩
    unfold Nt.moved
    simp only [List.map_map, Nt.mk.injEq, true_and]
    refine ⟨?_, ?_, ?_⟩
    · have : ((fun y : Int => y + -b) ∘ fun y : Int => y + b) = id := by funext y; show y + b + -b = y; omega
      rw [this, List.map_id]
    · split <;> omega
    · split <;> omega
  unfold Dat.moved
  rcases d with ⟨st, es, ns⟩
  simp only [List.map_map, Dat.mk.injEq, true_and]
  refine ⟨?_, ?_⟩
  · have : movedE (-b) ∘ movedE b = id := by funext s; exact e1 s
    rw [this, List.map_id]
  · have : Nt.moved (-b) ∘ Nt.moved b = id := by funext n; exact e2 n
    rw [this, List.map_id]
/-- Spans of two datings whose truths go over into one another. -/
theorem span_later {d x : Dat} (hd : d.Ok) (hx : x.Ok) (hm : d.may) {p : Nat} (hp : p < 10) {b : Int} (h1 : ∀ y, d.Is y → ∃ z, x.Is z ∧ z p = y p + b) (h2 : ∀ z, x.Is z → ∃ y, d.Is y ∧ z p = y p + b) :
    x.span p = ((d.span p).1 + b, (d.span p).2 + b) := by
  have hmx : x.may := by obtain ⟨y, hy⟩ := hm; obtain ⟨z, hz, _⟩ := h1 y hy; exact ⟨z, hz⟩
  obtain ⟨⟨a, ha, ea⟩, ⟨c, hc, ec⟩, hd3⟩ := span_spec hd hm p hp
  obtain ⟨⟨a', ha', ea'⟩, ⟨c', hc', ec'⟩, hx3⟩ := span_spec hx hmx p hp
  obtain ⟨z1, hz1, e1⟩ := h1 a ha
  obtain ⟨z2, hz2, e2⟩ := h1 c hc
  obtain ⟨y1, hy1, f1⟩ := h2 a' ha'
  obtain ⟨y2, hy2, f2⟩ := h2 c' hc'
  have k1 := hx3 z1 hz1
  have k2 := hx3 z2 hz2
  have k3 := hd3 y1 hy1
  have k4 := hd3 y2 hy2
  exact Prod.ext (show (x.span p).1 = (d.span p).1 + b by omega) (show (x.span p).2 = (d.span p).2 + b by omega)
theorem span_turned {d x : Dat} (hd : d.Ok) (hx : x.Ok) (hm : d.may) {p : Nat} (hp : p < 10) (h1 : ∀ y, d.Is y → ∃ z, x.Is z ∧ z p = - y p) (h2 : ∀ z, x.Is z → ∃ y, d.Is y ∧ z p = - y p) :
    x.span p = (-(d.span p).2, -(d.span p).1) := by
  have hmx : x.may := by obtain ⟨y, hy⟩ := hm; obtain ⟨z, hz, _⟩ := h1 y hy; exact ⟨z, hz⟩
  obtain ⟨⟨a, ha, ea⟩, ⟨c, hc, ec⟩, hd3⟩ := span_spec hd hm p hp
  obtain ⟨⟨a', ha', ea'⟩, ⟨c', hc', ec'⟩, hx3⟩ := span_spec hx hmx p hp
  obtain ⟨z1, hz1, e1⟩ := h1 a ha
  obtain ⟨z2, hz2, e2⟩ := h1 c hc
  obtain ⟨y1, hy1, f1⟩ := h2 a' ha'
  obtain ⟨y2, hy2, f2⟩ := h2 c' hc'
  have k1 := hx3 z1 hz1
  have k2 := hx3 z2 hz2
  have k3 := hd3 y1 hy1
  have k4 := hd3 y2 hy2
  exact Prod.ext (show (x.span p).1 = -(d.span p).2 by omega) (show (x.span p).2 = -(d.span p).1 by omega)
/-- What the statement asks of a bound dating and the one that is so many years later. -/
structure Later (d x : Dat) (b : Int) : Prop where
  ok : x.Ok
  may : x.may
  stones : x.stones = d.stones
  span : ∀ i, i < d.stones → x.span (1 + i) = ((d.span (1 + i)).1 + b, (d.span (1 + i)).2 + b)
theorem later_mk {d0 : Dat} {b : Int} (h0 : d0.Ok) (hw0 : Wee d0) (hm : d0.bound.may) (b1 : -500 ≤ b) (b2 : b ≤ 500) : Later d0.bound (d0.bound.moved b) b := by
  have h := bound_ok h0
  have hw := bound_wee hw0
  have h6 := h.stones
  have hx := moved_ok h hw b1 b2
  have f1 : ∀ y, d0.bound.Is y → (d0.bound.moved b).Is (shift d0.bound b y) := fun y hy => moved_is h hy fun i hi => by
    have := bound_stone hy i hi
    omega
  have f2 : ∀ z, (d0.bound.moved b).Is z → d0.bound.Is (shift (d0.bound.moved b) (-b) z) := fun z hz => by
    have h3 := moved_is (b := -b) hx hz fun i hi => by
      have hn := hz.notes (Nt.moved b (spanN i (-900) 900)) (List.mem_map.2 ⟨_, List.mem_append_right _ (mem_bounds hi), rfl⟩)
      simp [Nt.moved, spanN, Nt.right] at hn
      omega
    rw [moved_back] at h3
    exact h3
  refine ⟨hx, ?_, rfl, fun i hi => ?_⟩
  · obtain ⟨y, hy⟩ := hm
    exact ⟨_, f1 y hy⟩
  · have hi6 : i < 6 := by have : d0.bound.stones = d0.stones := rfl; omega
    exact span_later h hx hm (by omega) (fun y hy => ⟨_, f1 y hy, shift_stone b y hi⟩) (fun z hz => ⟨_, f2 z hz, by rw [shift_stone (d := d0.bound.moved b) (-b) z hi]; omega⟩)
theorem neg_right (n : Nt) (hk : notEra n = true) (x : Nat → Int) (h : n.right x) : n.turned.right (fun p => - x p) := by
  have h3 : n.kind ≠ 3 := by simpa [notEra] using hk
  unfold Nt.right at h ⊢
  show if n.kind = 1 then - x (1 + n.stone) ∈ (n.years.map (- ·)).reverse else if n.kind = 2 then (if n.kind = 1 then n.lo else -n.hi) ≤ - x (1 + n.stone) ∧ - x (1 + n.stone) ≤ (if n.kind = 1 then n.hi else -n.lo)
    else if n.kind = 3 then (if n.kind = 1 then n.lo else -n.hi) ≤ - x (1 + n.stone) - - x (7 + n.other) + 1 ∧ - x (1 + n.stone) - - x (7 + n.other) + 1 ≤ (if n.kind = 1 then n.hi else -n.lo)
    else (if n.kind = 1 then n.lo else -n.hi) ≤ - x (1 + n.stone) - - x (1 + n.other) ∧ - x (1 + n.stone) - - x (1 + n.other) ≤ (if n.kind = 1 then n.hi else -n.lo)
  by_cases k1 : n.kind = 1
  · rw [if_pos k1] at h ⊢
    rw [List.mem_reverse]
    exact List.mem_map.2 ⟨_, h, rfl⟩
  · rw [if_neg k1, if_neg h3] at h ⊢
    rw [if_neg k1, if_neg k1]
    split at h
    · rw [if_pos (by assumption)]; omega
    · rw [if_neg (by assumption)]; omega
theorem turned_nt {d d' : Dat} {n : Nt} (h : n.Ok d) (hk : notEra n = true) (hs : d'.stones = d.stones) : n.turned.Ok d' := by
  have h3 : n.kind ≠ 3 := by simpa [notEra] using hk
  refine ⟨by rw [hs]; exact h.stone, h.kind, fun k => ?_, fun k => ?_, h.within, fun k => absurd k h3, fun k => by rw [hs]; exact h.after k⟩
  · obtain ⟨h1, h2, h3, h4, h5, h6, h7⟩ := h.years k
    have hk : n.kind = 1 := k
    refine ⟨h1, ?_, ?_, ?_, ?_, fun y hy => ?_, ?_⟩
    · show (if n.kind = 1 then n.lo else -n.hi) = 0
      rw [if_pos hk]; exact h2
    · show (if n.kind = 1 then n.hi else -n.lo) = 0
      rw [if_pos hk]; exact h3
    · show 1 ≤ ((n.years.map (- ·)).reverse).length
      rw [List.length_reverse, List.length_map]; exact h4
    · show ((n.years.map (- ·)).reverse).length ≤ 3
      rw [List.length_reverse, List.length_map]; exact h5
    · obtain ⟨z, hz, rfl⟩ := List.mem_map.1 (List.mem_reverse.1 hy)
      have := h6 z hz
      show -3000 ≤ -z ∧ -z ≤ 3000
      omega
    · show ((n.years.map (- ·)).reverse).Pairwise (· < ·)
      rw [List.pairwise_reverse, List.pairwise_map]
      exact h7.imp fun h => by omega
  · obtain ⟨h1, h2⟩ := h.span k
    have hk : n.kind ≠ 1 := k
    refine ⟨by show (n.years.map (- ·)).reverse = []; rw [h1]; rfl, ?_⟩
    unfold SpanOk at h2 ⊢
    show -3000 ≤ (if n.kind = 1 then n.lo else -n.hi) ∧ (if n.kind = 1 then n.lo else -n.hi) ≤ (if n.kind = 1 then n.hi else -n.lo) ∧ (if n.kind = 1 then n.hi else -n.lo) ≤ 3000
    rw [if_neg hk, if_neg hk]
    omega
theorem turned_ok {d : Dat} (hs : 1 ≤ d.stones ∧ d.stones ≤ 6) (hl : d.notes.length ≤ 8) (hn : ∀ n ∈ d.notes, ∃ d', d'.stones = d.stones ∧ n.Ok d') : d.turned.Ok := by
  refine ⟨hs, ⟨by simp [Dat.turned], by simp [Dat.turned]⟩, ⟨?_, fun n h => ?_⟩⟩
  · show ((d.notes.filter notEra).map Nt.turned).length ≤ 8
    rw [List.length_map]
    have := List.length_filter_le notEra d.notes
    omega
  · obtain ⟨z, hz, rfl⟩ := List.mem_map.1 h
    obtain ⟨h1, h2⟩ := List.mem_filter.1 hz
    obtain ⟨d', e, ho⟩ := hn z h1
    exact turned_nt ho h2 e.symm
theorem turned_is {d : Dat} {x : Nat → Int} (h0 : x 0 = 0) (hb : ∀ p, p < 10 → -3000 ≤ x p ∧ x p ≤ 3000) (hn : ∀ n ∈ d.notes, notEra n = true → n.right x) : d.turned.Is (fun p => - x p) := by
  refine ⟨by show - x 0 = 0; omega, fun p hp => ?_, fun n h => ?_⟩
  · have := hb p hp
    unfold Dat.base
    by_cases p0 : p = 0
    · subst p0
      rw [if_pos rfl]
      show (0 : Int) ≤ - x 0 ∧ - x 0 ≤ 0
      omega
    · rw [if_neg p0]
      split
      · show -3000 ≤ - x p ∧ - x p ≤ 3000
        omega
      · show (([] : List (Int × Int)).getD (p - 7) (-3000, 3000)).1 ≤ - x p ∧ - x p ≤ (([] : List (Int × Int)).getD (p - 7) (-3000, 3000)).2
        simp
        omega
  · obtain ⟨z, hz, rfl⟩ := List.mem_map.1 h
    obtain ⟨h1, h2⟩ := List.mem_filter.1 hz
    exact neg_right z h2 x (hn z h1 h2)
theorem turned_turned (n : Nt) : n.turned.turned = n := by
  rcases n with ⟨k, s, o, ys, lo, hi⟩
  unfold Nt.turned
  simp only [Nt.mk.injEq, true_and]
  refine ⟨?_, ?_, ?_⟩
  · rw [List.map_reverse, List.reverse_reverse, List.map_map]
    have : ((fun y : Int => -y) ∘ fun y : Int => -y) = id := by funext y; show - -y = y; omega
    rw [this, List.map_id]
  · split <;> omega
  · split <;> omega
theorem is_bounds {d : Dat} (h : d.eras = []) {x : Nat → Int} (hx : d.Is x) : ∀ p, p < 10 → -3000 ≤ x p ∧ x p ≤ 3000 := fun p hp => by
  have hb := hx.base p hp
  unfold Dat.base at hb
  by_cases p0 : p = 0
  · rw [if_pos p0] at hb
    simp only at hb
    omega
  · rw [if_neg p0] at hb
    split at hb
    · exact hb
    · rw [h] at hb
      simpa using hb
/-- What the statement asks of a dating with time turned round, and turned back. -/
structure Round (y d2 : Dat) : Prop where
  oky : y.Ok
  ok : d2.Ok
  mayy : y.may
  may : d2.may
  stones : d2.stones = y.stones
  later : ∀ p q, p < y.stones → q < y.stones → d2.laterV (1 + p) (1 + q) = y.laterV (1 + q) (1 + p)
  span : ∀ i, i < y.stones → y.span (1 + i) = (-(d2.span (1 + i)).2, -(d2.span (1 + i)).1)
theorem verdict_same {T T' so so' : (Nat → Int) → Prop} {v u : Nat} (h : Verdict T so v) (h' : Verdict T' so' u) (h1 : ∀ y, T y → ∃ z, T' z ∧ (so y ↔ so' z)) (h2 : ∀ z, T' z → ∃ y, T y ∧ (so y ↔ so' z)) : v = u := by
  have a : v = 1 → u = 1 := fun e => h'.yes.2 fun z hz => by
    obtain ⟨y, hy, hs⟩ := h2 z hz
    exact hs.1 (h.yes.1 e y hy)
  have b : v = 2 → u = 2 := fun e => h'.no.2 fun z hz => by
    obtain ⟨y, hy, hs⟩ := h2 z hz
    exact fun k => h.no.1 e y hy (hs.2 k)
  have c : u = 1 → v = 1 := fun e => h.yes.2 fun z hz => by
    obtain ⟨y, hy, hs⟩ := h1 z hz
    exact hs.2 (h'.yes.1 e y hy)
  have d : u = 2 → v = 2 := fun e => h.no.2 fun z hz => by
    obtain ⟨y, hy, hs⟩ := h1 z hz
    exact fun k => h'.no.1 e y hy (hs.1 k)
  have r1 := h.rest
  have r2 := h'.rest
  omega
theorem turned_kinds {d : Dat} : ∀ n ∈ d.turned.notes, notEra n = true := fun n h => by
  obtain ⟨z, hz, rfl⟩ := List.mem_map.1 h
  exact (List.mem_filter.1 hz).2
theorem round_mk {d d0 : Dat} (h : d.Ok) (hm : d.may) (hb : ∀ x, d.Is x → ∀ p, p < 10 → -3000 ≤ x p ∧ x p ≤ 3000) (e1 : d0.stones = d.stones) (e2 : d0.notes = d.notes) : Round d0.turned d0.turned.turned := by
  have h6 := h.stones
  have oky : d0.turned.Ok := turned_ok (by rw [e1]; exact h.stones) (by rw [e2]; exact h.notes.1) fun n hn => ⟨d, e1.symm, h.notes.2 n (by rw [← e2]; exact hn)⟩
  have ok2 : d0.turned.turned.Ok := turned_ok oky.stones oky.notes.1 fun n hn => ⟨d0.turned, rfl, oky.notes.2 n hn⟩
  have my : d0.turned.may := by
    obtain ⟨x, hx⟩ := hm
    exact ⟨_, turned_is hx.zero (hb x hx) fun n hn _ => hx.notes n (by rw [← e2]; exact hn)⟩
  have f1 : ∀ z, d0.turned.Is z → d0.turned.turned.Is (fun p => - z p) := fun z hz => turned_is hz.zero (is_bounds rfl hz) fun n hn _ => hz.notes n hn
  have f2 : ∀ z, d0.turned.turned.Is z → d0.turned.Is (fun p => - z p) := fun z hz => by
    have h3 := turned_is (d := d0.turned.turned) hz.zero (is_bounds rfl hz) fun n hn _ => hz.notes n hn
    have e : d0.turned.turned.turned = d0.turned := by
      have g1 : ∀ l : List Nt, (∀ n ∈ l, notEra n = true) → l.filter notEra = l := fun l hl => List.filter_eq_self.2 hl
      have k1 := turned_kinds (d := d0)
      have k2 := turned_kinds (d := d0.turned)
      show (⟨d0.stones, [], (d0.turned.turned.notes.filter notEra).map Nt.turned⟩ : Dat) = d0.turned
      rw [g1 _ k2]
      show (⟨d0.stones, [], ((d0.turned.notes.filter notEra).map Nt.turned).map Nt.turned⟩ : Dat) = d0.turned
      rw [g1 _ k1, List.map_map]
      have : Nt.turned ∘ Nt.turned = id := by funext n; exact turned_turned n
      rw [this, List.map_id]
      rfl
    rw [e] at h3
    exact h3
  have m2 : d0.turned.turned.may := by
    obtain ⟨z, hz⟩ := my
    exact ⟨_, f1 z hz⟩
  have hst : d0.turned.stones = d.stones := e1
  exact ⟨oky, ok2, my, m2, rfl, fun p q hp hq => verdict_same (laterV_spec ok2 m2 _ _ (by omega) (by omega)) (laterV_spec oky my _ _ (by omega) (by omega)) (fun y hy => ⟨_, f2 y hy, by show y (1 + p) < y (1 + q) ↔ - y (1 + q) < - y (1 + p); omega⟩) (fun z hz => ⟨_, f1 z hz, by show - z (1 + p) < - z (1 + q) ↔ z (1 + q) < z (1 + p); omega⟩), fun i hi => span_turned ok2 oky m2 (by omega) (fun y hy => ⟨_, f2 y hy, rfl⟩) (fun z hz => ⟨_, f1 z hz, by omega⟩)⟩
end Go.Proofs.Ytcbdcdpoackplaa.Dt
