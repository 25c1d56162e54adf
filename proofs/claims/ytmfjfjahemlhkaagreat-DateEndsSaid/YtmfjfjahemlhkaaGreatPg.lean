/- DateEnds, plainly: what is gathered is all truths; ends, counts, verdicts. -/
import Derived.Test.YtmfjfjahemlhkaaGreatPe
namespace Go.Proofs.YtmfjfjahemlhkaaGreat
open Go.RowKit Dt

/-- A small dating, as the statement makes them. -/
structure Little (d : Dat) : Prop where
  ok : d.Ok
  st3 : d.stones ≤ 3
  er1 : d.eras.length ≤ 1
  ers : ∀ s ∈ d.eras, -2 ≤ s.1 ∧ s.2 ≤ 2
  each : ∀ i, i < d.stones → ∃ lo hi : Int, 0 ≤ lo ∧ hi ≤ 7 ∧ spanN i lo hi ∈ d.notes
theorem erasP_mem (d : Dat) (ys : List Int) : ∀ (m : Nat) (fs : List Int) (p : List Int × List Int), p ∈ erasP d ys m fs ↔
    ∃ gs : List Int, p = (ys, fs ++ gs) ∧ gs.length = m ∧ (∀ (i : Nat) (g : Int), gs[i]? = some g → (d.eras.getD (fs.length + i) (0, 0)).1 ≤ g ∧ g ≤ (d.eras.getD (fs.length + i) (0, 0)).2) ∧ ∀ n ∈ d.notes, rightB n ys (fs ++ gs) = true
  | 0, fs, p => by
    unfold erasP
    constructor
    · intro h
      split at h
      · rename_i hall
        rw [List.mem_singleton.1 h]
        exact ⟨[], by simp, rfl, by simp, by simpa using hall⟩
      · cases h
    · rintro ⟨gs, rfl, hl, _, hr⟩
      have : gs = [] := List.length_eq_zero_iff.1 hl
      subst this
      rw [if_pos (by rw [List.all_eq_true]; simpa using hr)]
      simp
  | m + 1, fs, p => by
    unfold erasP
    rw [List.mem_flatMap]
    constructor
    · rintro ⟨n, hn, hp⟩
      obtain ⟨gs, rfl, hl, hg, hr⟩ := (erasP_mem d ys m (fs ++ [n]) p).1 hp
      have hb := (mem_rangeI _ _ _).1 hn
      refine ⟨n :: gs, by simp, by simp [hl], fun i g hi => ?_, by simpa using hr⟩
      cases i with
      | zero =>
        simp at hi
        subst hi
        exact hb
      | succ i =>
        have := hg i g (by simpa using hi)
        rw [show (fs ++ [n]).length + i = fs.length + (i + 1) by simp; omega] at this
        exact this
    · rintro ⟨gs, rfl, hl, hg, hr⟩
      cases gs with
      | nil => simp at hl
      | cons n gs =>
        refine ⟨n, (mem_rangeI _ _ _).2 (hg 0 n (by simp)), (erasP_mem d ys m (fs ++ [n]) _).2 ⟨gs, by simp, by simpa using hl, fun i g hi => ?_, by simpa using hr⟩⟩
        have := hg (i + 1) g (by simpa using hi)
        rw [show (fs ++ [n]).length + i = fs.length + (i + 1) by simp; omega]
        exact this
theorem stonesP_mem (d : Dat) : ∀ (m : Nat) (ys : List Int) (p : List Int × List Int), p ∈ stonesP d m ys ↔ ∃ zs : List Int, zs.length = m ∧ (∀ z ∈ zs, 0 ≤ z ∧ z ≤ 7) ∧ p ∈ erasP d (ys ++ zs) d.eras.length []
  | 0, ys, p => by
    unfold stonesP
    constructor
    · intro h
      exact ⟨[], rfl, by simp, by simpa using h⟩
    · rintro ⟨zs, hl, _, h⟩
      have : zs = [] := List.length_eq_zero_iff.1 hl
      subst this
      simpa using h
  | m + 1, ys, p => by
    unfold stonesP
    rw [List.mem_flatMap]
    constructor
    · rintro ⟨n, hn, hp⟩
      obtain ⟨zs, hl, hz, h⟩ := (stonesP_mem d m (ys ++ [n]) p).1 hp
      refine ⟨n :: zs, by simp [hl], fun z hz' => ?_, by simpa using h⟩
      rcases List.mem_cons.1 hz' with rfl | hz'
      · exact (mem_rangeI _ _ _).1 hn
      · exact hz z hz'
    · rintro ⟨zs, hl, hz, h⟩
      cases zs with
      | nil => simp at hl
      | cons n zs =>
        exact ⟨n, (mem_rangeI _ _ _).2 (hz n (List.mem_cons_self ..)), (stonesP_mem d m (ys ++ [n]) p).2 ⟨zs, by simpa using hl, fun z hz' => hz z (List.mem_cons_of_mem _ hz'), by simpa using h⟩⟩
/-- All truths. -/
def allP (d : Dat) : List (List Int × List Int) := stonesP d d.stones []
theorem allP_is {d : Dat} (h : Little d) {p : List Int × List Int} (hp : p ∈ allP d) : p.1.length = d.stones ∧ p.2.length = d.eras.length ∧ (∀ y ∈ p.1, 0 ≤ y ∧ y ≤ 7) ∧ (∀ y ∈ p.2, -2 ≤ y ∧ y ≤ 2) ∧ d.Is (xOf p.1 p.2) := by
  obtain ⟨zs, hl, hz, hp⟩ := (stonesP_mem d _ _ _).1 hp
  obtain ⟨gs, rfl, hgl, hg, hr⟩ := (erasP_mem d _ _ _ _).1 hp
  simp only [List.nil_append, List.length_nil, Nat.zero_add] at hg hr ⊢
  have hgb : ∀ (i : Nat) (g : Int), gs[i]? = some g → ∃ s, d.eras[i]? = some s ∧ s.1 ≤ g ∧ g ≤ s.2 := fun i g hi => by
    have hil := (List.getElem?_eq_some_iff.1 hi).1
    have hb := hg i g hi
    obtain ⟨s, hs⟩ : ∃ s, d.eras[i]? = some s := ⟨_, List.getElem?_eq_getElem (by omega)⟩
    rw [List.getD_eq_getElem?_getD, hs] at hb
    exact ⟨s, hs, hb⟩
  refine ⟨hl, hgl, hz, fun y hy => ?_, ⟨by simp [xOf], fun q hq => ?_, fun n hn => (rightB_iff (h.ok.notes.2 n hn) h.ok).1 (hr n hn)⟩⟩
  · obtain ⟨i, hi⟩ := List.getElem?_of_mem hy
    obtain ⟨s, hs, h1, h2⟩ := hgb i y hi
    have := h.ers s (List.mem_of_getElem? hs)
    omega
  · unfold Dat.base
    by_cases q0 : q = 0
    · subst q0
      simp [xOf]
    · rw [if_neg q0]
      by_cases q7 : q < 7
      · rw [if_pos q7]
        unfold xOf
        rw [if_neg q0, if_pos q7, List.getD_eq_getElem?_getD]
        cases hgg : zs[q - 1]? with
        | none => simp
        | some y =>
          have := hz y (List.mem_of_getElem? hgg)
          simp
          omega
      · rw [if_neg q7]
        unfold xOf
        rw [if_neg q0, if_neg q7, List.getD_eq_getElem?_getD, List.getD_eq_getElem?_getD]
        cases hgg : gs[q - 7]? with
        | none =>
          have : d.eras[q - 7]? = none := by
            rw [List.getElem?_eq_none_iff] at hgg ⊢
            omega
          simp [this]
        | some y =>
          obtain ⟨s, hs, h1, h2⟩ := hgb _ y hgg
          simp [hs, h1, h2]
theorem is_allP {d : Dat} (h : Little d) {x : Nat → Int} (hx : d.Is x) : ∃ p ∈ allP d, (∀ i, i < d.stones → p.1[i]? = some (x (1 + i))) ∧ ∀ i, i < d.eras.length → p.2[i]? = some (x (7 + i)) := by
  have h6 := h.ok.stones
  have he3 := h.ok.eras.1
  obtain ⟨ys, hys⟩ : ∃ ys : List Int, ys = (List.range d.stones).map fun i => x (1 + i) := ⟨_, rfl⟩
  obtain ⟨fs, hfs⟩ : ∃ fs : List Int, fs = (List.range d.eras.length).map fun i => x (7 + i) := ⟨_, rfl⟩
  have e1 : ∀ i, i < d.stones → ys[i]? = some (x (1 + i)) := fun i hi => by rw [hys]; simp [hi]
  have e2 : ∀ i, i < d.eras.length → fs[i]? = some (x (7 + i)) := fun i hi => by rw [hfs]; simp [hi]
  have hyl : ys.length = d.stones := by rw [hys]; simp
  have hfl : fs.length = d.eras.length := by rw [hfs]; simp
  refine ⟨(ys, fs), (stonesP_mem d _ _ _).2 ⟨ys, hyl, fun z hz => ?_, (erasP_mem d _ _ _ _).2 ⟨fs, by simp, hfl, fun i g hi => ?_, fun n hn => ?_⟩⟩, e1, e2⟩
  · obtain ⟨i, hi⟩ := List.getElem?_of_mem hz
    have hil := (List.getElem?_eq_some_iff.1 hi).1
    rw [e1 i (by omega)] at hi
    injection hi with hi
    obtain ⟨lo, hi', h1, h2, hn⟩ := h.each i (by omega)
    have := hx.notes _ hn
    simp [spanN, Nt.right] at this
    omega
  · have hil := (List.getElem?_eq_some_iff.1 hi).1
    rw [e2 i (by omega)] at hi
    injection hi with hi
    have hb := hx.base (7 + i) (by omega)
    unfold Dat.base at hb
    rw [if_neg (by omega), if_neg (by omega), show 7 + i - 7 = i by omega] at hb
    obtain ⟨s, hs⟩ : ∃ s, d.eras[i]? = some s := ⟨_, List.getElem?_eq_getElem (by omega)⟩
    rw [List.getD_eq_getElem?_getD, hs] at hb
    simp only [List.length_nil, Nat.zero_add]
    rw [List.getD_eq_getElem?_getD, hs, ← hi]
    exact hb
  · simp only [List.nil_append]
    have hno := h.ok.notes.2 n hn
    rw [rightB_iff hno h.ok]
    have hr := hx.notes n hn
    have a1 : xOf ys fs (1 + n.stone) = x (1 + n.stone) := xOf_stone ys fs n.stone _ (by have := hno.stone; omega) (e1 _ hno.stone)
    unfold Nt.right at hr ⊢
    rw [a1]
    by_cases k1 : n.kind = 1
    · rw [if_pos k1] at hr ⊢
      exact hr
    · by_cases k2 : n.kind = 2
      · rw [if_neg k1, if_pos k2] at hr ⊢
        exact hr
      · by_cases k3 : n.kind = 3
        · rw [if_neg k1, if_neg k2, if_pos k3] at hr ⊢
          rw [xOf_era ys fs n.other _ (e2 _ (hno.era k3).1)]
          exact hr
        · have h4 := hno.after (by have := hno.kind; omega)
          rw [if_neg k1, if_neg k2, if_neg k3] at hr ⊢
          rw [xOf_stone ys fs n.other _ (by omega) (e1 _ h4.1)]
          exact hr
theorem allP_nil {d : Dat} (h : Little d) : allP d = [] ↔ d.all = [] := by
  constructor
  · intro he
    refine Classical.byContradiction fun hne => ?_
    obtain ⟨x, hx⟩ := (may_iff h.ok).2 hne
    obtain ⟨p, hp, _⟩ := is_allP h hx
    rw [he] at hp
    cases hp
  · intro he
    cases hl : allP d with
    | nil => rfl
    | cons p l =>
      exfalso
      have hp : p ∈ allP d := by rw [hl]; exact List.mem_cons_self ..
      exact (may_iff h.ok).1 ⟨_, (allP_is h hp).2.2.2.2⟩ he
theorem flat_len {α β : Type} (f : α → List β) (c : Nat) : ∀ l : List α, (∀ x ∈ l, (f x).length ≤ c) → (l.flatMap f).length ≤ l.length * c
  | [], _ => by simp
  | x :: l, h => by
    have h1 := h x (List.mem_cons_self ..)
    have h2 := flat_len f c l fun y hy => h y (List.mem_cons_of_mem _ hy)
    rw [List.flatMap_cons, List.length_append, List.length_cons, Nat.succ_mul]
    omega
theorem erasP_len {d : Dat} (h : Little d) (ys : List Int) : ∀ (m : Nat) (fs : List Int), fs.length + m = d.eras.length → (erasP d ys m fs).length ≤ 5 ^ m
  | 0, fs, _ => by
    unfold erasP
    split <;> simp
  | m + 1, fs, hf => by
    unfold erasP
    refine Nat.le_trans (flat_len _ (5 ^ m) _ fun n _ => erasP_len h ys m (fs ++ [n]) (by simp; omega)) ?_
    rw [rangeI_len, Nat.pow_succ, Nat.mul_comm]
    obtain ⟨s, hs⟩ : ∃ s, d.eras[fs.length]? = some s := ⟨_, List.getElem?_eq_getElem (by omega)⟩
    have hb := h.ers s (List.mem_of_getElem? hs)
    rw [List.getD_eq_getElem?_getD, hs]
    exact Nat.mul_le_mul_left _ (by simp only [Option.getD_some]; omega)
theorem stonesP_len {d : Dat} (h : Little d) : ∀ (m : Nat) (ys : List Int), (stonesP d m ys).length ≤ 8 ^ m * 5 ^ d.eras.length
  | 0, ys => by
    unfold stonesP
    simpa using erasP_len h ys d.eras.length [] (by simp)
  | m + 1, ys => by
    unfold stonesP
    refine Nat.le_trans (flat_len _ (8 ^ m * 5 ^ d.eras.length) _ fun n _ => stonesP_len h m (ys ++ [n])) ?_
    rw [show (rangeI 0 7).length = 8 from rfl, Nat.pow_succ, Nat.mul_comm (8 ^ m) 8, Nat.mul_assoc]
    exact Nat.le_refl _
theorem allP_len {d : Dat} (h : Little d) : (allP d).length ≤ 2560 := by
  refine Nat.le_trans (stonesP_len h d.stones []) ?_
  have h1 : 8 ^ d.stones ≤ 8 ^ 3 := Nat.pow_le_pow_right (by omega) h.st3
  have h2 : 5 ^ d.eras.length ≤ 5 ^ 1 := Nat.pow_le_pow_right (by omega) h.er1
  exact Nat.le_trans (Nat.mul_le_mul h1 h2) (by decide)
/-- The least and the greatest of some numbers, as the statement finds them. -/
def lowOf (l : List Int) : Int := l.foldl (fun a y => min a y) 99
def highOf (l : List Int) : Int := l.foldl (fun a y => max a y) (-99)
theorem lowOf_snoc (l : List Int) (y : Int) : lowOf (l ++ [y]) = min (lowOf l) y := by simp [lowOf]
theorem highOf_snoc (l : List Int) (y : Int) : highOf (l ++ [y]) = max (highOf l) y := by simp [highOf]
theorem lowOf_le : ∀ (l : List Int) (a : Int), (l.foldl (fun a y => min a y) a ≤ a) ∧ ∀ y ∈ l, l.foldl (fun a y => min a y) a ≤ y
  | [], a => ⟨by simp, by simp⟩
  | y :: l, a => by
    obtain ⟨h1, h2⟩ := lowOf_le l (min a y)
    rw [List.foldl_cons]
    refine ⟨by omega, fun z hz => ?_⟩
    rcases List.mem_cons.1 hz with rfl | hz
    · omega
    · exact h2 z hz
theorem lowOf_mem : ∀ (l : List Int) (a : Int), l.foldl (fun a y => min a y) a = a ∨ l.foldl (fun a y => min a y) a ∈ l
  | [], a => .inl rfl
  | y :: l, a => by
    rw [List.foldl_cons]
    rcases lowOf_mem l (min a y) with h | h
    · rw [h]
      by_cases e : a ≤ y
      · exact .inl (by omega)
      · exact .inr (by rw [show min a y = y by omega]; exact List.mem_cons_self ..)
    · exact .inr (List.mem_cons_of_mem _ h)
theorem highOf_neg : ∀ (l : List Int) (a : Int), l.foldl (fun a y => max a y) a = - (l.map (- ·)).foldl (fun a y => min a y) (-a)
  | [], a => by simp
  | y :: l, a => by
    rw [List.foldl_cons, highOf_neg l (max a y), List.map_cons, List.foldl_cons]
    rw [show -(max a y) = min (-a) (-y) by omega]
theorem lowOf_eq {l : List Int} {m : Int} (h1 : m ∈ l) (h2 : ∀ y ∈ l, m ≤ y) (h3 : m ≤ 99) : lowOf l = m := by
  have a := (lowOf_le l 99).2 m h1
  rcases lowOf_mem l 99 with h | h
  · unfold lowOf
    have : m = 99 := by omega
    omega
  · have := h2 _ h
    unfold lowOf
    omega
theorem highOf_eq {l : List Int} {m : Int} (h1 : m ∈ l) (h2 : ∀ y ∈ l, y ≤ m) (h3 : -99 ≤ m) : highOf l = m := by
  unfold highOf
  rw [highOf_neg]
  have := lowOf_eq (l := l.map (- ·)) (m := -m) (List.mem_map.2 ⟨m, h1, rfl⟩) (fun y hy => by
    obtain ⟨z, hz, rfl⟩ := List.mem_map.1 hy
    have := h2 z hz
    omega) (by omega)
  unfold lowOf at this
  rw [show (-(-99) : Int) = 99 from rfl]
  omega
/-- The years of a stone, in all truths. -/
def stoneYs (d : Dat) (i : Nat) : List Int := (allP d).map fun p => p.1.getD i 0
def eraYs (d : Dat) (i : Nat) : List Int := (allP d).map fun p => p.2.getD i 0
theorem stone_ends {d : Dat} (h : Little d) (hm : d.may) {i : Nat} (hi : i < d.stones) : (lowOf (stoneYs d i), highOf (stoneYs d i)) = d.span (1 + i) := by
  have h6 := h.ok.stones
  obtain ⟨⟨a, ha, h1⟩, ⟨b, hb, h2⟩, h3⟩ := span_spec h.ok hm (1 + i) (by omega)
  have hin : ∀ x, d.Is x → x (1 + i) ∈ stoneYs d i := fun x hx => by
    obtain ⟨p, hp, e1, _⟩ := is_allP h hx
    exact List.mem_map.2 ⟨p, hp, by rw [List.getD_eq_getElem?_getD, e1 i hi]; rfl⟩
  have hout : ∀ y ∈ stoneYs d i, ∃ x, d.Is x ∧ x (1 + i) = y ∧ 0 ≤ y ∧ y ≤ 7 := fun y hy => by
    obtain ⟨p, hp, rfl⟩ := List.mem_map.1 hy
    obtain ⟨l1, l2, l3, l4, l5⟩ := allP_is h hp
    obtain ⟨z, hz⟩ : ∃ z, p.1[i]? = some z := ⟨_, List.getElem?_eq_getElem (by omega)⟩
    refine ⟨_, l5, ?_, ?_⟩
    · rw [xOf_stone _ _ i z (by omega) hz, List.getD_eq_getElem?_getD, hz]; rfl
    · rw [List.getD_eq_getElem?_getD, hz]
      exact l3 z (List.mem_of_getElem? hz)
  have ma := hin a ha
  have mb := hin b hb
  obtain ⟨_, _, _, a0, a7⟩ := hout _ ma
  obtain ⟨_, _, _, b0, b7⟩ := hout _ mb
  refine Prod.ext ?_ ?_
  · rw [← h1]
    refine lowOf_eq ma (fun y hy => ?_) (by omega)
    obtain ⟨x, hx, rfl, _⟩ := hout y hy
    have := h3 x hx
    omega
  · rw [← h2]
    refine highOf_eq mb (fun y hy => ?_) (by omega)
    obtain ⟨x, hx, rfl, _⟩ := hout y hy
    have := h3 x hx
    omega
theorem era_ends {d : Dat} (h : Little d) (hm : d.may) {i : Nat} (hi : i < d.eras.length) : (lowOf (eraYs d i), highOf (eraYs d i)) = d.span (7 + i) := by
  have h3' := h.ok.eras.1
  obtain ⟨⟨a, ha, h1⟩, ⟨b, hb, h2⟩, h3⟩ := span_spec h.ok hm (7 + i) (by omega)
  have hin : ∀ x, d.Is x → x (7 + i) ∈ eraYs d i := fun x hx => by
    obtain ⟨p, hp, _, e1⟩ := is_allP h hx
    exact List.mem_map.2 ⟨p, hp, by rw [List.getD_eq_getElem?_getD, e1 i hi]; rfl⟩
  have hout : ∀ y ∈ eraYs d i, ∃ x, d.Is x ∧ x (7 + i) = y ∧ -2 ≤ y ∧ y ≤ 2 := fun y hy => by
    obtain ⟨p, hp, rfl⟩ := List.mem_map.1 hy
    obtain ⟨l1, l2, l3, l4, l5⟩ := allP_is h hp
    obtain ⟨z, hz⟩ : ∃ z, p.2[i]? = some z := ⟨_, List.getElem?_eq_getElem (by omega)⟩
    refine ⟨_, l5, ?_, ?_⟩
    · rw [xOf_era _ _ i z hz, List.getD_eq_getElem?_getD, hz]; rfl
    · rw [List.getD_eq_getElem?_getD, hz]
      exact l4 z (List.mem_of_getElem? hz)
  have ma := hin a ha
  have mb := hin b hb
  obtain ⟨_, _, _, a0, a7⟩ := hout _ ma
  obtain ⟨_, _, _, b0, b7⟩ := hout _ mb
  refine Prod.ext ?_ ?_
  · rw [← h1]
    refine lowOf_eq ma (fun y hy => ?_) (by omega)
    obtain ⟨x, hx, rfl, _⟩ := hout y hy
    have := h3 x hx
    omega
  · rw [← h2]
    refine highOf_eq mb (fun y hy => ?_) (by omega)
    obtain ⟨x, hx, rfl, _⟩ := hout y hy
    have := h3 x hx
    omega
theorem said_verdict {d : Dat} (h : Little d) (hm : d.may) {so : (Nat → Int) → Prop} {q : List Int × List Int → Bool} {v : Nat} (hv : Verdict d.Is so v) (h1 : ∀ p ∈ allP d, ∃ x, d.Is x ∧ (so x ↔ q p = true)) (h2 : ∀ x, d.Is x → ∃ p ∈ allP d, (so x ↔ q p = true)) : v = saidV ((allP d).countP q) (allP d).length := by
  have hne : 0 < (allP d).length := by
    rw [List.length_pos_iff]
    intro he
    exact (may_iff h.ok).1 hm ((allP_nil h).1 he)
  unfold saidV
  by_cases ha : (allP d).countP q = (allP d).length
  · rw [if_pos ha]
    have hall := List.countP_eq_length.1 ha
    refine hv.yes.2 fun x hx => ?_
    obtain ⟨p, hp, hs⟩ := h2 x hx
    exact hs.2 (hall p hp)
  · rw [if_neg ha]
    by_cases hn : (allP d).countP q = 0
    · rw [if_pos hn]
      have hno := List.countP_eq_zero.1 hn
      refine hv.no.2 fun x hx hs' => ?_
      obtain ⟨p, hp, hs⟩ := h2 x hx
      exact hno p hp (hs.1 hs')
    · rw [if_neg hn]
      rcases hv.rest with e | e | e
      · exfalso
        apply ha
        rw [List.countP_eq_length]
        intro p hp
        obtain ⟨x, hx, hs⟩ := h1 p hp
        exact hs.1 (hv.yes.1 e x hx)
      · exfalso
        apply hn
        rw [List.countP_eq_zero]
        intro p hp hq
        obtain ⟨x, hx, hs⟩ := h1 p hp
        exact hv.no.1 e x hx (hs.2 hq)
      · exact e
theorem cut_said {d : Dat} (h : Little d) (hm : d.may) {i : Nat} (hi : i < d.stones) (y : Int) : d.cutV (1 + i) y = saidV ((allP d).countP fun p => decide (p.1.getD i 0 = y)) (allP d).length := by
  have h6 := h.ok.stones
  refine said_verdict h hm (cutV_spec h.ok hm (1 + i) (by omega) y) (fun p hp => ?_) (fun x hx => ?_)
  · obtain ⟨l1, l2, l3, l4, l5⟩ := allP_is h hp
    obtain ⟨z, hz⟩ : ∃ z, p.1[i]? = some z := ⟨_, List.getElem?_eq_getElem (by omega)⟩
    exact ⟨_, l5, by rw [xOf_stone _ _ i z (by omega) hz, List.getD_eq_getElem?_getD, hz]; simp⟩
  · obtain ⟨p, hp, e1, _⟩ := is_allP h hx
    exact ⟨p, hp, by rw [List.getD_eq_getElem?_getD, e1 i hi]; simp⟩
theorem later_said {d : Dat} (h : Little d) (hm : d.may) {i k : Nat} (hi : i < d.stones) (hk : k < d.stones) : d.laterV (1 + i) (1 + k) = saidV ((allP d).countP fun p => decide (p.1.getD i 0 < p.1.getD k 0)) (allP d).length := by
  have h6 := h.ok.stones
  refine said_verdict h hm (laterV_spec h.ok hm (1 + i) (1 + k) (by omega) (by omega)) (fun p hp => ?_) (fun x hx => ?_)
  · obtain ⟨l1, l2, l3, l4, l5⟩ := allP_is h hp
    obtain ⟨z, hz⟩ : ∃ z, p.1[i]? = some z := ⟨_, List.getElem?_eq_getElem (by omega)⟩
    obtain ⟨u, hu⟩ : ∃ u, p.1[k]? = some u := ⟨_, List.getElem?_eq_getElem (by omega)⟩
    exact ⟨_, l5, by rw [xOf_stone _ _ i z (by omega) hz, xOf_stone _ _ k u (by omega) hu, List.getD_eq_getElem?_getD, hz, List.getD_eq_getElem?_getD, hu]; simp⟩
  · obtain ⟨p, hp, e1, _⟩ := is_allP h hx
    exact ⟨p, hp, by rw [List.getD_eq_getElem?_getD, e1 i hi, List.getD_eq_getElem?_getD, e1 k hk]; simp⟩
end Go.Proofs.YtmfjfjahemlhkaaGreat
