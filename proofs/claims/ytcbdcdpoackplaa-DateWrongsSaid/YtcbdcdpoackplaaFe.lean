/- Datings with a truth, as the statements make them: what they are made of. · Spans out of the urn: around a number. · DatingOf: what it holds on its way. -/
import Derived.Test.YtcbdcdpoackplaaDc
import Derived.Test.YtcbdcdpoackplaaFa
import Derived.Test.YtcbdcdpoackplaaEb
import Derived.Test.YtcbdcdpoackplaaFc
import Derived.Test.YtcbdcdpoackplaaFv
import Derived.Test.YtcbdcdpoackplaaEu
import Derived.Deep.Onto
import Derived.Deep.LoopGhost
import Derived.Deep.DeepCutAuto
import Derived.Deep.CutBlock
namespace Go.Proofs.Ytcbdcdpoackplaa
section
namespace Dt

/-- The years of all points, out of those of the stones and the first ones of the eras. -/
def xOf (ys fs : List Int) : Nat → Int := fun p => if p = 0 then 0 else if p < 7 then ys.getD (p - 1) 0 else fs.getD (p - 7) 0
theorem xOf_stone (ys fs : List Int) (k : Nat) (y : Int) (hk : k < 6) (h : ys[k]? = some y) : xOf ys fs (1 + k) = y := by
  unfold xOf
  rw [if_neg (by omega), if_pos (by omega), List.getD_eq_getElem?_getD, show 1 + k - 1 = k by omega, h]
  rfl
theorem xOf_era (ys fs : List Int) (k : Nat) (y : Int) (h : fs[k]? = some y) : xOf ys fs (7 + k) = y := by
  unfold xOf
  rw [if_neg (by omega), if_neg (by omega), List.getD_eq_getElem?_getD, show 7 + k - 7 = k by omega, h]
  rfl
structure Made (smax nmax : Nat) (d : Dat) (ys fs : List Int) : Prop where
  ok : d.Ok
  ny : ys.length = d.stones
  nf : fs.length = d.eras.length
  is : d.Is (xOf ys fs)
  years : ∀ y ∈ ys, -400 ≤ y ∧ y ≤ 260
  firsts : ∀ y ∈ fs, -460 ≤ y ∧ y ≤ 200
  stones : d.stones ≤ smax
  notes : d.notes.length ≤ nmax
  eras : d.eras.length ≤ 2
  small : ∀ n ∈ d.notes, (n.kind ≠ 1 → -1000 ≤ n.lo ∧ n.hi ≤ 1000) ∧ ∀ y ∈ n.years, -1000 ≤ y ∧ y ≤ 1000
  smallE : ∀ s ∈ d.eras, -1000 ≤ s.1 ∧ s.2 ≤ 1000
/-- The eras made so far, with their first years. -/
structure Eras (b : Int) (es : List (Int × Int)) (fs : List Int) : Prop where
  len : fs.length = es.length
  span : ∀ (k : Nat) (s : Int × Int) (y : Int), es[k]? = some s → fs[k]? = some y → s.1 ≤ y ∧ y ≤ s.2
  ok : ∀ s ∈ es, SpanOk s.1 s.2 ∧ -1000 ≤ s.1 ∧ s.2 ≤ 1000
  first : ∀ y ∈ fs, b - 59 ≤ y ∧ y ≤ b
theorem Eras.nil (b : Int) : Eras b [] [] := ⟨rfl, by simp, by simp, by simp⟩
theorem Eras.snoc {b : Int} {es : List (Int × Int)} {fs : List Int} (h : Eras b es fs) (s : Int × Int) (y : Int) (h1 : SpanOk s.1 s.2) (h2 : -1000 ≤ s.1 ∧ s.2 ≤ 1000) (h3 : s.1 ≤ y ∧ y ≤ s.2) (h4 : b - 59 ≤ y ∧ y ≤ b) : Eras b (es ++ [s]) (fs ++ [y]) := by
  refine ⟨by simp [h.len], fun k t z ht hz => ?_, fun t ht => ?_, fun z hz => ?_⟩
  · rcases Nat.lt_trichotomy k es.length with hk | hk | hk
    · rw [List.getElem?_append_left hk] at ht
      rw [List.getElem?_append_left (by rw [h.len]; exact hk)] at hz
      exact h.span k t z ht hz
    · subst hk
      rw [List.getElem?_concat_length] at ht
      rw [← h.len, List.getElem?_concat_length] at hz
      injection ht with ht
      injection hz with hz
      subst ht hz
      exact h3
    · rw [List.getElem?_eq_none (by simp; omega)] at ht
      cases ht
  · rcases List.mem_append.1 ht with ht | ht
    · exact h.ok t ht
    · rw [List.mem_singleton.1 ht]
      exact ⟨h1, h2⟩
  · rcases List.mem_append.1 hz with hz | hz
    · exact h.first z hz
    · rw [List.mem_singleton.1 hz]
      exact h4
/-- A note that may be made: valid, right, and of small numbers. -/
structure Fine (stones : Nat) (es : List (Int × Int)) (x : Nat → Int) (n : Nt) : Prop where
  ok : n.Ok ⟨stones, es, []⟩
  right : n.right x
  small : (n.kind ≠ 1 → -1000 ≤ n.lo ∧ n.hi ≤ 1000) ∧ ∀ y ∈ n.years, -1000 ≤ y ∧ y ≤ 1000
theorem made_mk {smax nmax stones : Nat} {es : List (Int × Int)} {ns : List Nt} {ys fs : List Int} {b : Int} (b1 : -400 ≤ b) (b2 : b ≤ 200) (h1 : 1 ≤ stones) (h2 : stones ≤ 6) (hs : stones ≤ smax) (hy : ys.length = stones) (hys : ∀ y ∈ ys, b ≤ y ∧ y ≤ b + 60)
    (he : Eras b es fs) (he2 : es.length ≤ 2) (hn : ∀ n ∈ ns, Fine stones es (xOf ys fs) n) (hn8 : ns.length ≤ 8) (hnm : ns.length ≤ nmax) : Made smax nmax ⟨stones, es, ns⟩ ys fs := by
  refine ⟨⟨⟨h1, h2⟩, ⟨by show es.length ≤ 3; omega, fun s hs => (he.ok s hs).1⟩, ⟨hn8, fun n hn' => ?_⟩⟩, hy, he.len, ⟨by simp [xOf], fun p hp => ?_, fun n hn' => (hn n hn').right⟩, fun y hy' => by have := hys y hy'; omega, fun y hy' => by have := he.first y hy'; omega, hs, hnm, he2, fun n hn' => (hn n hn').small, fun s hs => (he.ok s hs).2⟩
  · have := (hn n hn').ok
    exact ⟨this.stone, this.kind, this.years, this.span, this.within, this.era, this.after⟩
  · unfold Dat.base
    by_cases p0 : p = 0
    · subst p0
      simp [xOf]
    · rw [if_neg p0]
      by_cases p7 : p < 7
      · rw [if_pos p7]
        unfold xOf
        rw [if_neg p0, if_pos p7, List.getD_eq_getElem?_getD]
        cases hg : ys[p - 1]? with
        | none => simp
        | some y =>
          have := hys y (List.mem_of_getElem? hg)
          simp
          omega
      · rw [if_neg p7]
        unfold xOf
        rw [if_neg p0, if_neg p7, List.getD_eq_getElem?_getD, List.getD_eq_getElem?_getD]
        cases hg : fs[p - 7]? with
        | none =>
          have : es[p - 7]? = none := by
            rw [List.getElem?_eq_none_iff] at hg ⊢
            rw [← he.len]
            exact hg
          simp [this]
        | some y =>
          obtain ⟨s, hs⟩ : ∃ s, es[p - 7]? = some s := ⟨_, List.getElem?_eq_getElem (by rw [← he.len]; exact (List.getElem?_eq_some_iff.1 hg).1)⟩
          have := he.span _ s y hs hg
          simp [hs]
          exact this
/-- The years of a note, as they are gathered: those ahead of the true one are less. -/
structure Yrs (at_ k : Nat) (year : Int) (l : List Int) : Prop where
  asc : l.Pairwise (· < ·)
  len : l.length ≤ k
  small : ∀ y ∈ l, -1000 ≤ y ∧ y ≤ 1000
  pre : k ≤ at_ → ∀ y ∈ l, y < year
  post : at_ < k → year ∈ l
theorem Yrs.nil (at_ : Nat) (year : Int) : Yrs at_ 0 year [] := ⟨List.Pairwise.nil, Nat.le_refl _, by simp, by simp, by simp⟩
theorem pair_last {l : List Int} (h : l.Pairwise (· < ·)) (z : Int) (hz : l[l.length - 1]? = some z) : ∀ y ∈ l, y ≤ z := by
  intro y hy
  obtain ⟨i, hi⟩ := List.getElem?_of_mem hy
  have hil := (List.getElem?_eq_some_iff.1 hi).1
  by_cases e : i = l.length - 1
  · subst e
    rw [hi] at hz
    injection hz with hz
    omega
  · have h1 := List.pairwise_iff_getElem.1 h i (l.length - 1) hil (by omega) (by omega)
    have e1 := (List.getElem?_eq_some_iff.1 hi).2
    have e2 := (List.getElem?_eq_some_iff.1 hz).2
    omega
theorem pair_snoc {l : List Int} (h : l.Pairwise (· < ·)) (n : Int) (hn : ∀ y ∈ l, y < n) : (l ++ [n]).Pairwise (· < ·) := by
  rw [List.pairwise_append]
  exact ⟨h, List.pairwise_singleton _ _, fun a ha b hb => by rw [List.mem_singleton.1 hb]; exact hn a ha⟩
theorem Yrs.at {at_ : Nat} {year : Int} {l : List Int} (h : Yrs at_ at_ year l) (hy : -1000 ≤ year ∧ year ≤ 1000) : Yrs at_ (at_ + 1) year (l ++ [year]) := by
  refine ⟨pair_snoc h.asc year (h.pre (Nat.le_refl _)), by have := h.len; simp; omega, fun y hy' => ?_, fun hk => by omega, fun _ => by simp⟩
  rcases List.mem_append.1 hy' with hy' | hy'
  · exact h.small y hy'
  · rw [List.mem_singleton.1 hy']; exact hy
theorem Yrs.more {at_ k : Nat} {year n : Int} {l : List Int} (h : Yrs at_ k year l) (hk : k ≠ at_) (hn : -1000 ≤ n ∧ n ≤ 1000) (h1 : l = [] ∨ ∃ z, l[l.length - 1]? = some z ∧ z < n) (h2 : at_ < k ∨ n < year) : Yrs at_ (k + 1) year (l ++ [n]) := by
  refine ⟨pair_snoc h.asc n (fun y hy => ?_), by have := h.len; simp; omega, fun y hy' => ?_, fun hk' y hy => ?_, fun hk' => ?_⟩
  · rcases h1 with rfl | ⟨z, hz, hlt⟩
    · cases hy
    · have := pair_last h.asc z hz y hy
      omega
  · rcases List.mem_append.1 hy' with hy' | hy'
    · exact h.small y hy'
    · rw [List.mem_singleton.1 hy']; exact hn
  · rcases List.mem_append.1 hy with hy | hy
    · exact h.pre (by omega) y hy
    · rw [List.mem_singleton.1 hy]; omega
  · exact List.mem_append_left _ (h.post (by omega))
theorem Yrs.skip {at_ k : Nat} {year : Int} {l : List Int} (h : Yrs at_ k year l) (hk : k ≠ at_) : Yrs at_ (k + 1) year l :=
  ⟨h.asc, by have := h.len; omega, h.small, fun hk' => h.pre (by omega), fun hk' => h.post (by omega)⟩
theorem Yrs.fine {at_ : Nat} {year : Int} {l : List Int} {stones s : Nat} {es : List (Int × Int)} {x : Nat → Int} (h : Yrs at_ 3 year l) (ha : at_ ≤ 2) (hs : s < stones) (hx : x (1 + s) = year) : Fine stones es x ⟨1, s, 0, l, 0, 0⟩ := by
  have hm := h.post (by omega)
  refine ⟨⟨hs, ⟨Nat.le_refl _, by simp⟩, fun _ => ⟨rfl, rfl, rfl, List.length_pos_of_mem hm, h.len, fun y hy => by have := h.small y hy; omega, h.asc⟩, fun hk => absurd rfl hk, fun hk => by simp at hk, fun hk => by simp at hk, fun hk => by simp at hk⟩, ?_, ⟨fun hk => absurd rfl hk, h.small⟩⟩
  simp only [Nt.right, if_pos]
  rw [hx]
  exact hm
theorem fine_span {stones s : Nat} {es : List (Int × Int)} {x : Nat → Int} {lo hi : Int} (hs : s < stones) (h1 : -1000 ≤ lo) (h2 : lo ≤ x (1 + s)) (h3 : x (1 + s) ≤ hi) (h4 : hi ≤ 1000) : Fine stones es x ⟨2, s, 0, [], lo, hi⟩ :=
  ⟨⟨hs, ⟨by simp, by simp⟩, fun hk => by simp at hk, fun _ => ⟨rfl, by show -3000 ≤ lo; omega, by show lo ≤ hi; omega, by show hi ≤ 3000; omega⟩, fun _ => rfl, fun hk => by simp at hk, fun hk => by simp at hk⟩, by simp [Nt.right]; omega, ⟨fun _ => ⟨h1, h4⟩, by simp⟩⟩
theorem fine_era {stones s k : Nat} {es : List (Int × Int)} {x : Nat → Int} {lo hi : Int} (hs : s < stones) (hk : k < es.length) (h1 : 1 ≤ lo) (h2 : lo ≤ x (1 + s) - x (7 + k) + 1) (h3 : x (1 + s) - x (7 + k) + 1 ≤ hi) (h4 : hi ≤ 1000) : Fine stones es x ⟨3, s, k, [], lo, hi⟩ :=
  ⟨⟨hs, ⟨by simp, by simp⟩, fun hk => by simp at hk, fun _ => ⟨rfl, by show -3000 ≤ lo; omega, by show lo ≤ hi; omega, by show hi ≤ 3000; omega⟩, fun hk => by simp at hk, fun _ => ⟨hk, h1⟩, fun hk => by simp at hk⟩, by simp [Nt.right]; omega, ⟨fun _ => ⟨by show -1000 ≤ lo; omega, h4⟩, by simp⟩⟩
theorem fine_after {stones s t : Nat} {es : List (Int × Int)} {x : Nat → Int} {lo hi : Int} (hs : s < stones) (ht : t < stones) (hst : t ≠ s) (h1 : -1000 ≤ lo) (h2 : lo ≤ x (1 + s) - x (1 + t)) (h3 : x (1 + s) - x (1 + t) ≤ hi) (h4 : hi ≤ 1000) : Fine stones es x ⟨4, s, t, [], lo, hi⟩ :=
  ⟨⟨hs, ⟨by simp, by simp⟩, fun hk => by simp at hk, fun _ => ⟨rfl, by show -3000 ≤ lo; omega, by show lo ≤ hi; omega, by show hi ≤ 3000; omega⟩, fun hk => by simp at hk, fun hk => by simp at hk, fun _ => ⟨ht, hst⟩⟩, by simp [Nt.right]; omega, ⟨fun _ => ⟨h1, h4⟩, by simp⟩⟩
end Dt
end
section
section
open Go.RowKit

def BrPost (g : Nat) (n far : Int) (w : World) (e : Ending) (w' : World) : Prop :=
  ∃ lo hi : Int, e = .returned (.agg #[.int .i64 lo, .int .i64 hi]) ∧ -3000 ≤ lo ∧ lo ≤ n ∧ n ≤ hi ∧ hi ≤ 3000 ∧ n - max 3 far ≤ lo ∧ hi ≤ n + max 3 far ∧ UrnAt w' g ∧ Kg g w w'
set_option maxRecDepth 100000 in
set_option maxHeartbeats 1000000 in
theorem bracket_any (g : Nat) (n far : Int) (w : World) (n1 : -3000 ≤ n) (n2 : n ≤ 3000) (f1 : 0 ≤ far) (f2 : far ≤ 1000) (hu : UrnAt w g) :
    Calls Try.prog 36 #[.pointer (some ⟨g, 0, none⟩), .int .i64 n, .int .i64 far] w (BrPost g n far w) := by
  have HU := Lib.hid hu
  have hgz := hu.size
  clear hu
  go_enter Try.func36, Try.ntmps36
  go_wp2_with fail
  refine (up_any _ _ _ (by omega) (HU.out.alloc _)).mono ?_
  rintro e w1 ⟨r1, rfl, a1, hu1, hk1⟩
  have HU1 := Lib.hid hu1
  have HK1 := Lib.hid hk1
  have a1 : (r1 : Int) ≤ 3 := by omega
  clear hu1 hk1
  go_wp2_with fail
  refine (up_any _ _ _ (by omega) HU1.out).mono ?_
  rintro e w2 ⟨r2, rfl, a2, hu2, hk2⟩
  have HU2 := Lib.hid hu2
  have HK2 := Lib.hid (HK1.out.trans hk2)
  have a2 : (r2 : Int) ≤ far := by omega
  have h12 : (0 : Int) ≤ r1 := by omega
  have h22 : (0 : Int) ≤ r2 := by omega
  clear hu2 hk2
  go_wp2_with fail
  have hg2 := HU2.out.size
  refine (any_any g w2.heap.size 3 3 3 [0, (r1 : Int), (r2 : Int)] _ rfl (by simp) (by simp) (Blok.new w2 _ _) (by omega) (HU2.out.alloc _)).mono ?_
  rintro e w3 ⟨x, rfl, hx, hu3, hk3⟩
  have hx1 : 0 ≤ x ∧ x ≤ max 3 far := by
    simp at hx
    omega
  obtain ⟨x1, x2⟩ := hx1
  have HU3 := Lib.hid hu3
  have HK3 := Lib.hid ((HK2.out.alloc _).trans hk3)
  clear hu3 hk3 hx
  go_wp2_with fail
  all_goals
    refine (up_any _ _ _ (by omega) HU3.out).mono ?_
    rintro e w4 ⟨r3, rfl, a3, hu4, hk4⟩
    have HU4 := Lib.hid hu4
    have HK4 := Lib.hid (HK3.out.trans hk4)
    have a3 : (r3 : Int) ≤ 3 := by omega
    clear hu4 hk4
    go_wp2_with fail
    refine (up_any _ _ _ (by omega) HU4.out).mono ?_
    rintro e w5 ⟨r4, rfl, a4, hu5, hk5⟩
    have HU5 := Lib.hid hu5
    have HK5 := Lib.hid (HK4.out.trans hk5)
    have a4 : (r4 : Int) ≤ far := by omega
    have h13 : (0 : Int) ≤ r3 := by omega
    have h23 : (0 : Int) ≤ r4 := by omega
    clear hu5 hk5
    go_wp2_with fail
    have hg5 := HU5.out.size
    refine (any_any g w5.heap.size 3 3 3 [0, (r3 : Int), (r4 : Int)] _ rfl (by simp) (by simp) (Blok.new w5 _ _) (by omega) (HU5.out.alloc _)).mono ?_
    rintro e w6 ⟨y, rfl, hy, hu6, hk6⟩
    have hy1 : 0 ≤ y ∧ y ≤ max 3 far := by
      simp at hy
      omega
    obtain ⟨y1, y2⟩ := hy1
    have HU6 := Lib.hid hu6
    have HK6 := Lib.hid ((HK5.out.alloc _).trans hk6)
    clear hu6 hk6 hy
    have bl : Blok w6 w.heap.size 39 [.int .i64 0, .int .i64 0] := (Blok.new w _ _).kg HK6.out (by omega)
    have f0 := bl.free 0
    have f1 := bl.free 1
    have c0 := bl.cell 0
    have c1 := bl.cell 1
    simp at c0 c1
    have z6 := bl.size
    have x3 : 0 ≤ x ∧ x ≤ 1000 := by omega
    have y3 : 0 ≤ y ∧ y ≤ 1000 := by omega
    have x4 := x3.2
    have y4 := y3.2
    have HB6 := Lib.hid (fun a b : Int => (show Blok ((w6.setCell ⟨w.heap.size, 0, none⟩ (.int .i64 a)).setCell ⟨w.heap.size, 1, none⟩ (.int .i64 b)) w.heap.size 39 [.int .i64 a, .int .i64 b] from (bl.put 0 (.int .i64 a)).put 1 (.int .i64 b)))
    have HF6 := Lib.hid (fun (a b : Int) (p1 : -3000 ≤ a) (p2 : a ≤ n) (p3 : n ≤ b) (p4 : b ≤ 3000) (p5 : n - max 3 far ≤ a) (p6 : b ≤ n + max 3 far) => (show BrPost g n far w (.returned (.agg #[.int .i64 a, .int .i64 b])) ((w6.setCell ⟨w.heap.size, 0, none⟩ (.int .i64 a)).setCell ⟨w.heap.size, 1, none⟩ (.int .i64 b)) from ⟨a, b, rfl, p1, p2, p3, p4, p5, p6, (HU6.out.far (by simp; omega) _).far (by simp; omega) _, (((Kg.refl g w).alloc _).trans HK6.out).putNew (by simp) _ |>.putNew (by simp) _⟩))
    clear bl
    go_wp2_with fail
    all_goals
      refine bodyPost_ret (results_cell_row Try.results36 _ _ w.heap.size 39 _ (0, 0) _ rfl (HB6.out _ _) Try.underlying39 rfl (by kernel_rfl)) rfl (HF6.out _ _ (by omega) (by omega) (by omega) (by omega) (by omega) (by omega))
end
section
open Go.RowKit Dt

theorem info_num : (Try.prog.info? 3).map (fun i => (i.zero, i.size, i.bytes)) = some (some (.int .i64 0), 1, 8) := by kernel_rfl
theorem own_addr {w : World} {base n c size : Nat} {e : TypeId} {A : Option Addr} {xs : List Value} (h : w.ownsRow base e size (.slice A n c) n xs) (hn : 0 < n) : ∃ g, A = some ⟨g, 0, none⟩ := by
  rcases h.2 with ⟨_, h0⟩ | ⟨g, cap, cur, e1, _⟩
  · omega
  · injection e1 with e1
    exact ⟨g, e1⟩
def zeroD : List Value := [.int .i64 0, .slice none 0 0, .slice none 0 0]
def zeroW : List Value := [.slice none 0 0, .slice none 0 0]
/-- A dating and its truth, being made. -/
structure Mk (g : Nat) (w wr : World) (bD bW : Nat) (stones : Nat) (ve vn vy vf : Value) : Prop where
  r8 : Blok wr w.heap.size 28 zeroD
  r9 : Blok wr (w.heap.size + 1) 30 zeroW
  dat : Blok wr bD 28 [.int .i64 stones, ve, vn]
  whe : Blok wr bW 30 [vy, vf]
  urn : UrnAt wr g
  kg : Kg g w wr
  nD : w.heap.size + 1 < bD
  nW : w.heap.size + 1 < bW
section
variable {g : Nat} {w wr wr' : World} {bD bW stones : Nat} {ve vn vy vf : Value}
theorem Mk.to {p : Nat → TypeId → Prop} (h : Mk g w wr bD bW stones ve vn vy vf) (hx : Fx p wr wr') (hp : ∀ b, p b 28 ∧ p b 30) (hu : UrnAt wr' g) (hk : Kg g w wr') : Mk g w wr' bD bW stones ve vn vy vf :=
  ⟨hx _ _ _ (hp _).1 h.r8, hx _ _ _ (hp _).2 h.r9, hx _ _ _ (hp _).1 h.dat, hx _ _ _ (hp _).2 h.whe, hu, hk, h.nD, h.nW⟩
theorem Mk.kgs (h : Mk g w wr bD bW stones ve vn vy vf) (hu : UrnAt wr' g) (hk : Kg g wr wr') : Mk g w wr' bD bW stones ve vn vy vf :=
  h.to (Fx.of_kg hk h.urn) (fun _ => by decide) hu (h.kg.trans hk)
theorem Mk.alloc (h : Mk g w wr bD bW stones ve vn vy vf) (o : Obj) : Mk g w (wr.alloc o) bD bW stones ve vn vy vf := h.kgs (h.urn.alloc o) ((Kg.refl g wr).alloc o)
theorem Mk.drew (h : Mk g w wr bD bW stones ve vn vy vf) : Mk g w wr.drew bD bW stones ve vn vy vf := h.kgs h.urn (Kg.refl g wr).drew
theorem Mk.grown {row : Option Nat} (h : Mk g w wr bD bW stones ve vn vy vf) (hg : wr.grownBy wr' row) (hr : ∀ k t cs, row = some k → Blok wr k t cs → t ≠ 28 ∧ t ≠ 30 ∧ t ≠ 66) (hn : ∀ k, row = some k → w.heap.size ≤ k) : Mk g w wr' bD bW stones ve vn vy vf := by
  have hne : ∀ k t cs, Blok wr k t cs → t = 28 ∨ t = 30 ∨ t = 66 → row ≠ some k := fun k t cs hb ht e => by
    obtain ⟨h1, h2, h3⟩ := hr k t cs e hb
    rcases ht with ht | ht | ht
    · exact h1 ht
    · exact h2 ht
    · exact h3 ht
  obtain ⟨x, y, hu⟩ := h.urn
  exact ⟨h.r8.grown hg (hne _ _ _ h.r8 (.inl rfl)), h.r9.grown hg (hne _ _ _ h.r9 (.inr (.inl rfl))), h.dat.grown hg (hne _ _ _ h.dat (.inl rfl)), h.whe.grown hg (hne _ _ _ h.whe (.inr (.inl rfl))), ⟨x, y, hu.grown hg (hne _ _ _ hu (.inr (.inr rfl)))⟩, h.kg.grown hg hn, h.nD, h.nW⟩
theorem blok_ne {w : World} {a b : Nat} {t u : TypeId} {cs ds : List Value} (h : Blok w a t cs) (k : Blok w b u ds) (hne : t ≠ u) : a ≠ b := by
  rintro rfl
  have h2 := h.symm.trans k
  injection h2 with h2
  injection h2 with _ h2
  exact hne h2
theorem Mk.append {B size n : Nat} {e : TypeId} {v : Value} {xs : List Value} (h : Mk g w wr bD bW stones ve vn vy vf) (ho : wr.ownsRow B e size v n xs) (hg : wr.grownBy wr' v.ownBlock) (he : e ≠ 28 ∧ e ≠ 30 ∧ e ≠ 66) (hB : w.heap.size ≤ B) : Mk g w wr' bD bW stones ve vn vy vf :=
  h.grown hg (fun k t cs hk hb => by
    have ht : t = e := Classical.byContradiction fun hne => own_ne ho hb (fun e' => hne e'.symm) hk
    rw [ht]
    exact he) (fun k hk => Nat.le_trans hB (ho.lt k hk).1)
theorem _root_.Go.Proofs.Ytcbdcdpoackplaa.UrnAt.ne' {w : World} {g k : Nat} {t : TypeId} {cs : List Value} (h : UrnAt w g) (hb : Blok w k t cs) (ht : t ≠ 66) : g ≠ k := fun e => h.ne hb ht e.symm
theorem Mk.putD (h : Mk g w wr bD bW stones ve vn vy vf) (i : Nat) (u : Value) : Mk g w (wr.setCell ⟨bD, i, none⟩ u) bD bW stones (if i = 1 then u else ve) (if i = 2 then u else vn) vy vf ∨ i = 0 ∨ 2 < i := by
  by_cases hi : i = 0 ∨ 2 < i
  · exact .inr hi
  · refine .inl ⟨h.r8.far (by simp; have := h.nD; omega) u, h.r9.far (by simp; have := h.nD; omega) u, ?_, h.whe.far (blok_ne h.whe h.dat (by decide)) u, h.urn.far (by obtain ⟨x, y, hu⟩ := h.urn; exact blok_ne hu h.dat (by decide)) u, h.kg.putNew (by simp; have := h.nD; omega) u, h.nD, h.nW⟩
    have e : i = 1 ∨ i = 2 := by omega
    rcases e with rfl | rfl
    · exact h.dat.put 1 u
    · exact h.dat.put 2 u
theorem Mk.putW (h : Mk g w wr bD bW stones ve vn vy vf) (i : Nat) (u : Value) : Mk g w (wr.setCell ⟨bW, i, none⟩ u) bD bW stones ve vn (if i = 0 then u else vy) (if i = 1 then u else vf) ∨ 1 < i := by
  by_cases hi : 1 < i
  · exact .inr hi
  · refine .inl ⟨h.r8.far (by simp; have := h.nW; omega) u, h.r9.far (by simp; have := h.nW; omega) u, h.dat.far (blok_ne h.dat h.whe (by decide)) u, ?_, h.urn.far (by obtain ⟨x, y, hu⟩ := h.urn; exact blok_ne hu h.whe (by decide)) u, h.kg.putNew (by simp; have := h.nW; omega) u, h.nD, h.nW⟩
    have e : i = 0 ∨ i = 1 := by omega
    rcases e with rfl | rfl
    · exact h.whe.put 0 u
    · exact h.whe.put 1 u
theorem Mk.put1 (h : Mk g w wr bD bW stones ve vn vy vf) (u : Value) : Mk g w (wr.setCell ⟨bD, 1, none⟩ u) bD bW stones u vn vy vf := by
  rcases h.putD 1 u with h | h | h
  · exact h
  · cases h
  · omega
theorem Mk.put2 (h : Mk g w wr bD bW stones ve vn vy vf) (u : Value) : Mk g w (wr.setCell ⟨bD, 2, none⟩ u) bD bW stones ve u vy vf := by
  rcases h.putD 2 u with h | h | h
  · exact h
  · cases h
  · omega
theorem Mk.putY (h : Mk g w wr bD bW stones ve vn vy vf) (u : Value) : Mk g w (wr.setCell ⟨bW, 0, none⟩ u) bD bW stones ve vn u vf := by
  rcases h.putW 0 u with h | h
  · exact h
  · omega
theorem Mk.putF (h : Mk g w wr bD bW stones ve vn vy vf) (u : Value) : Mk g w (wr.setCell ⟨bW, 1, none⟩ u) bD bW stones ve vn vy u := by
  rcases h.putW 1 u with h | h
  · exact h
  · omega
end
theorem own_disj {w : World} {b1 b2 s1 s2 n1 n2 : Nat} {e1 e2 : TypeId} {v1 v2 : Value} {x1 x2 : List Value} (h1 : w.ownsRow b1 e1 s1 v1 n1 x1) (h2 : w.ownsRow b2 e2 s2 v2 n2 x2) (hne : e1 ≠ e2) (b : Nat) (hb : v1.ownBlock = some b) : v2.ownBlock ≠ some b := by
  rcases h1.2 with ⟨rfl, _⟩ | ⟨r, cap, cur, rfl, _, e3, _⟩
  · simp [Value.ownBlock] at hb
  · have e : r = b := by simpa [Value.ownBlock] using hb
    subst e
    exact own_ne h2 (show Blok w r e1 cur.toList by unfold Blok; rw [e3]) (fun e => hne e.symm)
/-- As long as eras are made: the memory, in the midst of a step too. -/
structure RI (g : Nat) (w : World) (bD bW stones B1 B2 : Nat) (vy : Value) (ys : List Int) (ve vf va : Value) (na : Nat) (xa : List Value) (vb : Value) (nb : Nat) (xb : List Value) (W : World) : Prop where
  md : Mk g w W bD bW stones ve (.slice none 0 0) vy vf
  oa : W.ownsRow B2 39 2 va na xa
  ob : W.ownsRow B2 3 1 vb nb xb
  oy : IntsO W B1 vy ys
  low : ∀ b, vy.ownBlock = some b → b < B2
  size : B2 ≤ W.heap.size
  base : w.heap.size ≤ B2
section
variable {g : Nat} {w W W' : World} {bD bW stones B1 B2 na na' nb nb' : Nat} {vy ve vf va va' vb vb' : Value} {ys : List Int} {xa xa' xb xb' : List Value}
theorem RI.calls (h : RI g w bD bW stones B1 B2 vy ys ve vf va na xa vb nb xb W) (hu : UrnAt W' g) (hk : Kg g W W') : RI g w bD bW stones B1 B2 vy ys ve vf va na xa vb nb xb W' :=
  ⟨h.md.kgs hu hk, own_kg h.oa h.md.urn (by decide) hk, own_kg h.ob h.md.urn (by decide) hk, own_kg h.oy h.md.urn (by decide) hk, h.low, Nat.le_trans h.size hk.size, h.base⟩
theorem RI.alloc (h : RI g w bD bW stones B1 B2 vy ys ve vf va na xa vb nb xb W) (o : Obj) : RI g w bD bW stones B1 B2 vy ys ve vf va na xa vb nb xb (W.alloc o) := h.calls (h.md.urn.alloc o) ((Kg.refl g W).alloc o)
theorem RI.drew (h : RI g w bD bW stones B1 B2 vy ys ve vf va na xa vb nb xb W) : RI g w bD bW stones B1 B2 vy ys ve vf va na xa vb nb xb W.drew := h.calls h.md.urn (Kg.refl g W).drew
theorem RI.app1 (h : RI g w bD bW stones B1 B2 vy ys ve vf va na xa vb nb xb W) (hg : W.grownBy W' va.ownBlock) (hn : W'.ownsRow B2 39 2 va' na' xa') : RI g w bD bW stones B1 B2 vy ys ve vf va' na' xa' vb nb xb W' :=
  ⟨h.md.append h.oa hg (by decide) h.base, hn, own_fx h.ob (Fx.of_grown hg) (fun b _ _ hb => own_disj h.ob h.oa (by decide) b hb), own_fx h.oy (Fx.of_grown hg) (fun b _ _ hb => own_disj h.oy h.oa (by decide) b hb), h.low, Nat.le_trans h.size hg.size, h.base⟩
theorem RI.app2 (h : RI g w bD bW stones B1 B2 vy ys ve vf va na xa vb nb xb W) (hg : W.grownBy W' vb.ownBlock) (hn : W'.ownsRow B2 3 1 vb' nb' xb') : RI g w bD bW stones B1 B2 vy ys ve vf va na xa vb' nb' xb' W' :=
  ⟨h.md.append h.ob hg (by decide) h.base, own_fx h.oa (Fx.of_grown hg) (fun b _ _ hb => own_disj h.oa h.ob (by decide) b hb), hn, own_fx h.oy (Fx.of_grown hg) (fun b _ _ hb e => by have h1 := h.low b hb; have h2 := (h.ob.lt b e).1; omega), h.low, Nat.le_trans h.size hg.size, h.base⟩
theorem RI.put1 (h : RI g w bD bW stones B1 B2 vy ys ve vf va na xa vb nb xb W) (u : Value) : RI g w bD bW stones B1 B2 vy ys u vf va na xa vb nb xb (W.setCell ⟨bD, 1, none⟩ u) :=
  ⟨h.md.put1 u, own_far h.oa (own_ne h.oa h.md.dat (by decide)) u, own_far h.ob (own_ne h.ob h.md.dat (by decide)) u, own_far h.oy (own_ne h.oy h.md.dat (by decide)) u, h.low, by have := h.size; simpa using this, h.base⟩
theorem RI.putF (h : RI g w bD bW stones B1 B2 vy ys ve vf va na xa vb nb xb W) (u : Value) : RI g w bD bW stones B1 B2 vy ys ve u va na xa vb nb xb (W.setCell ⟨bW, 1, none⟩ u) :=
  ⟨h.md.putF u, own_far h.oa (own_ne h.oa h.md.whe (by decide)) u, own_far h.ob (own_ne h.ob h.md.whe (by decide)) u, own_far h.oy (own_ne h.oy h.md.whe (by decide)) u, h.low, by have := h.size; simpa using this, h.base⟩
theorem RI.snoc {es : List (Int × Int)} {fs : List Int} {lo hi n : Int} (h : RI g w bD bW stones B1 B2 vy ys ve vf va (es.length + 1) (flatS es ++ [.int .i64 lo, .int .i64 hi]) vb (fs.length + 1) (intCells fs ++ [.int .i64 n]) W) :
    RI g w bD bW stones B1 B2 vy ys ve vf va (es ++ [(lo, hi)]).length (flatS (es ++ [(lo, hi)])) vb (fs ++ [n]).length (intCells (fs ++ [n])) W := by
  rw [flatS_snoc]
  simpa only [intCells, List.length_append, List.length_cons, List.length_nil, Nat.zero_add, List.map_append, List.map_cons, List.map_nil] using h
end
/-- As long as notes are made: the memory. -/
structure NI (g : Nat) (w : World) (bD bW stones B1 B2 B3 : Nat) (vy : Value) (ys : List Int) (ve : Value) (es : List (Int × Int)) (vf : Value) (fs : List Int) (vn : Value) (xs : List (Nt × Value)) (W : World) : Prop where
  md : Mk g w W bD bW stones ve vn vy vf
  oy : IntsO W B1 vy ys
  oe : SpansO W B2 ve es
  of : IntsO W B2 vf fs
  on : W.ownsRow B3 51 6 vn xs.length (cellsN xs)
  years : ∀ p ∈ xs, IntsO W B3 p.2 p.1.years
  b1 : w.heap.size ≤ B1
  b2 : B1 ≤ B2
  b3 : B2 ≤ B3
  size : B3 ≤ W.heap.size
section
variable {g : Nat} {w W W' : World} {bD bW stones B1 B2 B3 : Nat} {vy ve vf vn : Value} {ys fs : List Int} {es : List (Int × Int)} {xs : List (Nt × Value)}
theorem NI.calls (h : NI g w bD bW stones B1 B2 B3 vy ys ve es vf fs vn xs W) (hu : UrnAt W' g) (hk : Kg g W W') : NI g w bD bW stones B1 B2 B3 vy ys ve es vf fs vn xs W' :=
  ⟨h.md.kgs hu hk, own_kg h.oy h.md.urn (by decide) hk, own_kg h.oe h.md.urn (by decide) hk, own_kg h.of h.md.urn (by decide) hk, own_kg h.on h.md.urn (by decide) hk, fun p hp => own_kg (h.years p hp) h.md.urn (by decide) hk, h.b1, h.b2, h.b3, Nat.le_trans h.size hk.size⟩
theorem NI.alloc (h : NI g w bD bW stones B1 B2 B3 vy ys ve es vf fs vn xs W) (o : Obj) : NI g w bD bW stones B1 B2 B3 vy ys ve es vf fs vn xs (W.alloc o) := h.calls (h.md.urn.alloc o) ((Kg.refl g W).alloc o)
theorem NI.drew (h : NI g w bD bW stones B1 B2 B3 vy ys ve es vf fs vn xs W) : NI g w bD bW stones B1 B2 B3 vy ys ve es vf fs vn xs W.drew := h.calls h.md.urn (Kg.refl g W).drew
/-- One note more. -/
theorem NI.snoc {vn' v : Value} {x : Nt} (h : NI g w bD bW stones B1 B2 B3 vy ys ve es vf fs vn xs W) (hv : IntsO W B3 v x.years) (hg : W.grownBy W' vn.ownBlock) (hn : W'.ownsRow B3 51 6 vn' (xs.length + 1) (cellsN xs ++ ntL x v)) :
    NI g w bD bW stones B1 B2 B3 vy ys ve es vf fs vn' (xs ++ [(x, v)]) (W'.setCell ⟨bD, 2, none⟩ vn') := by
  have hm := h.md.append h.on hg (by decide) (by have := h.b1; have := h.b2; have := h.b3; omega)
  have far : ∀ {base size n : Nat} {e : TypeId} {u : Value} {cs : List Value}, e ≠ 51 → e ≠ 28 → W.ownsRow base e size u n cs → (W'.setCell ⟨bD, 2, none⟩ vn').ownsRow base e size u n cs := fun h1 h2 ho =>
    have ho' := own_fx ho (Fx.of_grown hg) (fun b _ _ hb => own_disj ho h.on h1 b hb)
    own_far ho' (own_ne ho' hm.dat h2) _
  refine ⟨hm.put2 vn', far (by decide) (by decide) h.oy, far (by decide) (by decide) h.oe, far (by decide) (by decide) h.of, ?_, fun p hp => ?_, h.b1, h.b2, h.b3, by have := hg.size; have := h.size; simp; omega⟩
  · rw [cellsN_snoc, List.length_append]
    exact own_far hn (own_ne hn hm.dat (by decide)) _
  · rcases List.mem_append.1 hp with hp | hp
    · exact far (by decide) (by decide) (h.years p hp)
    · rw [List.mem_singleton.1 hp]
      exact far (by decide) (by decide) hv
theorem NI.dat (h : NI g w bD bW stones B1 B2 B3 vy ys ve es vf fs vn xs W) : DatO W w.heap.size (.agg #[.int .i64 stones, ve, vn]) ⟨stones, es, xs.map Prod.fst⟩ :=
  ⟨_, _, rfl, h.oe.mono (Nat.le_trans h.b1 h.b2), xs, rfl, by
    rw [List.length_map]
    exact h.on.mono (by have := h.b1; have := h.b2; have := h.b3; omega), fun p hp => (h.years p hp).mono (by have := h.b1; have := h.b2; have := h.b3; omega)⟩
end
/-- As long as the years of a note are gathered. -/
structure YI (g : Nat) (w0 : World) (bx s B4 at_ kk : Nat) (y : Int) (vx : Value) (l : List Int) (W : World) : Prop where
  yrs : Yrs at_ kk y l
  x : Blok W bx 51 [.int .i64 1, .int .i64 s, .int .i64 0, vx, .int .i64 0, .int .i64 0]
  own : IntsO W B4 vx l
  urn : UrnAt W g
  kg : Kg g w0 W
  b4 : w0.heap.size ≤ B4
  size : B4 ≤ W.heap.size
  bx0 : w0.heap.size ≤ bx
section
variable {g : Nat} {w0 W W' : World} {bx s B4 at_ kk : Nat} {y : Int} {vx : Value} {l : List Int}
theorem YI.calls (h : YI g w0 bx s B4 at_ kk y vx l W) (hu : UrnAt W' g) (hk : Kg g W W') : YI g w0 bx s B4 at_ kk y vx l W' :=
  ⟨h.yrs, h.x.kg hk (h.urn.ne h.x (by decide)), own_kg h.own h.urn (by decide) hk, hu, h.kg.trans hk, h.b4, Nat.le_trans h.size hk.size, h.bx0⟩
theorem YI.alloc (h : YI g w0 bx s B4 at_ kk y vx l W) (o : Obj) : YI g w0 bx s B4 at_ kk y vx l (W.alloc o) := h.calls (h.urn.alloc o) ((Kg.refl g W).alloc o)
theorem YI.next (h : YI g w0 bx s B4 at_ kk y vx l W) (hy : Yrs at_ (kk + 1) y l) : YI g w0 bx s B4 at_ (kk + 1) y vx l W := ⟨hy, h.x, h.own, h.urn, h.kg, h.b4, h.size, h.bx0⟩
theorem YI.grown {vx' : Value} {n m : Nat} {cs : List Value} (h : YI g w0 bx s B4 at_ kk y vx l W) (hg : W.grownBy W' vx.ownBlock) (ho : W'.ownsRow B4 3 1 vx' m cs) : Blok W' bx 51 [.int .i64 1, .int .i64 s, .int .i64 0, vx, .int .i64 0, .int .i64 0] ∧ (m = n → W'.ownsRow B4 3 1 vx' n cs) :=
  ⟨h.x.grown hg (own_ne h.own h.x (by decide)), fun e => e ▸ ho⟩
theorem YI.app {vx' : Value} {n : Int} (h : YI g w0 bx s B4 at_ kk y vx l W) (hg : W.grownBy W' vx.ownBlock) (ho : W'.ownsRow B4 3 1 vx' (l.length + 1) (intCells l ++ [.int .i64 n])) (hy : Yrs at_ (kk + 1) y (l ++ [n])) :
    YI g w0 bx s B4 at_ (kk + 1) y vx' (l ++ [n]) (W'.setCell ⟨bx, 3, none⟩ vx') := by
  have hx := h.x.grown hg (own_ne h.own h.x (by decide))
  obtain ⟨p, q, hu⟩ := h.urn
  have hu' := hu.grown hg (own_ne h.own hu (by decide))
  have hn : g ≠ bx := blok_ne hu' hx (by decide)
  refine ⟨hy, hx.put 3 vx', ?_, ⟨p, q, hu'.far hn _⟩, (h.kg.grown hg fun k hk => Nat.le_trans h.b4 (h.own.lt k hk).1).putNew h.bx0 _, h.b4, by have := h.size; have := hg.size; simp; omega, h.bx0⟩
  have := own_far ho (own_ne ho hx (by decide)) vx' (p := ⟨bx, 3, none⟩)
  simpa only [IntsO, intCells, List.length_append, List.length_cons, List.length_nil, Nat.zero_add, List.map_append, List.map_cons, List.map_nil] using this
end
theorem results_cell_row2 {P : Program} {fn : Func} {p q : Tmp} {tp tq : TypeId} (h : fn.results = #[.cell p tp, .cell q tq]) (tmps : Array Value) (w : World) (g g' : Nat) (t t' : TypeId) (cs cs' : List Value) (d d' : TypeDesc)
    (hp : tmps.getD p undef = .pointer (some ⟨g, 0, none⟩)) (hq : tmps.getD q undef = .pointer (some ⟨g', 0, none⟩)) (hg : Blok w g t cs) (hg' : Blok w g' t' cs')
    (hu : P.underlying tp = some d) (hu' : P.underlying tq = some d') (hd : (match d with | .struct _ | .array _ _ => true | _ => false) = true) (hd' : (match d' with | .struct _ | .array _ _ => true | _ => false) = true)
    (hi : (P.info? tp).map (·.size) = some cs.toArray.size) (hi' : (P.info? tq).map (·.size) = some cs'.toArray.size) :
    (results fn tmps).run P w = .ok (.tuple #[.agg cs.toArray, .agg cs'.toArray]) w := by
  have hp' : tmps[p]?.getD undef = .pointer (some ⟨g, 0, none⟩) := by simpa using hp
  have hq' : tmps[q]?.getD undef = .pointer (some ⟨g', 0, none⟩) := by simpa using hq
  simp [results, h, hp', hq', asAddr, run_loadVar_row w g t tp cs.toArray (0, 0) d hg hu hd hi, run_loadVar_row w g' t' tq cs'.toArray (0, 0) d' hg' hu' hd' hi']
theorem Blok.drew {w : World} {g : Nat} {t : TypeId} {cs : List Value} (h : Blok w g t cs) : Blok w.drew g t cs := h
theorem UrnAt.drew {w : World} {g : Nat} (h : UrnAt w g) : UrnAt w.drew g := h
def puts8 (W : World) (b : Nat) (x0 x1 x2 : Value) : World := ((W.setCell ⟨b, 0, none⟩ x0).setCell ⟨b, 1, none⟩ x1).setCell ⟨b, 2, none⟩ x2
def puts9 (W : World) (b : Nat) (y0 y1 : Value) : World := (W.setCell ⟨b, 0, none⟩ y0).setCell ⟨b, 1, none⟩ y1
theorem puts8_fx {W : World} {b : Nat} {t : TypeId} {a0 a1 a2 : Value} (h : Blok W b t [a0, a1, a2]) (x0 x1 x2 : Value) : Blok (puts8 W b x0 x1 x2) b t [x0, x1, x2] ∧ Fx (fun _ t' => t' ≠ t) W (puts8 W b x0 x1 x2) ∧ ∀ k t' cs, k ≠ b → Blok W k t' cs → Blok (puts8 W b x0 x1 x2) k t' cs :=
  ⟨((h.put 0 x0).put 1 x1).put 2 x2, ((Fx.of_putT (x := ⟨b, 0, none⟩) h x0).trans (Fx.of_putT (x := ⟨b, 1, none⟩) (h.put 0 x0) x1)).trans (Fx.of_putT (x := ⟨b, 2, none⟩) ((h.put 0 x0).put 1 x1) x2), fun k t' cs hk hb => ((hb.far hk x0).far hk x1).far hk x2⟩
theorem puts9_fx {W : World} {b : Nat} {t : TypeId} {a0 a1 : Value} (h : Blok W b t [a0, a1]) (x0 x1 : Value) : Blok (puts9 W b x0 x1) b t [x0, x1] ∧ Fx (fun _ t' => t' ≠ t) W (puts9 W b x0 x1) ∧ ∀ k t' cs, k ≠ b → Blok W k t' cs → Blok (puts9 W b x0 x1) k t' cs :=
  ⟨(h.put 0 x0).put 1 x1, (Fx.of_putT (x := ⟨b, 0, none⟩) h x0).trans (Fx.of_putT (x := ⟨b, 1, none⟩) (h.put 0 x0) x1), fun k t' cs hk hb => (hb.far hk x0).far hk x1⟩
theorem puts8_kg {g : Nat} {w W : World} {b : Nat} (h : Kg g w W) (hb : w.heap.size ≤ b) (x0 x1 x2 : Value) : Kg g w (puts8 W b x0 x1 x2) := ((h.putNew (p := ⟨b, 0, none⟩) hb x0).putNew (p := ⟨b, 1, none⟩) hb x1).putNew (p := ⟨b, 2, none⟩) hb x2
theorem puts9_kg {g : Nat} {w W : World} {b : Nat} (h : Kg g w W) (hb : w.heap.size ≤ b) (x0 x1 : Value) : Kg g w (puts9 W b x0 x1) := (h.putNew (p := ⟨b, 0, none⟩) hb x0).putNew (p := ⟨b, 1, none⟩) hb x1
structure DoneU (g : Nat) (w W : World) (x0 x1 x2 y0 y1 : Value) (U : World) : Prop where
  r8 : Blok U w.heap.size 28 [x0, x1, x2]
  r9 : Blok U (w.heap.size + 1) 30 [y0, y1]
  fx : Fx (fun _ t => t ≠ 28 ∧ t ≠ 30) W U
  urn : UrnAt U g
  kg : Kg g w U
theorem Mk.done {g : Nat} {w W : World} {bD bW stones : Nat} {ve vn vy vf : Value} (h : Mk g w W bD bW stones ve vn vy vf) (x0 x1 x2 y0 y1 : Value) : DoneU g w W x0 x1 x2 y0 y1 (puts9 (puts8 W w.heap.size x0 x1 x2) (w.heap.size + 1) y0 y1).drew := by
  obtain ⟨p1, p2, p3⟩ := puts8_fx h.r8 x0 x1 x2
  obtain ⟨q1, q2, q3⟩ := puts9_fx (p3 _ _ _ (by simp) h.r9) y0 y1
  have hfx := (p2.mono (q := fun _ t => t ≠ 28 ∧ t ≠ 30) fun _ _ h => h.1).trans (q2.mono (q := fun _ t => t ≠ 28 ∧ t ≠ 30) fun _ _ h => h.2)
  obtain ⟨x, y, hu⟩ := h.urn
  have hu' : UrnAt (puts9 (puts8 W w.heap.size x0 x1 x2) (w.heap.size + 1) y0 y1) g := ⟨x, y, hfx _ _ _ ⟨by decide, by decide⟩ hu⟩
  exact ⟨(q3 _ _ _ (by simp) p1).drew, q1.drew, hfx.trans ((Fx.drew _).mono fun _ _ _ => trivial), hu'.drew, (puts9_kg (puts8_kg h.kg (Nat.le_refl _) _ _ _) (Nat.le_succ _) _ _).drew⟩
def CutA (V : World) (kd : Int) (es : List (Int × Int)) (s t : Nat) (c : Value) (wx : World) : Prop := ∃ b : Bool, c = .bool b ∧ wx = V ∧ (b = false → (kd = 3 → es.length ≠ 0) ∧ (kd = 4 → s ≠ t))
def CutB (g : Nat) (wo : World) (bx s t : Nat) (es : List (Int × Int)) (wx : World) : Prop :=
  ∃ kd : Nat, Blok wx bx 51 [.int .i64 kd, .int .i64 s, .int .i64 0, .slice none 0 0, .int .i64 0, .int .i64 0] ∧ UrnAt wx g ∧ Kg g wo wx ∧ 1 ≤ kd ∧ kd ≤ 4 ∧ (kd = 3 → es.length ≠ 0) ∧ (kd = 4 → s ≠ t)
def CutC (g : Nat) (wo : World) (bx B k : Nat) (es : List (Int × Int)) (x : Nat → Int) (wx : World) : Prop :=
  ∃ (n : Nt) (vy : Value), Blok wx bx 51 [.int .i64 n.kind, .int .i64 n.stone, .int .i64 n.other, vy, .int .i64 n.lo, .int .i64 n.hi] ∧ UrnAt wx g ∧ Kg g wo wx ∧ Fine k es x n ∧ IntsO wx B vy n.years
def CutD (g : Nat) (wo : World) (bx s B4 at_ kk : Nat) (y : Int) (vx : Value) (l : List Int) (n : Int) (c : Value) (wx : World) : Prop :=
  ∃ b : Bool, c = .bool b ∧ YI g wo bx s B4 at_ kk y vx l wx ∧ (b = true → Yrs at_ (kk + 1) y (l ++ [n])) ∧ (b = false → kk ≠ at_)
/-- What DatingOf comes to: a valid dating with a truth. -/
def DatPost (g smax nmax : Nat) (w : World) (e : Ending) (w' : World) : Prop :=
  ∃ (d : Dat) (ys fs : List Int) (vd vy vf : Value), e = .returned (.tuple #[vd, .agg #[vy, vf]]) ∧ Made smax nmax d ys fs ∧ DatO w' w.heap.size vd d ∧ IntsO w' w.heap.size vy ys ∧ IntsO w' w.heap.size vf fs ∧ UrnAt w' g ∧ Kg g w w'
end
end
end Go.Proofs.Ytcbdcdpoackplaa
