/- A hand that follows from the urn. -/
import Derived.Test.YthhajbgddifenaaNu
import Derived.Deep.AppendLies
import Derived.Deep.RegionLaw
namespace Go.Proofs.Ythhajbgddifenaa
open Go.RowKit Go.Shelf

/-- The cells of some shapes. -/
def shCells (S : List Shape) : List Value := S.flatMap fun x => [.int .u8 x.letter, .int .i64 x.strokes]
theorem shCells_snoc (S : List Shape) (x : Shape) : shCells (S ++ [x]) = shCells S ++ [.int .u8 x.letter, .int .i64 x.strokes] := by simp [shCells]
theorem shCells_get : ∀ (S : List Shape) (k : Nat) (x : Shape), S[k]? = some x → (shCells S)[k * 2]? = some (.int .u8 x.letter) ∧ (shCells S)[k * 2 + 1]? = some (.int .i64 x.strokes) := by
  intro S
  induction S with
  | nil => intro k x h; simp at h
  | cons a S ih =>
    intro k x h
    cases k with
    | zero =>
      obtain rfl : a = x := by simpa using h
      exact ⟨rfl, rfl⟩
    | succ k =>
      have := ih k x (by simpa using h)
      rw [show (k + 1) * 2 = k * 2 + 1 + 1 by omega]
      exact this
theorem shCells_len (S : List Shape) : (shCells S).length = S.length * 2 := by
  induction S with
  | nil => rfl
  | cons a S ih =>
    have e : shCells (a :: S) = [.int .u8 a.letter, .int .i64 a.strokes] ++ shCells S := rfl
    rw [e, List.length_append, ih]
    simp
    omega
/-- A slice of shapes that has a block of its own. -/
def ShapesB (w : World) (sv : Value) (S : List Shape) : Prop := ∃ b c cur, sv = .slice (some ⟨b, 0, none⟩) S.length c ∧ Blok w b 86 cur ∧ cur.take (S.length * 2) = shCells S
theorem ShapesB.of_own {w : World} {base n : Nat} {v : Value} {S : List Shape} (h : w.ownsRow base 86 2 v n (shCells S)) (hn : n = S.length) (h0 : 0 < n) : ShapesB w v S := by
  rcases h.2 with ⟨_, h1⟩ | ⟨g, cap, cur, rfl, hbg, hg, hcap, _, hsz, htake⟩
  · omega
  · refine ⟨g, cap, cur.toList, by rw [hn], by unfold Blok; rw [hg], ?_⟩
    rw [← hn]
    exact htake
theorem ShapesB.kg {w w' : World} {g : Nat} {v : Value} {S : List Shape} (h : ShapesB w v S) (hu : UrnAt w g) (hk : Kg g w w') : ShapesB w' v S := by
  obtain ⟨b, c, cur, e, hb, ht⟩ := h
  exact ⟨b, c, cur, e, hb.kg hk (hu.ne hb (by decide)), ht⟩
theorem ShapesB.below {w w' : World} {v : Value} {S : List Shape} (h : ShapesB w v S) (hk : Below w.heap.size w w') : ShapesB w' v S := by
  obtain ⟨b, c, cur, e, hb, ht⟩ := h
  exact ⟨b, c, cur, e, hb.below hk hb.size, ht⟩
/-- A value whose block, if it has one, is B or above. -/
def NewB (B : Nat) (v : Value) : Prop := ∀ b, v.ownBlock = some b → B ≤ b
theorem NewB.mono {B B' : Nat} {v : Value} (h : NewB B v) (hB : B' ≤ B) : NewB B' v := fun b hb => Nat.le_trans hB (h b hb)
theorem NewB.of_own {w : World} {base n size : Nat} {e : TypeId} {v : Value} {xs : List Value} (h : w.ownsRow base e size v n xs) {B : Nat} (hB : B ≤ base) : NewB B v := fun b hb => Nat.le_trans hB (h.lt b hb).1
/-- As ShapesB, the block being B or above. -/
def ShapesN (B : Nat) (w : World) (sv : Value) (S : List Shape) : Prop := ShapesB w sv S ∧ NewB B sv
theorem ShapesN.mono {B B' : Nat} {w : World} {sv : Value} {S : List Shape} (h : ShapesN B w sv S) (hB : B' ≤ B) : ShapesN B' w sv S := ⟨h.1, h.2.mono hB⟩
theorem ShapesN.kg {B : Nat} {w w' : World} {g : Nat} {v : Value} {S : List Shape} (h : ShapesN B w v S) (hu : UrnAt w g) (hk : Kg g w w') : ShapesN B w' v S := ⟨h.1.kg hu hk, h.2⟩
theorem ShapesN.below {B : Nat} {w w' : World} {v : Value} {S : List Shape} (h : ShapesN B w v S) (hk : Below w.heap.size w w') : ShapesN B w' v S := ⟨h.1.below hk, h.2⟩
theorem ShapesB.shapes {w : World} {v : Value} {S : List Shape} (h : ShapesB w v S) : Shapes w w.heap.size v S := by
  obtain ⟨b, c, cur, rfl, hb, ht⟩ := h
  refine ⟨_, _, rfl, fun _ => ⟨b, 0, rfl, hb.size, fun k x hx => ?_⟩⟩
  have hk := (List.getElem?_eq_some_iff.1 hx).1
  obtain ⟨h1, h2⟩ := shCells_get S k x hx
  rw [← ht] at h1 h2
  rw [List.getElem?_take, if_pos (by omega)] at h1 h2
  rw [Nat.zero_add, hb.cell, hb.cell]
  exact ⟨h1, h2⟩
theorem own_kg {w w' : World} {g base size n : Nat} {e : TypeId} {v : Value} {xs : List Value} (h : w.ownsRow base e size v n xs) (hu : UrnAt w g) (he : e ≠ 91) (hk : Kg g w w') : w'.ownsRow base e size v n xs := by
  obtain ⟨h1, h2⟩ := h
  refine ⟨h1, ?_⟩
  rcases h2 with h2 | ⟨r, cap, cur, e1, e2, e3, e4⟩
  · exact .inl h2
  · have hb : Blok w r e cur.toList := by unfold Blok; rw [e3]
    exact .inr ⟨r, cap, cur, e1, e2, (hk.heap hb.size (hu.ne hb he)).trans e3, e4⟩
/-- What HandOf comes to. -/
def HandPost (g m : Nat) (w : World) (e : Ending) (w' : World) : Prop :=
  ∃ (h : Hand) (sv : Value), e = .returned (.agg #[.int .i64 h.low, .int .i64 h.high, sv]) ∧ h.ok ∧ (∀ s ∈ h.shapes, s.strokes < 32) ∧ h.shapes.length ≤ m ∧ ShapesN w.heap.size w' sv h.shapes ∧ UrnAt w' g ∧ Kg g w w'
/-- Within HandOf's loop. -/
def HandI (g m : Nat) (w0 : World) (rb hb base : Nat) (low high : Int) (fr i : Nat) (wr : World) : Prop :=
  ∃ (S : List Shape) (v : Value), Blok wr hb 68 [.int .i64 low, .int .i64 high, v] ∧ Blok wr rb 68 [.int .i64 0, .int .i64 0, .slice none 0 0] ∧ UrnAt wr g ∧ Kg g w0 wr ∧
    wr.ownsRow base 86 2 v S.length (shCells S) ∧ (∀ s ∈ S, s.ok ∧ s.strokes < 32 ∧ s.letter < 65 + fr) ∧ S.Pairwise (fun a b => a.letter < b.letter) ∧ fr ≤ 26 ∧ S.length + i ≤ m ∧ (S = [] → fr = 0 ∧ 0 < i) ∧ base ≤ wr.heap.size
theorem own_slice {w : World} {base n size : Nat} {e : TypeId} {v : Value} {xs : List Value} (h : w.ownsRow base e size v n xs) : ∃ A c, v = .slice A n c := by
  rcases h.2 with ⟨rfl, h0⟩ | ⟨g, cap, cur, rfl, _⟩
  · exact ⟨none, 0, by rw [h0]⟩
  · exact ⟨_, _, rfl⟩
theorem own_far {w : World} {base n size : Nat} {e : TypeId} {v : Value} {xs : List Value} (h : w.ownsRow base e size v n xs) {p : Addr} (hp : v.ownBlock ≠ some p.block) (u : Value) : (w.setCell p u).ownsRow base e size v n xs := by
  obtain ⟨h1, h2⟩ := h
  refine ⟨h1, ?_⟩
  rcases h2 with h2 | ⟨r, cap, cur, e1, e2, e3, e4⟩
  · exact .inl h2
  · subst e1
    refine .inr ⟨r, cap, cur, rfl, e2, (Below.heap_setCell w p u r ?_).trans e3, e4⟩
    rintro rfl
    exact hp rfl
theorem UrnAt.far {w : World} {g : Nat} (h : UrnAt w g) {p : Addr} (hp : g ≠ p.block) (u : Value) : UrnAt (w.setCell p u) g := by
  obtain ⟨x, y, h⟩ := h
  exact ⟨x, y, h.far hp u⟩
theorem UrnAt.own_ne {w : World} {g base size n : Nat} {e : TypeId} {v : Value} {xs : List Value} (h : UrnAt w g) (ho : w.ownsRow base e size v n xs) (he : e ≠ 91) : v.ownBlock ≠ some g := by
  obtain ⟨x, y, h⟩ := h
  exact Go.Proofs.Ythhajbgddifenaa.own_ne ho h he
theorem HandI.step {g m : Nat} {w0 w5 w7 : World} {rb hb base : Nat} {low high : Int} {fr q k st gg cap : Nat} {S : List Shape} {v : Value} {o : Obj}
    (B2 : Blok w5 rb 68 [.int .i64 0, .int .i64 0, .slice none 0 0]) (B7 : Blok w7 hb 68 [.int .i64 low, .int .i64 high, v]) (hu : UrnAt w5 g) (hk : Kg g w0 w5) (hg : (w5.alloc o).grownBy w7 v.ownBlock)
    (ho : w5.ownsRow base 86 2 v S.length (shCells S))
    (h7 : w7.ownsRow base 86 2 (.slice (some ⟨gg, 0, none⟩) (S.length + 1) cap) (S.length + 1) (shCells S ++ [.int .u8 (65 + ((fr : Int) + (q : Int))), .int .i64 st]))
    (hS : ∀ s ∈ S, s.ok ∧ s.strokes < 32 ∧ s.letter < 65 + fr) (hP : S.Pairwise (fun a b => a.letter < b.letter)) (hlen : S.length + k ≤ m) (hb5 : base ≤ w5.heap.size) (h0 : w0.heap.size ≤ base)
    (hq : fr + q < 26) (s1 : 1 ≤ st) (s2 : st ≤ 31) (hk0 : 0 < k) (hne : rb ≠ hb) (hw0 : w0.heap.size ≤ hb) :
    HandI g m w0 rb hb base low high (fr + q + 1) (k - 1) (w7.setCell ⟨hb, 2, none⟩ (.slice (some ⟨gg, 0, none⟩) (S.length + 1) cap)) := by
  have hu5 := hu.alloc o
  have ho5 := ho.alloc o
  have hu7 := hu5.grown hg (hu5.own_ne ho5 (by decide))
  have hgu : g ≠ hb := (hu7.ne B7 (by decide)).symm
  refine ⟨S ++ [⟨65 + fr + q, st⟩], .slice (some ⟨gg, 0, none⟩) (S.length + 1) cap, B7.put 2 _, ((B2.alloc o).grown hg (Go.Proofs.Ythhajbgddifenaa.own_ne ho5 (B2.alloc o) (by decide))).far hne _, hu7.far hgu _,
    ((hk.alloc o).grown hg fun j e => Nat.le_trans h0 (ho5.lt j e).1).putNew hw0 _, ?_, ?_, ?_, by omega, ?_, fun e => ?_, ?_⟩
  · have := own_far h7 (p := ⟨hb, 2, none⟩) (Go.Proofs.Ythhajbgddifenaa.own_ne h7 B7 (by decide)) (.slice (some ⟨gg, 0, none⟩) (S.length + 1) cap)
    rw [shCells_snoc, List.length_append]
    have e : ((65 + fr + q : Nat) : Int) = 65 + ((fr : Int) + (q : Int)) := by omega
    simp only [e]
    exact this
  · intro s hs
    rcases List.mem_append.1 hs with hs | hs
    · obtain ⟨a, b, c⟩ := hS s hs
      exact ⟨a, b, by omega⟩
    · obtain rfl : s = ⟨65 + fr + q, st⟩ := by simpa using hs
      exact ⟨⟨by simp; omega, by simp; omega, s1, by simp; omega⟩, by simp; omega, by simp; omega⟩
  · refine List.pairwise_append.2 ⟨hP, by simp, fun a ha b hb => ?_⟩
    obtain rfl : b = ⟨65 + fr + q, st⟩ := by simpa using hb
    have := (hS a ha).2.2
    show a.letter < 65 + fr + q
    omega
  · rw [List.length_append]; simp; omega
  · simp at e
  · have := hg.size
    simp [World.setCell] at this ⊢
    omega
theorem info_shape : (Try.prog.info? 86).map (fun i => (i.zero, i.size, i.bytes)) = some (some (.agg #[.int .u8 0, .int .i64 0]), 2, 16) := by kernel_rfl
theorem HandI.done {g m : Nat} {w wr : World} {rb base fr k cA r : Nat} {low : Int} {S : List Shape} {A : Option Addr}
    (B2 : Blok wr rb 68 [.int .i64 0, .int .i64 0, .slice none 0 0]) (hu : UrnAt wr g) (hk : Kg g w wr) (ho : wr.ownsRow base 86 2 (.slice A S.length cA) S.length (shCells S))
    (hS : ∀ s ∈ S, s.ok ∧ s.strokes < 32 ∧ s.letter < 65 + fr) (hP : S.Pairwise (fun a b => a.letter < b.letter)) (hlen : S.length + k ≤ m) (hne : S ≠ []) (h8 : m ≤ 8) (l1 : -600 ≤ low) (l2 : low ≤ 300) (r1 : r < 200) (hw : w.heap.size ≤ rb) (hb0 : w.heap.size ≤ base) :
    Blok (((wr.setCell ⟨rb, 0, none⟩ (.int .i64 low)).setCell ⟨rb, 1, none⟩ (.int .i64 (low + r))).setCell ⟨rb, 2, none⟩ (.slice A S.length cA)) rb 68 [.int .i64 low, .int .i64 (low + r), .slice A S.length cA] ∧
    HandPost g m w (.returned (.agg #[.int .i64 low, .int .i64 (low + r), .slice A S.length cA])) (((wr.setCell ⟨rb, 0, none⟩ (.int .i64 low)).setCell ⟨rb, 1, none⟩ (.int .i64 (low + r))).setCell ⟨rb, 2, none⟩ (.slice A S.length cA)) := by
  have hgr : g ≠ rb := (hu.ne B2 (by decide)).symm
  have hor : (Value.slice A S.length cA).ownBlock ≠ some rb := Go.Proofs.Ythhajbgddifenaa.own_ne ho B2 (by decide)
  have h1 : 0 < S.length := List.length_pos_iff.2 hne
  refine ⟨((B2.put 0 _).put 1 _).put 2 _, ⟨low, low + r, S⟩, _, rfl, ⟨by simp; omega, by show low ≤ low + (r : Int); omega, by simp; omega, h1, by simp; omega, fun s hs => (hS s hs).1, hP⟩, fun s hs => (hS s hs).2.1, by simp; omega, ?_, ((hu.far hgr _).far hgr _).far hgr _, ((hk.putNew hw _).putNew hw _).putNew hw _⟩
  exact ⟨ShapesB.of_own (own_far (own_far (own_far ho hor _) hor _) hor _) rfl h1, NewB.of_own ho hb0⟩
set_option maxRecDepth 100000 in
set_option maxHeartbeats 2000000 in
theorem handOf_any (g m : Nat) (w : World) (h1 : 1 ≤ m) (h8 : m ≤ 8) (hu : UrnAt w g) : Calls Try.prog 51 #[.pointer (some ⟨g, 0, none⟩), .int .i64 m] w (HandPost g m w) := by
  have HU := Lib.hid hu
  clear hu
  go_enter Try.func51, Try.ntmps51
  go_wp2_with fail
  refine (from_any _ _ _ _ (by omega) (by omega) (by omega) (by omega) (HU.out.alloc _)).mono ?_
  rintro e w1 ⟨low, rfl, l1, l2, hu1, hk1⟩
  have HU1 := Lib.hid hu1
  have HK1 := Lib.hid hk1
  clear hu1 hk1
  go_wp2_with fail
  refine (up_any _ _ _ (by omega) HU1.out).mono ?_
  rintro e w2 ⟨r, rfl, r1, hu2, hk2⟩
  have HU2 := Lib.hid hu2
  have HK2 := Lib.hid (HK1.out.trans hk2)
  have r2 : (r : Int) < 200 := by omega
  clear hu2 hk2 r1 HU1 HK1
  go_wp2_with fail
  refine (from_any _ _ _ _ (by omega) (by omega) (by omega) (by omega) (HU2.out.alloc _)).mono ?_
  rintro e w3 ⟨n, rfl, n1, n2, hu3, hk3⟩
  have HU3 := Lib.hid hu3
  have HK3 := Lib.hid hk3
  clear hu3 hk3
  obtain ⟨n, rfl⟩ := Int.eq_ofNat_of_zero_le (show 0 ≤ n by omega)
  obtain ⟨i0, hi, hz0, hz1, hz2⟩ := info_parts info_shape
  have hs2 : w.heap.size < w2.heap.size := by have := HK2.out.size; simp at this; omega
  have hs3 : w2.heap.size < w3.heap.size := by have := HK3.out.size; simp at this; omega
  have hst : HandI g m (w.alloc (.cells #[.int .i64 0, .int .i64 0, .slice none 0 0] 68)) w.heap.size w2.heap.size (w2.heap.size + 1) low (low + r) 0 n w3 := by
    have b1 : Blok w2 w.heap.size 68 [.int .i64 0, .int .i64 0, .slice none 0 0] := (Blok.new w _ _).kg HK2.out (by have := HU.out.size; omega)
    have b2 := Blok.new w2 68 [.int .i64 low, .int .i64 (low + r), .slice none 0 0]
    have u2 := HU2.out.alloc (.cells #[.int .i64 low, .int .i64 (low + r), .slice none 0 0] 68)
    refine ⟨[], .slice none 0 0, b2.kg HK3.out (u2.ne b2 (by decide)), (b1.alloc _).kg HK3.out (u2.ne (b1.alloc _) (by decide)), HU3.out, (HK2.out.alloc _).trans HK3.out, World.ownsRow_nil _ _ _ _, by simp, List.Pairwise.nil, by omega, ?_, fun _ => ⟨rfl, by omega⟩, by omega⟩
    simp; omega
  have HST := Lib.hid hst
  clear hst HK2 HK3 HU2 HU3
  go_wp2
  go_loopw [7, 8] (fun f i wr => ∃ fr k : Nat, f = .int .i64 fr ∧ i = .int .i64 k ∧ HandI g m (w.alloc (.cells #[.int .i64 0, .int .i64 0, .slice none 0 0] 68)) w.heap.size w2.heap.size (w2.heap.size + 1) low (low + r) fr k wr) (fun _ i _ => (intOf i).toNat)
  case atStart => exact ⟨0, n, rfl, rfl, HST.out⟩
  case round =>
    clear HST
    obtain ⟨fr, k, rfl, rfl, S, v, b1, b2, hu, hk, hown, hS, hP, f26, hlen, hne, hbase⟩ := hrel
    have B1 := Lib.hid b1
    have B2 := Lib.hid b2
    have HU := Lib.hid hu
    have HK := Lib.hid hk
    have HO := Lib.hid hown
    have HS := Lib.hid hS
    have HP := Lib.hid hP
    have HN := Lib.hid hne
    clear b1 b2 hu hk hown hS hP hne
    obtain ⟨A, cA, rfl⟩ := own_slice HO.out
    by_cases hgo : 0 < k ∧ fr < 26
    · obtain ⟨g1, g2⟩ := hgo
      go_wp2_with fail
      all_goals
        refine (up_any _ _ _ (by omega) HU.out).mono ?_
        rintro e w4 ⟨q, rfl, q1, hu4, hk4⟩
        have q2 : fr + q < 26 := by omega
        have HB1 := Lib.hid (B1.out.kg hk4 (HU.out.ne B1.out (by decide)))
        have HB2 := Lib.hid (B2.out.kg hk4 (HU.out.ne B2.out (by decide)))
        have HO4 := Lib.hid (own_kg HO.out HU.out (by decide) hk4)
        have HK4 := Lib.hid (HK.out.trans hk4)
        have HU4 := Lib.hid hu4
        have hs4 := hk4.size
        have c1 : w4.cell? ⟨w2.heap.size, 2, none⟩ = some (.slice A S.length cA) := HB1.out.cell 2
        have hl1 := HB1.out.size
        clear hu4 hk4 q1
        go_wp2_with fail
        have e1 : IntKind.i64.wrap (65 + ((fr : Int) + (q : Int))) = 65 + ((fr : Int) + (q : Int)) := IntWalk.i64_in _ (by omega)
        have e2 : IntKind.u8.wrap (65 + ((fr : Int) + (q : Int))) = 65 + ((fr : Int) + (q : Int)) := IntWalk.u8_in _ (by omega)
        go_region_law (first
            | (refine step_append_lies _ (by rfl) _ _ _ (by rfl) (w2.heap.size + 1) 86 i0 _ 2 16 Try.underlying66 hi hz0 hz1 hz2 rfl (by omega) (.slice A S.length cA) S.length (shCells S) (by rfl) (HO5.out.alloc _) ⟨w5.heap.size, 0, none⟩ 1 1 [.int .u8 (65 + ((fr : Int) + (q : Int))), .int .i64 st] (by rfl) (by rfl) (World.news_of_block (cs := #[.int .u8 (65 + ((fr : Int) + (q : Int))), .int .i64 st]) (t := 86) (fr := (0, 0)) (heap_alloc_new w5 _)) (by simp [Value.oneCell']) (by omega) (by unfold maxLen; omega) (by omega) (by simp; omega) _ rfl ?_; intro gg cap w7 hown7 hgrow hat hlt; have hb7 := (HB5.out.alloc _).grown hgrow (own_ne HO5.out HB5.out (by decide)); have c7 : w7.cell? ⟨w2.heap.size, 2, none⟩ = some (.slice A S.length cA) := hb7.cell 2; have f7 := hb7.free 2; have z7 := hb7.size; have HB7 := Lib.hid hb7; have HO7 := Lib.hid hown7; have HG7 := Lib.hid hgrow; clear hb7 hown7 hgrow)
            | (go_simp; go_at_call 50; refine (from_any _ _ _ _ (by omega) (by omega) (by omega) (by omega) (by exact HU4.out)).mono ?_; rintro e w5 ⟨st, rfl, s1, s2, hu5, hk5⟩; obtain ⟨st, rfl⟩ := Int.eq_ofNat_of_zero_le (show 0 ≤ st by omega); have HB5 := Lib.hid (Blok.kg (a := World.drew w4) HB1.out hk5 (HU4.out.ne HB1.out (by decide))); have HO5 := Lib.hid (own_kg (w := World.drew w4) HO4.out (show UrnAt (World.drew w4) g from HU4.out) (by decide) hk5); have hz5 := HB5.out.size; have hz6 : w2.heap.size + 1 ≤ w5.heap.size := hz5; have c5 : w5.cell? ⟨w2.heap.size, 2, none⟩ = some (.slice A S.length cA) := HB5.out.cell 2; have HU5 := Lib.hid hu5; have HK5 := Lib.hid hk5; clear hu5 hk5))
        clear e1 e2
      all_goals
        go_wp2
        go_roundw
        case rel => exact ⟨fr + q + 1, k - 1, by go_num, by go_num, HandI.step (Blok.kg (a := World.drew w4) HB2.out HK5.out (HU4.out.ne HB2.out (by decide))) HB7.out HU5.out (HK4.out.drew.trans HK5.out) HG7.out HO5.out HO7.out HS.out HP.out hlen (by omega) (by simp; omega) q2 (by omega) (by omega) g1 (by omega) (by simp; omega)⟩
        case measure => simp [intOf]; omega
    · have hSne : S ≠ [] := fun e => by
        have := HN.out e
        exact hgo ⟨this.2, by omega⟩
      have HD := Lib.hid (HandI.done B2.out HU.out (((Kg.refl g w).alloc _).trans HK.out) HO.out HS.out HP.out hlen hSne h8 l1 (by omega) (show r < 200 by omega) (Nat.le_refl _) (by omega))
      have l0 := B1.out.cell 0
      have l1 := B1.out.cell 1
      have l2 := B1.out.cell 2
      have r0 := B2.out.cell 0
      have r1 := B2.out.cell 1
      have r2 := B2.out.cell 2
      have f0 := B2.out.free 0
      have f1 := B2.out.free 1
      have f2 := B2.out.free 2
      simp at l0 l1 l2 r0 r1 r2
      clear hSne
      by_cases hk0 : 0 < k
      · have h26 : ¬ fr < 26 := fun h => hgo ⟨hk0, h⟩
        clear hgo
        go_wp2
        refine bodyPost_ret (v := .agg #[.int .i64 low, .int .i64 (low + r), .slice A S.length cA]) ?_ ?_ HD.out.2
        · exact results_cell_row Try.results51 _ _ w.heap.size 68 _ (0, 0) _ rfl HD.out.1 Try.underlying68 rfl (by kernel_rfl)
        · rfl
      · clear hgo
        go_wp2
        refine bodyPost_ret (v := .agg #[.int .i64 low, .int .i64 (low + r), .slice A S.length cA]) ?_ ?_ HD.out.2
        · exact results_cell_row Try.results51 _ _ w.heap.size 68 _ (0, 0) _ rfl HD.out.1 Try.underlying68 rfl (by kernel_rfl)
        · rfl
end Go.Proofs.Ythhajbgddifenaa
