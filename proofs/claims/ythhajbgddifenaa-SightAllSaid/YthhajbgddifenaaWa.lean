/- SightAll's helpers: walk, at the end of a way. -/
import Derived.Test.YthhajbgddifenaaAy
import Derived.Test.YthhajbgddifenaaWh
import Derived.Test.YthhajbgddifenaaSm
import Derived.Test.YthhajbgddifenaaTp
import Derived.Deep.AppendLies
import Derived.Deep.QuietTactic
import Derived.BigQuiet
import Derived.BigRegion
import Derived.Deep.RegionLaw
import Derived.Deep.RegionHeld3
import Derived.Deep.DeepCutAuto
import Derived.Deep.CutBlock
namespace Go.Proofs.Ythhajbgddifenaa
open Go.RowKit Go.Shelf

def strOf (l : List UInt8) : ByteArray := ⟨l.toArray⟩
theorem strOf_size (l : List UInt8) : (strOf l).size = l.length := by show l.toArray.size = _; simp
theorem strOf_list (l : List UInt8) : (strOf l).data.toList = l := rfl
def bytesOf (S : List Shape) (ks : List Nat) : ByteArray := strOf (ks.map (byteAt S))
def intsOf (l : List Nat) : List Value := l.map fun (x : Nat) => Value.int .i64 x
/-- What was found, in memory above W. -/
structure WalkI (W wr : World) (fb gl m : Nat) (f : Found) : Prop where
  bel : Below W.heap.size W wr
  box : ∃ hv, Blok wr fb 74 [.slice (some ⟨gl, 0, none⟩) m m, hv, .int .i64 f.marks] ∧ wr.ownsRow W.heap.size 3 1 hv f.hands.length (intsOf f.hands)
  strs : Blok wr gl 9 (f.letters.map fun l => Value.string (strOf l))
  len : f.letters.length = m
  hfb : W.heap.size ≤ fb
  hgl : W.heap.size ≤ gl
  hnd : f.hands.Nodup ∧ ∀ x ∈ f.hands, x < 4
  lnd : ∀ l ∈ f.letters, l.Nodup
  few : f.marks ≤ 999
section
variable {W wr w' : World} {fb gl m : Nat} {f : Found}
theorem WalkI.below (h : WalkI W wr fb gl m f) (hw : Below wr.heap.size wr w') : WalkI W w' fb gl m f := by
  obtain ⟨a, ⟨hv, b, c⟩, d, e, i, j, k, l, n⟩ := h
  exact ⟨a.trans (hw.mono a.size), ⟨hv, b.below hw b.size, own_below c hw (Nat.le_refl _)⟩, d.below hw d.size, e, i, j, k, l, n⟩
theorem WalkI.hands4 (h : WalkI W wr fb gl m f) : f.hands.length ≤ 4 := by
  have := List.Nodup.length_le_of_subset h.hnd.1 (l₂ := List.range 4) fun x hx => List.mem_range.2 (h.hnd.2 x hx)
  simpa using this
theorem nodup256 {l : List UInt8} (h : l.Nodup) : l.length ≤ 256 := by
  have := List.Nodup.length_le_of_subset h (l₂ := (List.range 256).map UInt8.ofNat) fun x _ => List.mem_map.2 ⟨x.toNat, List.mem_range.2 x.toNat_lt, by simp⟩
  simpa using this
/-- Other least marks. -/
theorem WalkI.marks (h : WalkI W wr fb gl m f) (n : Nat) (hn : n ≤ 999) : WalkI W (wr.setCell ⟨fb, 2, none⟩ (.int .i64 n)) fb gl m ⟨f.letters, f.hands, n⟩ := by
  obtain ⟨a, ⟨hv, b, c⟩, d, e, i, j, k, l, _⟩ := h
  exact ⟨a.setCell (p := ⟨fb, 2, none⟩) i _, ⟨hv, b.put 2 _, own_far c (p := ⟨fb, 2, none⟩) (own_ne c b (by decide)) _⟩, d.far (p := ⟨fb, 2, none⟩) (blok_ne d b (by decide)) _, e, i, j, k, l, hn⟩
/-- One more hand. -/
theorem WalkI.hand {o : Obj} {w8 : World} {hv : Value} {A : Option Addr} {c x : Nat} (h : WalkI W wr fb gl m f) (hb : Blok wr fb 74 [.slice (some ⟨gl, 0, none⟩) m m, hv, .int .i64 f.marks]) (ho : wr.ownsRow W.heap.size 3 1 hv f.hands.length (intsOf f.hands))
    (hg : (wr.alloc o).grownBy w8 hv.ownBlock) (h8 : w8.ownsRow W.heap.size 3 1 (.slice A (f.hands.length + 1) c) (f.hands.length + 1) (intsOf f.hands ++ [.int .i64 x])) (hx : ¬ x ∈ f.hands) (hx4 : x < 4) :
    WalkI W (w8.setCell ⟨fb, 1, none⟩ (.slice A (f.hands.length + 1) c)) fb gl m ⟨f.letters, f.hands ++ [x], f.marks⟩ := by
  obtain ⟨a, -, d, e, i, j, k, l, n⟩ := h
  have hoa := ho.alloc o
  have hb8 := (hb.alloc o).grown hg (own_ne hoa (hb.alloc o) (by decide))
  have hd8 := (d.alloc o).grown hg (own_ne hoa (d.alloc o) (by decide))
  have ha8 := (a.alloc a.size o).grown hg (by simp; have := a.size; omega) (fun r e => (hoa.lt r e).1)
  refine ⟨ha8.setCell (p := ⟨fb, 1, none⟩) i _, ⟨_, hb8.put 1 _, ?_⟩, hd8.far (p := ⟨fb, 1, none⟩) (blok_ne hd8 hb8 (by decide)) _, e, i, j, ⟨?_, ?_⟩, l, n⟩
  · have := own_far h8 (p := ⟨fb, 1, none⟩) (own_ne h8 hb8 (by decide)) (.slice A (f.hands.length + 1) c)
    show World.ownsRow _ _ _ _ _ (f.hands ++ [x]).length (intsOf (f.hands ++ [x]))
    have e1 : intsOf (f.hands ++ [x]) = intsOf f.hands ++ [.int .i64 x] := by simp [intsOf]
    rw [e1, List.length_append]
    exact this
  · refine List.nodup_append.2 ⟨k.1, by simp, fun p hp q hq => ?_⟩
    obtain rfl : q = x := by simpa using hq
    rintro rfl
    exact hx hp
  · intro y hy
    rcases List.mem_append.1 hy with hy | hy
    · exact k.2 y hy
    · obtain rfl : y = x := by simpa using hy
      exact hx4
/-- One more letter in a square. -/
theorem WalkI.letter (h : WalkI W wr fb gl m f) {q : Nat} (hq : q < m) {u : UInt8} (hu : ¬ u ∈ f.letters.getD q []) : WalkI W (wr.setCell ⟨gl, q, none⟩ (.string (strOf (f.letters.getD q [] ++ [u])))) fb gl m ⟨f.letters.set q (f.letters.getD q [] ++ [u]), f.hands, f.marks⟩ := by
  obtain ⟨a, ⟨hv, b, c⟩, d, e, i, j, k, l, n⟩ := h
  refine ⟨a.setCell (p := ⟨gl, q, none⟩) j _, ⟨hv, b.far (p := ⟨gl, q, none⟩) (blok_ne b d (by decide)) _, own_far c (p := ⟨gl, q, none⟩) (own_ne c d (by decide)) _⟩, ?_, by rw [List.length_set]; exact e, i, j, k, fun x hx => ?_, n⟩
  · have := d.put q (.string (strOf (f.letters.getD q [] ++ [u])))
    show Blok _ gl _ ((f.letters.set q _).map _)
    rw [List.map_set]
    exact this
  · rcases List.mem_or_eq_of_mem_set hx with hx | rfl
    · exact l x hx
    · have hq' : q < f.letters.length := by omega
      have e1 : f.letters.getD q [] = f.letters[q] := by simp [List.getD, hq']
      refine List.nodup_append.2 ⟨by rw [e1]; exact l _ (List.getElem_mem hq'), by simp, fun p hp r hr => ?_⟩
      obtain rfl : r = u := by simpa using hr
      rintro rfl
      exact hu hp
end
theorem ints_own {w : World} {base : Nat} {v : Value} {l : List Nat} (h : w.ownsRow base 3 1 v l.length (intsOf l)) : Ints w w.heap.size v l := ints_of_own h

/-- All blocks but those of what was found are as they were. -/
structure Kt (a b : World) : Prop where
  size : a.heap.size ≤ b.heap.size
  keep : ∀ k t cs, Blok a k t cs → t ≠ 74 → t ≠ 9 → t ≠ 3 → Blok b k t cs
section
variable {a b c : World}
theorem Kt.refl (w : World) : Kt w w := ⟨Nat.le_refl _, fun _ _ _ h _ _ _ => h⟩
theorem Kt.trans (h : Kt a b) (k : Kt b c) : Kt a c := ⟨Nat.le_trans h.size k.size, fun i t cs hb h1 h2 h3 => k.keep i t cs (h.keep i t cs hb h1 h2 h3) h1 h2 h3⟩
theorem Kt.of_below (h : Below a.heap.size a b) : Kt a b := ⟨h.size, fun _ _ _ hb _ _ _ => hb.below h hb.size⟩
theorem Kt.alloc (h : Kt a b) (o : Obj) : Kt a (b.alloc o) := h.trans (Kt.of_below ((Below.refl _ _).alloc (Nat.le_refl _) _))
theorem Kt.drewN (h : Kt a b) (n : Nat) : Kt a (b.drewN n) := ⟨h.size, h.keep⟩
theorem Kt.put {g i : Nat} {t : TypeId} {cs : List Value} (h : Kt a b) (hb : Blok b g t cs) (ht : t = 74 ∨ t = 9) (u : Value) : Kt a (b.setCell ⟨g, i, none⟩ u) :=
  ⟨by simp [World.setCell]; exact h.size, fun k t' cs' hk h1 h2 h3 => (h.keep k t' cs' hk h1 h2 h3).far (p := ⟨g, i, none⟩) (blok_ne (h.keep k t' cs' hk h1 h2 h3) hb (by rcases ht with rfl | rfl <;> assumption)) u⟩
theorem Kt.grown {base n : Nat} {v : Value} {xs : List Value} {w' : World} (h : Kt a b) (ho : b.ownsRow base 3 1 v n xs) (hg : b.grownBy w' v.ownBlock) : Kt a w' :=
  ⟨Nat.le_trans h.size hg.size, fun k t cs hk h1 h2 h3 => (h.keep k t cs hk h1 h2 h3).grown hg (own_ne ho (h.keep k t cs hk h1 h2 h3) (Ne.symm h3))⟩
end
def inB (l : List Nat) (x : Nat) : Bool := decide (x ∈ l)
theorem in_any (v : Value) (l : List Nat) (x : Nat) (w : World) (hl8 : l.length ≤ 100) (B : Nat) (hv : Ints w B v l) : Calls Try.prog 36 #[v, .int .i64 x] w fun e w' => e = .returned (.bool (inB l x)) ∧ w = w' := by
  by_cases h : x ∈ l
  · rw [show inB l x = true by simp [inB, h]]
    exact in_yes v l x w hl8 B hv h
  · rw [show inB l x = false by simp [inB, h]]
    exact in_no v l x w hl8 B hv h
theorem Blok.new' {w : World} {g : Nat} {t : TypeId} {cs : List Value} (hg : g = w.heap.size) : Blok (w.alloc (.cells cs.toArray t)) g t cs := by subst hg; exact Blok.new w t cs
theorem set_same {α : Type} {l : List α} {n : Nat} {d : α} (h : n < l.length) : l.set n (l.getD n d) = l := by
  apply List.ext_getElem?
  intro i
  by_cases e : i = n
  · subst e
    rw [List.getElem?_set_self h]
    simp [List.getD, h]
  · rw [List.getElem?_set_ne (Ne.symm e)]

theorem strOf_snoc (l : List UInt8) (s : ByteArray) (k : Nat) (hk : k < s.size) : strOf l ++ s.extract k (k + 1) = strOf (l ++ [s[k]]) := by
  apply ByteArray.ext
  apply Array.toList_inj.1
  rw [ByteArray.data_append, ByteArray.data_extract, Array.toList_append, Array.toList_extract, List.extract_eq_take_drop]
  show l ++ _ = l ++ [s[k]]
  congr 1
  have h : k < s.data.toList.length := by rw [Array.length_toList]; exact hk
  rw [show k + 1 - k = 1 by omega, List.drop_eq_getElem_cons h]
  rfl
theorem strOf_cell {w : World} {gl q : Nat} {f : Found} {m : Nat} {W : World} {fb : Nat} (h : WalkI W w fb gl m f) (hq : q < m) : w.cell? ⟨gl, q, none⟩ = some (.string (strOf (f.letters.getD q []))) ∧ (strOf (f.letters.getD q [])).size ≤ 256 := by
  have hq' : q < f.letters.length := by rw [h.len]; exact hq
  have e1 : f.letters.getD q [] = f.letters[q] := by simp [List.getD, hq']
  refine ⟨?_, ?_⟩
  · rw [h.strs.cell, List.getElem?_map, List.getElem?_eq_getElem hq', e1]
    rfl
  · rw [strOf_size, e1]
    exact nodup256 (h.lnd _ (List.getElem_mem hq'))
theorem bytesOf_at {S : List Shape} {ks : List Nat} {k : Nat} (hk : k < (bytesOf S ks).size) : (bytesOf S ks)[k] = byteAt S (ks.getD k 0) := by
  have hl : k < ks.length := by unfold bytesOf at hk; rw [strOf_size, List.length_map] at hk; exact hk
  have e : (bytesOf S ks)[k] = ((ks.map (byteAt S)).toArray)[k]'(by simpa using hl) := rfl
  rw [e]
  simp [List.getD, hl]
set_option maxRecDepth 100000 in
set_option maxHeartbeats 4000000 in
theorem walk_end (L : Line) (hL : Slim L) (hand : Nat) (H : Hand) (hH : L.hands[hand]? = some H) (v : Value) (B : Nat) (x : Way) (hx : WayOk L H.shapes L.squares.length x) (W wr : World) (fb gl : Nat) (f : Found) (hv : LineAt wr B v L) (hI : WalkI W wr fb gl L.squares.length f) :
    Calls Try.prog 41 #[v, .int .i64 hand, .string (bytesOf H.shapes x.1), .int .i64 x.2, .pointer (some ⟨fb, 0, none⟩)] wr fun e w' => e = .returned (.tuple #[]) ∧ WalkI W w' fb gl L.squares.length (f.add L.total H.shapes hand x) ∧ Kt wr w' := by
  have h60 := way_few hL (List.mem_of_getElem? hH) hx
  have hh2 : hand < 4 := by have := (List.getElem?_eq_some_iff.1 hH).1; have := hL.hands; omega
  have hm3 : L.squares.length ≤ 3 := hL.squares
  have hT40 : L.total ≤ 40 := hL.ok.2.2.2.2.2.1
  obtain ⟨vh, vs, rfl, hhx, hqx⟩ := hv
  obtain ⟨A, c, rfl, -⟩ := hhx
  obtain ⟨AQ, cQ, rfl, -⟩ := hqx
  obtain ⟨s, hs⟩ : ∃ s, s = bytesOf H.shapes x.1 := ⟨_, rfl⟩
  have hsz : s.size = L.squares.length := by rw [hs]; unfold bytesOf; rw [strOf_size, List.length_map, hx.len]
  obtain ⟨m, hm⟩ : ∃ m, m = L.squares.length := ⟨_, rfl⟩
  rw [← hm] at hsz hm3 hI
  rw [← hs, ← hm]
  have HS := Lib.hid hs
  have HM := Lib.hid hm
  have HX := Lib.hid hx
  have HI := Lib.hid hI
  have HSZ := Lib.hid hsz
  have e0 : ((s.size : Int) == (m : Int)) = true := by rw [hsz]; simp
  obtain ⟨hv0, hb0, ho0⟩ := hI.box
  obtain ⟨Ah, ch, rfl⟩ := own_slice ho0
  have zf := hb0.size
  have zg := hI.strs.size
  have f2 := hb0.free 2
  have b2 : wr.cell? ⟨fb, 2, none⟩ = some (.int .i64 f.marks) := hb0.cell 2
  have hm9 := hI.few
  have HB0 := Lib.hid hb0
  clear hs hm hx hI hb0 ho0 hsz
  go_enter Try.func41, Try.ntmps41
  go_upto_region 3 with fail
  go_cut [] (fun wx => WalkI W wx fb gl m ⟨f.letters, f.hands, min f.marks x.2⟩ ∧ Blok wx wr.heap.size 25 [.slice A L.hands.length c, .int .i64 L.worn, .int .i64 L.scr, .int .i64 L.total, .slice AQ m cQ] ∧ Kt wr wx)
  case first =>
    have hne : wr.heap.size ≠ fb := by omega
    by_cases hlt : x.2 < f.marks
    · have HMIN := Lib.hid (show min f.marks x.2 = x.2 by omega)
      go_wp2_with fail
      go_meet
      refine ⟨?_, Blok.new' (by simp [World.setCell]), ((Kt.refl wr).put HB0.out (.inl rfl) _).alloc _⟩
      rw [HMIN.out]
      exact (HI.out.marks x.2 (by omega)).below ((Below.refl _ _).alloc (Nat.le_refl _) _)
    · have HMIN := Lib.hid (show min f.marks x.2 = f.marks by omega)
      go_wp2_with fail
      go_meet
      refine ⟨?_, Blok.new' (by simp [World.setCell]), ((Kt.refl wr).put HB0.out (.inl rfl) _).alloc _⟩
      rw [HMIN.out]
      exact (HI.out.marks f.marks hm9).below ((Below.refl _ _).alloc (Nat.le_refl _) _)
  case rest =>
    obtain ⟨hI2, hbl, hkt⟩ := hcut
    obtain ⟨mk, hmk⟩ : ∃ mk, mk = min f.marks x.2 := ⟨_, rfl⟩
    rw [← hmk] at hI2
    have HMK := Lib.hid hmk
    have HI2 := Lib.hid hI2
    have HKT := Lib.hid hkt
    have l3 : wc.cell? ⟨wr.heap.size, 3, none⟩ = some (.int .i64 L.total) := hbl.cell 3
    clear hI2 hmk HI b2 f2 e0 HB0 hkt
    by_cases hT : x.2 ≤ L.total
    · have HADD := Lib.hid (show f.add L.total H.shapes hand x = ⟨addTo H.shapes x.1 f.letters m, addHand f.hands hand, mk⟩ by unfold Found.add; rw [if_pos hT, HX.out.len, ← HM.out, HMK.out])
      obtain ⟨hv0, hb0, ho0⟩ := HI2.out.box
      obtain ⟨Ah, ch, rfl⟩ := own_slice ho0
      have b1 : wc.cell? ⟨fb, 1, none⟩ = some (.slice Ah f.hands.length ch) := hb0.cell 1
      have HB0 := Lib.hid hb0
      have h4 := HI2.out.hands4
      obtain ⟨nh, hnh⟩ : ∃ nh, nh = f.hands.length := ⟨_, rfl⟩
      have h4' : nh ≤ 4 := by rw [hnh]; exact h4
      have HINT := Lib.hid (ints_own ho0)
      rw [← hnh] at b1 HINT
      have HO0 := Lib.hid ho0
      have HNH := Lib.hid hnh
      clear hb0 ho0 h4 hnh hbl
      obtain ⟨bb, hbb⟩ : ∃ bb, bb = inB f.hands hand := ⟨_, rfl⟩
      have HIN := Lib.hid (in_any (.slice Ah nh ch) f.hands hand wc (by have := HNH.out; omega) _ (by exact HINT.out))
      rw [← hbb] at HIN
      have HBB := Lib.hid hbb
      clear hbb
      go_upto_if 41 with (go_at_call 36; refine HIN.out.mono ?_; rintro e wq ⟨rfl, rfl⟩)
      go_cut [] (fun wx => WalkI W wx fb gl m ⟨f.letters, addHand f.hands hand, mk⟩ ∧ Kt wr wx)
      case first =>
        cases bb
        rotate_left
        · have hmem : hand ∈ f.hands := by have := HBB.out; simpa [inB] using this.symm
          have HAH := Lib.hid (show addHand f.hands hand = f.hands by unfold addHand; rw [if_pos hmem])
          clear hmem
          go_wp2_with fail
          go_meet
          rw [HAH.out]
          exact ⟨HI2.out, HKT.out⟩
        · have hmem : ¬ hand ∈ f.hands := by have := HBB.out; simpa [inB] using this.symm
          have HAH := Lib.hid (show addHand f.hands hand = f.hands ++ [hand] by unfold addHand; rw [if_neg hmem])
          have HMEM := Lib.hid hmem
          have zf2 : fb < wc.heap.size := HB0.out.size
          obtain ⟨i0, hi, hz0, hz1, hz2⟩ := info_parts info_int
          have HIF := Lib.hid hi
          have HZ0 := Lib.hid hz0
          have HZ1 := Lib.hid hz1
          have HZ2 := Lib.hid hz2
          have HOA := Lib.hid (show (wc.alloc (.cells #[.int .i64 hand] 3)).ownsRow W.heap.size 3 1 (.slice Ah nh ch) nh (intsOf f.hands) by rw [HNH.out]; exact HO0.out.alloc _)
          clear hmem hi hz0 hz1 hz2
          go_wp2_with (at_builtin; refine wpList_append_lies _ rfl _ _ 28 rfl W.heap.size 3 i0 _ 1 8 Try.underlying28 HIF.out HZ0.out HZ1.out HZ2.out rfl (by decide) (.slice Ah nh ch) nh (intsOf f.hands) (by rfl) HOA.out ⟨wc.heap.size, 0, none⟩ 1 1 [.int .i64 hand] (by rfl) (by rfl) (cell_one_new _ _ _) (by simp [Value.oneCell']) (by omega) (by unfold maxLen; omega) (by omega) (by have := HI2.out.bel.size; simp; omega) _ rfl ?_; intro gg cap w5 hown5 hgrow hat hlt5; have hb5 := (HB0.out.alloc (.cells #[.int .i64 hand] 3)).grown hgrow (own_ne HOA.out (HB0.out.alloc (.cells #[.int .i64 hand] 3)) (by decide)); have HB5 := Lib.hid hb5; have b5 : w5.cell? ⟨fb, 1, none⟩ = some (.slice Ah f.hands.length ch) := hb5.cell 1; have f5 := hb5.free 1; clear hb5)
          go_meet
          rw [HAH.out]
          have e := HNH.out
          subst e
          exact ⟨HI2.out.hand HB0.out HO0.out hgrow hown5 HMEM.out hh2, ((HKT.out.alloc _).grown HOA.out hgrow).put HB5.out (.inl rfl) _⟩
      case rest =>
        obtain ⟨hI3, hkt⟩ := hcut
        have HI3 := Lib.hid hI3
        have HKT3 := Lib.hid hkt
        have s3 : s.size ≤ 3 := by have := HSZ.out; omega
        clear hI3 hkt HI2 HKT HB0 HINT HO0 HBB HIN b1 l3
        go_wp2_with fail
        go_loopw [11] (fun sk wx => ∃ k : Nat, k ≤ s.size ∧ sk = .int .i64 k ∧ Hid (WalkI W wx fb gl m ⟨addTo H.shapes x.1 f.letters k, addHand f.hands hand, mk⟩) ∧ Hid (Kt wr wx)) (fun sk _ => s.size - (intOf sk).toNat)
        case atStart => exact ⟨0, by omega, rfl, HI3, HKT3⟩
        case round =>
          clear HI3 HKT3
          obtain ⟨k, hk, rfl, HJ, HKJ⟩ := hrel
          by_cases hks : k < s.size
          · have hkm : k < m := by have := HSZ.out; omega
            have hks2 : s[k] = byteAt H.shapes (x.1.getD k 0) := by have := HS.out; subst this; exact bytesOf_at hks
            obtain ⟨c1, hy⟩ := strOf_cell HJ.out hkm
            obtain ⟨hv0, hb0, ho0⟩ := HJ.out.box
            have c0 : wr.cell? ⟨fb, 0, none⟩ = some (.slice (some ⟨gl, 0, none⟩) m m) := hb0.cell 0
            have f1 : wr.frozen? ⟨gl, k, none⟩ = false := HJ.out.strs.free k
            have HADT := Lib.hid (show addTo H.shapes x.1 f.letters (k + 1) = (addTo H.shapes x.1 f.letters k).set k (addByte ((addTo H.shapes x.1 f.letters k).getD k []) s[k]) by rw [hks2]; rfl)
            obtain ⟨ls, hls⟩ : ∃ ls, ls = addTo H.shapes x.1 f.letters k := ⟨_, rfl⟩
            have hlen : ls.length = m := by rw [hls]; exact HJ.out.len
            rw [← hls] at c1 hy HADT HJ
            have HLEN := Lib.hid hlen
            obtain ⟨l, hl⟩ : ∃ l, l = ls.getD k [] := ⟨_, rfl⟩
            have hc1 : wr.cell? ⟨gl, k, none⟩ = some (.string (strOf l)) := by rw [hl]; exact c1
            have hy' : (strOf l).size ≤ 1000 := by rw [hl]; exact Nat.le_trans hy (by omega)
            have HL := Lib.hid hl
            obtain ⟨y, hyy⟩ : ∃ y, y = strOf l := ⟨_, rfl⟩
            rw [← hyy] at hc1 hy'
            have HYY := Lib.hid hyy
            have k0 : (0 : Int) ≤ (k : Int) := by omega
            have k1 : (k : Int) < (m : Int) := by omega
            have k2 : (k : Int) < (s.size : Int) := by omega
            clear c1 hy hb0 ho0 hls hlen hl hks2 hyy
            by_cases hu : s[k] ∈ l
            · have HU := Lib.hid (show s[k] ∈ y.data.toList by rw [HYY.out, strOf_list]; exact hu)
              have HSAME := Lib.hid (show addTo H.shapes x.1 f.letters (k + 1) = ls by rw [HADT.out, ← HL.out, addByte, if_pos hu, HL.out]; exact set_same (by rw [HLEN.out]; exact hkm))
              clear hu
              go_wp2_with fail
              go_quiet ((go_at_call 39; exact quietL (has_yes y s[k] _ (by omega) HU.out)))
              go_wp2_with fail
              exact ⟨⟨k + 1, by omega, by go_num, Lib.hid (by rw [HSAME.out]; exact HJ.out.below (below_drewN (Below.refl _ _) nq)), Lib.hid (HKJ.out.drewN nq)⟩, by simp [intOf]; omega⟩
            · have HU := Lib.hid (show ¬ s[k] ∈ y.data.toList by rw [HYY.out, strOf_list]; exact hu)
              have HNEW := Lib.hid (show addTo H.shapes x.1 f.letters (k + 1) = ls.set k (l ++ [s[k]]) by rw [HADT.out, ← HL.out, addByte, if_neg hu])
              clear hu
              go_wp2_with fail
              go_quiet ((go_at_call 39; exact quietL (has_no y s[k] _ (by omega) HU.out)))
              obtain ⟨W1, hW1⟩ : ∃ W1, W1 = wr.drewN nq := ⟨_, rfl⟩
              have HJ1 := Lib.hid (show WalkI W W1 fb gl m ⟨ls, addHand f.hands hand, mk⟩ by rw [hW1]; exact HJ.out.below (below_drewN (Below.refl _ _) nq))
              have HKJ1 := Lib.hid (show Kt _ W1 by rw [hW1]; exact HKJ.out.drewN nq)
              have c0 : W1.cell? ⟨fb, 0, none⟩ = some (.slice (some ⟨gl, 0, none⟩) m m) := by rw [hW1]; exact c0
              have hc1 : W1.cell? ⟨gl, k, none⟩ = some (.string y) := by rw [hW1]; exact hc1
              have f1 : W1.frozen? ⟨gl, k, none⟩ = false := by rw [hW1]; exact f1
              rw [← hW1]
              clear hW1
              go_wp2_with fail
              go_region
              all_goals
                go_wp2_with fail
                have hnm : ¬ s[k] ∈ (Found.mk ls (addHand f.hands hand) mk).letters.getD k [] := by
                  show ¬ s[k] ∈ ls.getD k []
                  rw [← HL.out]
                  have h := HU.out
                  rw [HYY.out, strOf_list] at h
                  exact h
                have h : WalkI W (W1.setCell ⟨gl, k, none⟩ (.string (strOf (l ++ [s[k]])))) fb gl m ⟨ls.set k (l ++ [s[k]]), addHand f.hands hand, mk⟩ := by
                  rw [HL.out]; exact HJ1.out.letter hkm hnm
                refine ⟨⟨k + 1, by omega, by go_num, Lib.hid ?_, Lib.hid ((HKJ1.out.put HJ1.out.strs (.inr rfl) _).drewN 1)⟩, by simp [intOf]; omega⟩
                rw [HNEW.out, HYY.out, strOf_snoc l s k hks]
                exact h.below (Below.refl _ _).drew
          · obtain rfl : k = s.size := by omega
            go_wp2_with fail
            refine bodyPost_ret (v := .tuple #[]) ?_ ?_ ⟨rfl, by rw [HADD.out]; have h := HJ.out; rw [HSZ.out] at h; exact h, HKJ.out⟩
            · simp [results, Try.results41, go_sem]
            · rfl
    · have HADD := Lib.hid (show f.add L.total H.shapes hand x = ⟨f.letters, f.hands, mk⟩ by unfold Found.add; rw [if_neg hT, HMK.out])
      have hT' : L.total < x.2 := by omega
      clear hbl hT
      go_wp2_with fail
      refine bodyPost_ret (v := .tuple #[]) ?_ ?_ ⟨rfl, by rw [HADD.out]; exact HI2.out, HKT.out⟩
      · simp [results, Try.results41, go_sem]
      · rfl
end Go.Proofs.Ythhajbgddifenaa
