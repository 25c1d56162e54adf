/- Frames: the blocks that lay there are as they were, but one; lines in memory whose blocks meet a condition. · The urn: each of its calls draws some number, and writes the urn alone. · A new urn, of any list of numbers. · A hand that follows from the urn. · How a line that is being made lies in memory, each list in a block of its own. · What LineOf comes to, and what holds while it goes on. · A region that draws its order: loads are taken first although the last stores write what they read, since those stores wait for them. · Within the second loop of LineOf: the squares so far. · The end of a round of LineOf's second loop. · The end of LineOf. -/
import Derived.Test.YtmfjfjahemlhkaaGreatZa
import Derived.Deep.AppendLies
import Derived.Deep.RegionLaw
import Derived.Test.YtmfjfjahemlhkaaGreatZb
import Derived.Deep.RegionHeld3
import Derived.StillTail
import Derived.Laws.BitsAllLaws
import Derived.Laws.BytesArg
namespace Go.Proofs.YtmfjfjahemlhkaaGreat.Sg
section
section
open Go.RowKit Go.Shelf

/-- All blocks that lay there are as they were, but g. -/
def Kg (g : Nat) (w w' : World) : Prop := Keep (fun k => k < w.heap.size ∧ k ≠ g) w w'
section
variable {g : Nat} {a b c w w' : World}
theorem Kg.refl (g : Nat) (w : World) : Kg g w w := Keep.refl _ w
theorem Kg.size (h : Kg g a b) : a.heap.size ≤ b.heap.size := Keep.size h
theorem Kg.heap (h : Kg g a b) {k : Nat} (hk : k < a.heap.size) (hg : k ≠ g) : b.heap[k]? = a.heap[k]? := h.block k ⟨hk, hg⟩
theorem Kg.trans (h : Kg g a b) (k : Kg g b c) : Kg g a c :=
  ⟨k.os.trans h.os, k.tape.trans h.tape, k.output.trans h.output, Nat.le_trans h.size k.size, fun _ hi => (k.heap (Nat.lt_of_lt_of_le hi.1 h.size) hi.2).trans (h.heap hi.1 hi.2)⟩
theorem Kg.of_below (h : Below a.heap.size a b) : Kg g a b := ⟨h.os, h.tape, h.output, h.size, fun k hk => h.block k hk.1⟩
theorem Kg.below {B : Nat} (h : Kg g a b) (hB : B ≤ a.heap.size) (hg : B ≤ g) : Below B a b := ⟨h.os, h.tape, h.output, h.size, fun k hk => h.heap (by omega) (by omega)⟩
theorem Kg.alloc (h : Kg g a b) (o : Obj) : Kg g a (b.alloc o) := h.trans (Kg.of_below ((Below.refl _ _).alloc (Nat.le_refl _) _))
theorem Kg.drewN (h : Kg g a b) (n : Nat) : Kg g a (b.drewN n) := h.trans (Kg.of_below (below_drewN (Below.refl _ _) n))
theorem Kg.drew (h : Kg g a b) : Kg g a b.drew := h.trans (Kg.of_below (Below.refl _ _).drew)
theorem Kg.put (h : Kg g a b) (i : Nat) (u : Value) : Kg g a (b.setCell ⟨g, i, none⟩ u) :=
  h.trans ⟨rfl, rfl, rfl, by simp [World.setCell], fun k hk => Below.heap_setCell _ _ _ _ hk.2⟩
theorem Kg.putNew (h : Kg g a b) {p : Addr} (hp : a.heap.size ≤ p.block) (u : Value) : Kg g a (b.setCell p u) :=
  ⟨h.os, h.tape, h.output, by simp [World.setCell]; exact h.size, fun k hk => (Below.heap_setCell _ _ _ _ (by omega)).trans (h.heap hk.1 hk.2)⟩
theorem Kg.grown {row : Option Nat} (h : Kg g a b) (hg : b.grownBy w' row) (hr : ∀ k, row = some k → a.heap.size ≤ k) : Kg g a w' :=
  ⟨hg.os.trans h.os, hg.tape.trans h.tape, hg.output.trans h.output, Nat.le_trans h.size hg.size, fun k hk => (hg.block k (Nat.lt_of_lt_of_le hk.1 h.size) (fun e => by have := hr k e.symm; omega)).trans (h.heap hk.1 hk.2)⟩
theorem Blok.kg {t : TypeId} {cs : List Value} {k : Nat} (h : Blok a k t cs) (hk : Kg g a b) (hne : k ≠ g) : Blok b k t cs := (hk.heap h.size hne).trans h
end
/-- The urn at block g. -/
def UrnAt (w : World) (g : Nat) : Prop := ∃ x y : Int, Blok w g 71 [.int .u64 x, .int .u64 y]
theorem UrnAt.size {w : World} {g : Nat} (h : UrnAt w g) : g < w.heap.size := by obtain ⟨x, y, h⟩ := h; exact h.size
theorem UrnAt.ne {w : World} {g k : Nat} {t : TypeId} {cs : List Value} (h : UrnAt w g) (hb : Blok w k t cs) (ht : t ≠ 71) : k ≠ g := by
  rintro rfl
  obtain ⟨x, y, h⟩ := h
  have h2 : some (Obj.cells cs.toArray t (0, 0)) = some (Obj.cells [.int .u64 x, .int .u64 y].toArray 71 (0, 0)) := hb.symm.trans h
  injection h2 with h2
  injection h2 with _ h2
  exact ht h2
theorem UrnAt.keep {w w' : World} {g B : Nat} (h : UrnAt w g) (hb : Below B w w') (hg : g < B) : UrnAt w' g := by
  obtain ⟨x, y, h⟩ := h
  exact ⟨x, y, h.below hb hg⟩
theorem UrnAt.alloc {w : World} {g : Nat} (h : UrnAt w g) (o : Obj) : UrnAt (w.alloc o) g := by
  obtain ⟨x, y, h⟩ := h
  exact ⟨x, y, h.alloc o⟩
theorem UrnAt.drewN {w : World} {g : Nat} (h : UrnAt w g) (n : Nat) : UrnAt (w.drewN n) g := h
theorem UrnAt.grown {w w' : World} {g : Nat} {row : Option Nat} (h : UrnAt w g) (hg : w.grownBy w' row) (hr : row ≠ some g) : UrnAt w' g := by
  obtain ⟨x, y, h⟩ := h
  exact ⟨x, y, h.grown hg hr⟩
/-- What a call of the urn comes to: a number, and the urn has gone on. -/
def Drawn (g : Nat) (w : World) (P : Value → Prop) (e : Ending) (w' : World) : Prop := ∃ v, e = .returned v ∧ P v ∧ UrnAt w' g ∧ Kg g w w'
end
section
open Go.RowKit Go.Shelf

/-- The urn's own step. -/
def TurnPost (g : Nat) (w : World) (e : Ending) (w' : World) : Prop := ∃ t : Nat, e = .returned (.int .u64 t) ∧ t < 18446744073709551616 ∧ UrnAt w' g ∧ Kg g w w'
theorem wrap_u64_nat (x : Int) : ∃ t : Nat, IntKind.u64.wrap x = t ∧ t < 18446744073709551616 := by
  refine ⟨(IntKind.u64.wrap x).toNat, ?_, ?_⟩ <;> rw [IntKind.wrap_u64] <;> omega
set_option maxHeartbeats 1000000 in
theorem turn_any (g : Nat) (w : World) (hu : UrnAt w g) : Calls Tryz.prog 24 #[.pointer (some ⟨g, 0, none⟩)] w (TurnPost g w) := by
  obtain ⟨x, y, hb⟩ := hu
  have c0 : w.cell? ⟨g, 0, none⟩ = some (.int .u64 x) := hb.cell 0
  have c1 : w.cell? ⟨g, 1, none⟩ = some (.int .u64 y) := hb.cell 1
  have f0 := hb.free 0
  have f1 := hb.free 1
  have hz := hb.size
  go_enter Tryz.func24, Tryz.ntmps24
  go_wp2
  go_quiet (fail)
  go_wp2
  generalize bits .xor .u64 (bits .xor .u64 (bits .xor .u64 (bits .xor .u64 x (IntKind.u64.wrap (x * 8388608))) y) (bits .xor .u64 x (IntKind.u64.wrap (x * 8388608)) / 131072)) (y / 67108864) = z
  generalize bits .xor .u64 x (IntKind.u64.wrap (x * 8388608)) = x'
  have hk1 : Kg g w (((w.drewN nq).setCell ⟨g, 0, none⟩ (.int .u64 y)).setCell ⟨g, 1, none⟩ (.int .u64 z)) := (((Kg.refl g w).drewN nq).put 0 _).put 1 _
  have hb1 : Blok (((w.drewN nq).setCell ⟨g, 0, none⟩ (.int .u64 y)).setCell ⟨g, 1, none⟩ (.int .u64 z)) g 71 [.int .u64 y, .int .u64 z] := ((hb.drewN nq).put 0 _).put 1 _
  obtain ⟨W, hW⟩ : ∃ W, W = ((w.drewN nq).setCell ⟨g, 0, none⟩ (.int .u64 y)).setCell ⟨g, 1, none⟩ (.int .u64 z) := ⟨_, rfl⟩
  rw [← hW] at hk1 hb1 ⊢
  have HK := Lib.hid hk1
  have HB := Lib.hid hb1
  clear hW c0 c1 f0 f1 hz hk1 hb
  have c0 : W.cell? ⟨g, 0, none⟩ = some (.int .u64 y) := hb1.cell 0
  have c1 : W.cell? ⟨g, 1, none⟩ = some (.int .u64 z) := hb1.cell 1
  have f1 := hb1.free 1
  clear hb1
  by_cases h0 : (bits .or .u64 y z == 0) = true
  · go_quiet (fail)
    have e1 : (((W.drewN nq).setCell ⟨g, 1, none⟩ (.int .u64 1))).cell? ⟨g, 1, none⟩ = some (.int .u64 1) := ((HB.out.drewN _).put 1 _).cell 1
    go_wp2
    obtain ⟨t, ht, hlt⟩ := wrap_u64_nat (1 + y)
    rw [ht]
    go_ret
    exact ⟨t, rfl, hlt, ⟨_, _, (HB.out.drewN _).put 1 _⟩, (HK.out.drewN _).put 1 _⟩
  · have h0' : (bits .or .u64 y z == 0) = false := by simpa using h0
    clear h0
    go_quiet (fail)
    go_wp2
    obtain ⟨t, ht, hlt⟩ := wrap_u64_nat (z + y)
    rw [ht]
    go_ret
    exact ⟨t, rfl, hlt, ⟨_, _, HB.out.drewN _⟩, HK.out.drewN _⟩
theorem up_val (t m : Nat) (hm : m ≤ 9223372036854775807) (h1 : 0 < m) : wrap64 ((t : Int) / 2048 % (m : Int)) = ((t / 2048 % m : Nat) : Int) := by
  have h : t / 2048 % m < m := Nat.mod_lt _ h1
  have e : (t : Int) / 2048 % (m : Int) = ((t / 2048 % m : Nat) : Int) := by simp
  rw [e]
  unfold wrap64
  omega
/-- Up: a number below n, or 0. -/
def UpPost (g : Nat) (n : Int) (w : World) (e : Ending) (w' : World) : Prop := ∃ r : Nat, e = .returned (.int .i64 r) ∧ (r : Int) < max n 1 ∧ UrnAt w' g ∧ Kg g w w'
set_option maxHeartbeats 1000000 in
theorem up_any (g : Nat) (n : Int) (w : World) (hn : n ≤ 9223372036854775807) (hu : UrnAt w g) : Calls Tryz.prog 12 #[.pointer (some ⟨g, 0, none⟩), .int .i64 n] w (UpPost g n w) := by
  by_cases h2 : n < 2
  · have HU := Lib.hid hu
    clear hu
    have hfin : UpPost g n w (.returned (.int .i64 0)) w := ⟨0, rfl, by omega, HU.out, Kg.refl _ _⟩
    have HF := Lib.hid hfin
    clear hfin
    go_enter Tryz.func12, Tryz.ntmps12
    go_wp2
    go_ret
    exact HF.out
  · obtain ⟨m, rfl⟩ := Int.eq_ofNat_of_zero_le (show 0 ≤ n by omega)
    have HU := Lib.hid hu
    clear hu
    go_enter Tryz.func12, Tryz.ntmps12
    go_wp2_with (go_at_call 24; refine (turn_any _ _ HU.out).mono ?_; rintro e w1 ⟨t, rfl, ht, hu1, hk1⟩; have HU1 := Lib.hid hu1; have HK1 := Lib.hid hk1; clear hu1 hk1)
    go_ret
    have hm : t / 2048 % m < m := Nat.mod_lt _ (by omega)
    refine ⟨t / 2048 % m, ret_int (up_val t m (by omega) (by omega)), by omega, HU1.out, HK1.out⟩
/-- From: a number from low to high. -/
def FromPost (g : Nat) (lo hi : Int) (w : World) (e : Ending) (w' : World) : Prop := ∃ r : Int, e = .returned (.int .i64 r) ∧ lo ≤ r ∧ r ≤ max lo hi ∧ UrnAt w' g ∧ Kg g w w'
set_option maxHeartbeats 1000000 in
theorem from_any (g : Nat) (lo hi : Int) (w : World) (h1 : -100000 ≤ lo) (h2 : lo ≤ 100000) (h3 : -100000 ≤ hi) (h4 : hi ≤ 100000) (hu : UrnAt w g) : Calls Tryz.prog 25 #[.pointer (some ⟨g, 0, none⟩), .int .i64 lo, .int .i64 hi] w (FromPost g lo hi w) := by
  have HU := Lib.hid hu
  clear hu
  go_enter Tryz.func25, Tryz.ntmps25
  go_wp2_with (go_at_call 12; refine (up_any _ _ _ (by omega) HU.out).mono ?_; rintro e w1 ⟨r, rfl, hr, hu1, hk1⟩; have HU1 := Lib.hid hu1; have HK1 := Lib.hid hk1; clear hu1 hk1; have hr2 : (r : Int) ≤ 200000 := by omega)
  go_ret
  exact ⟨lo + r, rfl, by omega, by omega, HU1.out, HK1.out⟩
def OddsPost (g : Nat) (w : World) (e : Ending) (w' : World) : Prop := ∃ b : Bool, e = .returned (.bool b) ∧ UrnAt w' g ∧ Kg g w w'
set_option maxHeartbeats 1000000 in
theorem odds_any (g : Nat) (n m : Int) (w : World) (h4 : m ≤ 100000) (hu : UrnAt w g) : Calls Tryz.prog 27 #[.pointer (some ⟨g, 0, none⟩), .int .i64 n, .int .i64 m] w (OddsPost g w) := by
  have HU := Lib.hid hu
  clear hu
  go_enter Tryz.func27, Tryz.ntmps27
  go_wp2_with (go_at_call 12; refine (up_any _ _ _ (by omega) HU.out).mono ?_; rintro e w1 ⟨r, rfl, hr, hu1, hk1⟩; have HU1 := Lib.hid hu1; have HK1 := Lib.hid hk1; clear hu1 hk1)
  go_ret
  exact ⟨_, rfl, HU1.out, HK1.out⟩
def AnyPost (g : Nat) (l : List Int) (w : World) (e : Ending) (w' : World) : Prop := ∃ x : Int, e = .returned (.int .i64 x) ∧ x ∈ l ∧ UrnAt w' g ∧ Kg g w w'
set_option maxHeartbeats 1000000 in
theorem any_any (g b n c : Nat) (t : TypeId) (l : List Int) (w : World) (hn : n = l.length) (h1 : 1 ≤ l.length) (h2 : l.length ≤ 100) (hb : Blok w b t (l.map fun x => Value.int .i64 x)) (hne : b ≠ g) (hu : UrnAt w g) :
    Calls Tryz.prog 28 #[.pointer (some ⟨g, 0, none⟩), .slice (some ⟨b, 0, none⟩) n c] w (AnyPost g l w) := by
  have HU := Lib.hid hu
  have HB := Lib.hid hb
  have HN := Lib.hid hn
  have hn1 : 1 ≤ n := by omega
  have hn2 : n ≤ 100 := by omega
  have h0 : ((n : Int) == 0) = false := by simp; omega
  clear hu hb hn
  go_enter Tryz.func28, Tryz.ntmps28
  go_wp2_with (go_at_call 12; refine (up_any _ _ _ (by omega) HU.out).mono ?_; rintro e w1 ⟨r, rfl, hr, hu1, hk1⟩; have hr1 : r < n := (by omega); have hrl : r < l.length := (by rw [← HN.out]; exact hr1); have hc : w1.cell? ⟨b, r, none⟩ = some (.int .i64 l[r]) := (by rw [(HB.out.kg hk1 hne).cell]; simp [hrl]); have HU1 := Lib.hid hu1; have HK1 := Lib.hid hk1; clear hu1 hk1 hr)
  go_ret
  exact ⟨_, rfl, List.getElem_mem hrl, HU1.out, HK1.out⟩
end
section
open Go.RowKit Go.Shelf

/-- A slice of numbers that came in. -/
def NumRow (w : World) (a : Option Addr) (len : Nat) : Prop := len ≤ maxLen ∧ (0 < len → ∃ x : Addr, a = some x ∧ ∀ i, i < len → ∃ n : Int, w.cell? (x.add i) = some (.int .i64 n))
def NewPost (w : World) (e : Ending) (w' : World) : Prop := e = .returned (.pointer (some ⟨w.heap.size, 0, none⟩)) ∧ UrnAt w' w.heap.size ∧ Below w.heap.size w w'
set_option maxHeartbeats 1000000 in
theorem newUrn_any (a : Option Addr) (len cap : Nat) (w : World) (hr : NumRow w a len) : Calls Tryz.prog 5 #[.slice a len cap] w (NewPost w) := by
  obtain ⟨hm, hr⟩ := hr
  unfold maxLen at hm
  have HR := Lib.hid hr
  clear hr
  go_enter Tryz.func5, Tryz.ntmps5
  go_wp2
  go_loopw [4] (fun i wr => ∃ k : Nat, k ≤ len ∧ i = .int .i64 k ∧ UrnAt wr w.heap.size ∧ Below w.heap.size w wr) (fun i _ => len - (intOf i).toNat)
  case atStart => exact ⟨0, by omega, rfl, ⟨_, _, Blok.new w _ _⟩, (Below.refl _ _).alloc (Nat.le_refl _) _⟩
  case round =>
    obtain ⟨k, hk, rfl, hu, hb⟩ := hrel
    by_cases hlt : k < len
    · obtain ⟨⟨b, o, sp⟩, rfl, hx⟩ := HR.out (by omega)
      obtain ⟨n, hc⟩ := hx k hlt
      have hl := World.block_lt_of_cell? w _ hc
      have hc2 := (hb.cell hl).trans hc
      obtain ⟨p, q, hbl⟩ := hu
      have c1 : wr.cell? ⟨w.heap.size, 1, none⟩ = some (.int .u64 q) := hbl.cell 1
      have f1 := hbl.free 1
      have hz := hbl.size
      have HBL := Lib.hid hbl
      have HB := Lib.hid hb
      clear hx hc hbl hb
      go_wp2
      go_region
      go_wp2_with fail
      refine (turn_any _ _ ?_).mono ?_
      · exact ⟨_, _, HBL.out.put 1 _⟩
      rintro e w1 ⟨t1, rfl, ht1, hu1, hk1⟩
      have HK1 := Lib.hid hk1
      clear ht1 hk1
      go_wp2_with fail
      refine (turn_any _ _ hu1).mono ?_
      rintro e w2 ⟨t2, rfl, ht2, hu2, hk2⟩
      have HK2 := Lib.hid (HK1.out.trans hk2)
      have HU2 := Lib.hid hu2
      clear hu1 ht2 hk2 hu2
      go_wp2
      go_roundw
      case rel => exact ⟨k + 1, by omega, by go_num, HU2.out, (HB.out.setCell (p := ⟨w.heap.size, 1, none⟩) (Nat.le_refl _) _).drew.trans (HK2.out.below (by simp [World.setCell]; omega) (Nat.le_refl _))⟩
      case measure => simp [intOf]; omega
    · obtain rfl : k = len := by omega
      have HU := Lib.hid hu
      have HB := Lib.hid hb
      clear hu hb
      go_wp2
      go_ret
      exact ⟨rfl, HU.out, HB.out⟩
end
end
section
open Go.RowKit Go.Shelf

/-- The cells of some shapes. -/
def shCells (S : List Shape) : List Value := S.flatMap fun x => [.int .u8 x.letter, .int .i64 x.strokes]
theorem shCells_snoc (S : List Shape) (x : Shape) : shCells (S ++ [x]) = shCells S ++ [.int .u8 x.letter, .int .i64 x.strokes] := by simp [shCells]
theorem shCells_get : ∀ (S : List Shape) (k : Nat) (x : Shape), S[k]? = some x → (shCells S)[k * 2]? = some (.int .u8 x.letter) ∧ (shCells S)[k * 2 + 1]? = some (.int .i64 x.strokes) := by
  intro S
  induction S with
  | nil => intro k x h; simp at h
  | cons a S ih =>
    intro k x h
    cases k with
    | zero =>
      obtain rfl : a = x := by simpa using h
      exact ⟨rfl, rfl⟩
    | succ k =>
      have := ih k x (by simpa using h)
      rw [show (k + 1) * 2 = k * 2 + 1 + 1 by omega]
      exact this
theorem shCells_len (S : List Shape) : (shCells S).length = S.length * 2 := by
  induction S with
  | nil => rfl
  | cons a S ih =>
    have e : shCells (a :: S) = [.int .u8 a.letter, .int .i64 a.strokes] ++ shCells S := rfl
    rw [e, List.length_append, ih]
    simp
    omega
/-- A slice of shapes that has a block of its own. -/
def ShapesB (w : World) (sv : Value) (S : List Shape) : Prop := ∃ b c cur, sv = .slice (some ⟨b, 0, none⟩) S.length c ∧ Blok w b 98 cur ∧ cur.take (S.length * 2) = shCells S
theorem ShapesB.of_own {w : World} {base n : Nat} {v : Value} {S : List Shape} (h : w.ownsRow base 98 2 v n (shCells S)) (hn : n = S.length) (h0 : 0 < n) : ShapesB w v S := by
  rcases h.2 with ⟨_, h1⟩ | ⟨g, cap, cur, rfl, hbg, hg, hcap, _, hsz, htake⟩
  · omega
  · refine ⟨g, cap, cur.toList, by rw [hn], by unfold Blok; rw [hg], ?_⟩
    rw [← hn]
    exact htake
theorem ShapesB.kg {w w' : World} {g : Nat} {v : Value} {S : List Shape} (h : ShapesB w v S) (hu : UrnAt w g) (hk : Kg g w w') : ShapesB w' v S := by
  obtain ⟨b, c, cur, e, hb, ht⟩ := h
  exact ⟨b, c, cur, e, hb.kg hk (hu.ne hb (by decide)), ht⟩
theorem ShapesB.below {w w' : World} {v : Value} {S : List Shape} (h : ShapesB w v S) (hk : Below w.heap.size w w') : ShapesB w' v S := by
  obtain ⟨b, c, cur, e, hb, ht⟩ := h
  exact ⟨b, c, cur, e, hb.below hk hb.size, ht⟩
/-- A value whose block, if it has one, is B or above. -/
def NewB (B : Nat) (v : Value) : Prop := ∀ b, v.ownBlock = some b → B ≤ b
theorem NewB.mono {B B' : Nat} {v : Value} (h : NewB B v) (hB : B' ≤ B) : NewB B' v := fun b hb => Nat.le_trans hB (h b hb)
theorem NewB.of_own {w : World} {base n size : Nat} {e : TypeId} {v : Value} {xs : List Value} (h : w.ownsRow base e size v n xs) {B : Nat} (hB : B ≤ base) : NewB B v := fun b hb => Nat.le_trans hB (h.lt b hb).1
/-- As ShapesB, the block being B or above. -/
def ShapesN (B : Nat) (w : World) (sv : Value) (S : List Shape) : Prop := ShapesB w sv S ∧ NewB B sv
theorem ShapesN.mono {B B' : Nat} {w : World} {sv : Value} {S : List Shape} (h : ShapesN B w sv S) (hB : B' ≤ B) : ShapesN B' w sv S := ⟨h.1, h.2.mono hB⟩
theorem ShapesN.kg {B : Nat} {w w' : World} {g : Nat} {v : Value} {S : List Shape} (h : ShapesN B w v S) (hu : UrnAt w g) (hk : Kg g w w') : ShapesN B w' v S := ⟨h.1.kg hu hk, h.2⟩
theorem ShapesN.below {B : Nat} {w w' : World} {v : Value} {S : List Shape} (h : ShapesN B w v S) (hk : Below w.heap.size w w') : ShapesN B w' v S := ⟨h.1.below hk, h.2⟩
theorem ShapesB.shapes {w : World} {v : Value} {S : List Shape} (h : ShapesB w v S) : Shapes w w.heap.size v S := by
  obtain ⟨b, c, cur, rfl, hb, ht⟩ := h
  refine ⟨_, _, rfl, fun _ => ⟨b, 0, rfl, hb.size, fun k x hx => ?_⟩⟩
  have hk := (List.getElem?_eq_some_iff.1 hx).1
  obtain ⟨h1, h2⟩ := shCells_get S k x hx
  rw [← ht] at h1 h2
  rw [List.getElem?_take, if_pos (by omega)] at h1 h2
  rw [Nat.zero_add, hb.cell, hb.cell]
  exact ⟨h1, h2⟩
theorem own_kg {w w' : World} {g base size n : Nat} {e : TypeId} {v : Value} {xs : List Value} (h : w.ownsRow base e size v n xs) (hu : UrnAt w g) (he : e ≠ 71) (hk : Kg g w w') : w'.ownsRow base e size v n xs := by
  obtain ⟨h1, h2⟩ := h
  refine ⟨h1, ?_⟩
  rcases h2 with h2 | ⟨r, cap, cur, e1, e2, e3, e4⟩
  · exact .inl h2
  · have hb : Blok w r e cur.toList := by unfold Blok; rw [e3]
    exact .inr ⟨r, cap, cur, e1, e2, (hk.heap hb.size (hu.ne hb he)).trans e3, e4⟩
/-- What HandOf comes to. -/
def HandPost (g m : Nat) (w : World) (e : Ending) (w' : World) : Prop :=
  ∃ (h : Hand) (sv : Value), e = .returned (.agg #[.int .i64 h.low, .int .i64 h.high, sv]) ∧ h.ok ∧ (∀ s ∈ h.shapes, s.strokes < 32) ∧ h.shapes.length ≤ m ∧ ShapesN w.heap.size w' sv h.shapes ∧ UrnAt w' g ∧ Kg g w w'
/-- Within HandOf's loop. -/
def HandI (g m : Nat) (w0 : World) (rb hb base : Nat) (low high : Int) (fr i : Nat) (wr : World) : Prop :=
  ∃ (S : List Shape) (v : Value), Blok wr hb 59 [.int .i64 low, .int .i64 high, v] ∧ Blok wr rb 59 [.int .i64 0, .int .i64 0, .slice none 0 0] ∧ UrnAt wr g ∧ Kg g w0 wr ∧
    wr.ownsRow base 98 2 v S.length (shCells S) ∧ (∀ s ∈ S, s.ok ∧ s.strokes < 32 ∧ s.letter < 65 + fr) ∧ S.Pairwise (fun a b => a.letter < b.letter) ∧ fr ≤ 26 ∧ S.length + i ≤ m ∧ (S = [] → fr = 0 ∧ 0 < i) ∧ base ≤ wr.heap.size
theorem own_slice {w : World} {base n size : Nat} {e : TypeId} {v : Value} {xs : List Value} (h : w.ownsRow base e size v n xs) : ∃ A c, v = .slice A n c := by
  rcases h.2 with ⟨rfl, h0⟩ | ⟨g, cap, cur, rfl, _⟩
  · exact ⟨none, 0, by rw [h0]⟩
  · exact ⟨_, _, rfl⟩
theorem own_far {w : World} {base n size : Nat} {e : TypeId} {v : Value} {xs : List Value} (h : w.ownsRow base e size v n xs) {p : Addr} (hp : v.ownBlock ≠ some p.block) (u : Value) : (w.setCell p u).ownsRow base e size v n xs := by
  obtain ⟨h1, h2⟩ := h
  refine ⟨h1, ?_⟩
  rcases h2 with h2 | ⟨r, cap, cur, e1, e2, e3, e4⟩
  · exact .inl h2
  · subst e1
    refine .inr ⟨r, cap, cur, rfl, e2, (Below.heap_setCell w p u r ?_).trans e3, e4⟩
    rintro rfl
    exact hp rfl
theorem UrnAt.far {w : World} {g : Nat} (h : UrnAt w g) {p : Addr} (hp : g ≠ p.block) (u : Value) : UrnAt (w.setCell p u) g := by
  obtain ⟨x, y, h⟩ := h
  exact ⟨x, y, h.far hp u⟩
theorem UrnAt.own_ne {w : World} {g base size n : Nat} {e : TypeId} {v : Value} {xs : List Value} (h : UrnAt w g) (ho : w.ownsRow base e size v n xs) (he : e ≠ 71) : v.ownBlock ≠ some g := by
  obtain ⟨x, y, h⟩ := h
  exact Go.Proofs.YtmfjfjahemlhkaaGreat.Sg.own_ne ho h he
theorem HandI.step {g m : Nat} {w0 w5 w7 : World} {rb hb base : Nat} {low high : Int} {fr q k st gg cap : Nat} {S : List Shape} {v : Value} {o : Obj}
    (B2 : Blok w5 rb 59 [.int .i64 0, .int .i64 0, .slice none 0 0]) (B7 : Blok w7 hb 59 [.int .i64 low, .int .i64 high, v]) (hu : UrnAt w5 g) (hk : Kg g w0 w5) (hg : (w5.alloc o).grownBy w7 v.ownBlock)
    (ho : w5.ownsRow base 98 2 v S.length (shCells S))
    (h7 : w7.ownsRow base 98 2 (.slice (some ⟨gg, 0, none⟩) (S.length + 1) cap) (S.length + 1) (shCells S ++ [.int .u8 (65 + ((fr : Int) + (q : Int))), .int .i64 st]))
    (hS : ∀ s ∈ S, s.ok ∧ s.strokes < 32 ∧ s.letter < 65 + fr) (hP : S.Pairwise (fun a b => a.letter < b.letter)) (hlen : S.length + k ≤ m) (hb5 : base ≤ w5.heap.size) (h0 : w0.heap.size ≤ base)
    (hq : fr + q < 26) (s1 : 1 ≤ st) (s2 : st ≤ 31) (hk0 : 0 < k) (hne : rb ≠ hb) (hw0 : w0.heap.size ≤ hb) :
    HandI g m w0 rb hb base low high (fr + q + 1) (k - 1) (w7.setCell ⟨hb, 2, none⟩ (.slice (some ⟨gg, 0, none⟩) (S.length + 1) cap)) := by
  have hu5 := hu.alloc o
  have ho5 := ho.alloc o
  have hu7 := hu5.grown hg (hu5.own_ne ho5 (by decide))
  have hgu : g ≠ hb := (hu7.ne B7 (by decide)).symm
  refine ⟨S ++ [⟨65 + fr + q, st⟩], .slice (some ⟨gg, 0, none⟩) (S.length + 1) cap, B7.put 2 _, ((B2.alloc o).grown hg (Go.Proofs.YtmfjfjahemlhkaaGreat.Sg.own_ne ho5 (B2.alloc o) (by decide))).far hne _, hu7.far hgu _,
    ((hk.alloc o).grown hg fun j e => Nat.le_trans h0 (ho5.lt j e).1).putNew hw0 _, ?_, ?_, ?_, by omega, ?_, fun e => ?_, ?_⟩
  · have := own_far h7 (p := ⟨hb, 2, none⟩) (Go.Proofs.YtmfjfjahemlhkaaGreat.Sg.own_ne h7 B7 (by decide)) (.slice (some ⟨gg, 0, none⟩) (S.length + 1) cap)
    rw [shCells_snoc, List.length_append]
    have e : ((65 + fr + q : Nat) : Int) = 65 + ((fr : Int) + (q : Int)) := by omega
    simp only [e]
    exact this
  · intro s hs
    rcases List.mem_append.1 hs with hs | hs
    · obtain ⟨a, b, c⟩ := hS s hs
      exact ⟨a, b, by omega⟩
    · obtain rfl : s = ⟨65 + fr + q, st⟩ := by simpa using hs
      exact ⟨⟨by simp; omega, by simp; omega, s1, by simp; omega⟩, by simp; omega, by simp; omega⟩
  · refine List.pairwise_append.2 ⟨hP, by simp, fun a ha b hb => ?_⟩
    obtain rfl : b = ⟨65 + fr + q, st⟩ := by simpa using hb
    have := (hS a ha).2.2
    show a.letter < 65 + fr + q
    omega
  · rw [List.length_append]; simp; omega
  · simp at e
  · have := hg.size
    simp [World.setCell] at this ⊢
    omega
theorem info_shape : (Tryz.prog.info? 98).map (fun i => (i.zero, i.size, i.bytes)) = some (some (.agg #[.int .u8 0, .int .i64 0]), 2, 16) := by kernel_rfl
theorem HandI.done {g m : Nat} {w wr : World} {rb base fr k cA r : Nat} {low : Int} {S : List Shape} {A : Option Addr}
    (B2 : Blok wr rb 59 [.int .i64 0, .int .i64 0, .slice none 0 0]) (hu : UrnAt wr g) (hk : Kg g w wr) (ho : wr.ownsRow base 98 2 (.slice A S.length cA) S.length (shCells S))
    (hS : ∀ s ∈ S, s.ok ∧ s.strokes < 32 ∧ s.letter < 65 + fr) (hP : S.Pairwise (fun a b => a.letter < b.letter)) (hlen : S.length + k ≤ m) (hne : S ≠ []) (h8 : m ≤ 8) (l1 : -600 ≤ low) (l2 : low ≤ 300) (r1 : r < 200) (hw : w.heap.size ≤ rb) (hb0 : w.heap.size ≤ base) :
    Blok (((wr.setCell ⟨rb, 0, none⟩ (.int .i64 low)).setCell ⟨rb, 1, none⟩ (.int .i64 (low + r))).setCell ⟨rb, 2, none⟩ (.slice A S.length cA)) rb 59 [.int .i64 low, .int .i64 (low + r), .slice A S.length cA] ∧
    HandPost g m w (.returned (.agg #[.int .i64 low, .int .i64 (low + r), .slice A S.length cA])) (((wr.setCell ⟨rb, 0, none⟩ (.int .i64 low)).setCell ⟨rb, 1, none⟩ (.int .i64 (low + r))).setCell ⟨rb, 2, none⟩ (.slice A S.length cA)) := by
  have hgr : g ≠ rb := (hu.ne B2 (by decide)).symm
  have hor : (Value.slice A S.length cA).ownBlock ≠ some rb := Go.Proofs.YtmfjfjahemlhkaaGreat.Sg.own_ne ho B2 (by decide)
  have h1 : 0 < S.length := List.length_pos_iff.2 hne
  refine ⟨((B2.put 0 _).put 1 _).put 2 _, ⟨low, low + r, S⟩, _, rfl, ⟨by simp; omega, by show low ≤ low + (r : Int); omega, by simp; omega, h1, by simp; omega, fun s hs => (hS s hs).1, hP⟩, fun s hs => (hS s hs).2.1, by simp; omega, ?_, ((hu.far hgr _).far hgr _).far hgr _, ((hk.putNew hw _).putNew hw _).putNew hw _⟩
  exact ⟨ShapesB.of_own (own_far (own_far (own_far ho hor _) hor _) hor _) rfl h1, NewB.of_own ho hb0⟩
set_option maxRecDepth 100000 in
set_option maxHeartbeats 2000000 in
theorem handOf_any (g m : Nat) (w : World) (h1 : 1 ≤ m) (h8 : m ≤ 8) (hu : UrnAt w g) : Calls Tryz.prog 49 #[.pointer (some ⟨g, 0, none⟩), .int .i64 m] w (HandPost g m w) := by
  have HU := Lib.hid hu
  clear hu
  go_enter Tryz.func49, Tryz.ntmps49
  go_wp2_with fail
  refine (from_any _ _ _ _ (by omega) (by omega) (by omega) (by omega) (HU.out.alloc _)).mono ?_
  rintro e w1 ⟨low, rfl, l1, l2, hu1, hk1⟩
  have HU1 := Lib.hid hu1
  have HK1 := Lib.hid hk1
  clear hu1 hk1
  go_wp2_with fail
  refine (up_any _ _ _ (by omega) HU1.out).mono ?_
  rintro e w2 ⟨r, rfl, r1, hu2, hk2⟩
  have HU2 := Lib.hid hu2
  have HK2 := Lib.hid (HK1.out.trans hk2)
  have r2 : (r : Int) < 200 := by omega
  clear hu2 hk2 r1 HU1 HK1
  go_wp2_with fail
  refine (from_any _ _ _ _ (by omega) (by omega) (by omega) (by omega) (HU2.out.alloc _)).mono ?_
  rintro e w3 ⟨n, rfl, n1, n2, hu3, hk3⟩
  have HU3 := Lib.hid hu3
  have HK3 := Lib.hid hk3
  clear hu3 hk3
  obtain ⟨n, rfl⟩ := Int.eq_ofNat_of_zero_le (show 0 ≤ n by omega)
  obtain ⟨i0, hi, hz0, hz1, hz2⟩ := info_parts info_shape
  have hs2 : w.heap.size < w2.heap.size := by have := HK2.out.size; simp at this; omega
  have hs3 : w2.heap.size < w3.heap.size := by have := HK3.out.size; simp at this; omega
  have hst : HandI g m (w.alloc (.cells #[.int .i64 0, .int .i64 0, .slice none 0 0] 59)) w.heap.size w2.heap.size (w2.heap.size + 1) low (low + r) 0 n w3 := by
    have b1 : Blok w2 w.heap.size 59 [.int .i64 0, .int .i64 0, .slice none 0 0] := (Blok.new w _ _).kg HK2.out (by have := HU.out.size; omega)
    have b2 := Blok.new w2 59 [.int .i64 low, .int .i64 (low + r), .slice none 0 0]
    have u2 := HU2.out.alloc (.cells #[.int .i64 low, .int .i64 (low + r), .slice none 0 0] 59)
    refine ⟨[], .slice none 0 0, b2.kg HK3.out (u2.ne b2 (by decide)), (b1.alloc _).kg HK3.out (u2.ne (b1.alloc _) (by decide)), HU3.out, (HK2.out.alloc _).trans HK3.out, World.ownsRow_nil _ _ _ _, by simp, List.Pairwise.nil, by omega, ?_, fun _ => ⟨rfl, by omega⟩, by omega⟩
    simp; omega
  have HST := Lib.hid hst
  clear hst HK2 HK3 HU2 HU3
  go_wp2
  go_loopw [7, 8] (fun f i wr => ∃ fr k : Nat, f = .int .i64 fr ∧ i = .int .i64 k ∧ HandI g m (w.alloc (.cells #[.int .i64 0, .int .i64 0, .slice none 0 0] 59)) w.heap.size w2.heap.size (w2.heap.size + 1) low (low + r) fr k wr) (fun _ i _ => (intOf i).toNat)
  case atStart => exact ⟨0, n, rfl, rfl, HST.out⟩
  case round =>
    clear HST
    obtain ⟨fr, k, rfl, rfl, S, v, b1, b2, hu, hk, hown, hS, hP, f26, hlen, hne, hbase⟩ := hrel
    have B1 := Lib.hid b1
    have B2 := Lib.hid b2
    have HU := Lib.hid hu
    have HK := Lib.hid hk
    have HO := Lib.hid hown
    have HS := Lib.hid hS
    have HP := Lib.hid hP
    have HN := Lib.hid hne
    clear b1 b2 hu hk hown hS hP hne
    obtain ⟨A, cA, rfl⟩ := own_slice HO.out
    by_cases hgo : 0 < k ∧ fr < 26
    · obtain ⟨g1, g2⟩ := hgo
      go_wp2_with fail
      all_goals
        refine (up_any _ _ _ (by omega) HU.out).mono ?_
        rintro e w4 ⟨q, rfl, q1, hu4, hk4⟩
        have q2 : fr + q < 26 := by omega
        have HB1 := Lib.hid (B1.out.kg hk4 (HU.out.ne B1.out (by decide)))
        have HB2 := Lib.hid (B2.out.kg hk4 (HU.out.ne B2.out (by decide)))
        have HO4 := Lib.hid (own_kg HO.out HU.out (by decide) hk4)
        have HK4 := Lib.hid (HK.out.trans hk4)
        have HU4 := Lib.hid hu4
        have hs4 := hk4.size
        have c1 : w4.cell? ⟨w2.heap.size, 2, none⟩ = some (.slice A S.length cA) := HB1.out.cell 2
        have hl1 := HB1.out.size
        clear hu4 hk4 q1
        go_wp2_with fail
        have e1 : IntKind.i64.wrap (65 + ((fr : Int) + (q : Int))) = 65 + ((fr : Int) + (q : Int)) := IntWalk.i64_in _ (by omega)
        have e2 : IntKind.u8.wrap (65 + ((fr : Int) + (q : Int))) = 65 + ((fr : Int) + (q : Int)) := IntWalk.u8_in _ (by omega)
        go_region_law (first
            | (refine step_append_lies _ (by rfl) _ _ _ (by rfl) (w2.heap.size + 1) 98 i0 _ 2 16 Tryz.underlying57 hi hz0 hz1 hz2 rfl (by omega) (.slice A S.length cA) S.length (shCells S) (by rfl) (HO5.out.alloc _) ⟨w5.heap.size, 0, none⟩ 1 1 [.int .u8 (65 + ((fr : Int) + (q : Int))), .int .i64 st] (by rfl) (by rfl) (World.news_of_block (cs := #[.int .u8 (65 + ((fr : Int) + (q : Int))), .int .i64 st]) (t := 98) (fr := (0, 0)) (heap_alloc_new w5 _)) (by simp [Value.oneCell']) (by omega) (by unfold maxLen; omega) (by omega) (by simp; omega) _ rfl ?_; intro gg cap w7 hown7 hgrow hat hlt; have hb7 := (HB5.out.alloc _).grown hgrow (own_ne HO5.out HB5.out (by decide)); have c7 : w7.cell? ⟨w2.heap.size, 2, none⟩ = some (.slice A S.length cA) := hb7.cell 2; have f7 := hb7.free 2; have z7 := hb7.size; have HB7 := Lib.hid hb7; have HO7 := Lib.hid hown7; have HG7 := Lib.hid hgrow; clear hb7 hown7 hgrow)
            | (go_simp; go_at_call 25; refine (from_any _ _ _ _ (by omega) (by omega) (by omega) (by omega) (by exact HU4.out)).mono ?_; rintro e w5 ⟨st, rfl, s1, s2, hu5, hk5⟩; obtain ⟨st, rfl⟩ := Int.eq_ofNat_of_zero_le (show 0 ≤ st by omega); have HB5 := Lib.hid (Blok.kg (a := World.drew w4) HB1.out hk5 (HU4.out.ne HB1.out (by decide))); have HO5 := Lib.hid (own_kg (w := World.drew w4) HO4.out (show UrnAt (World.drew w4) g from HU4.out) (by decide) hk5); have hz5 := HB5.out.size; have hz6 : w2.heap.size + 1 ≤ w5.heap.size := hz5; have c5 : w5.cell? ⟨w2.heap.size, 2, none⟩ = some (.slice A S.length cA) := HB5.out.cell 2; have HU5 := Lib.hid hu5; have HK5 := Lib.hid hk5; clear hu5 hk5))
        clear e1 e2
      all_goals
        go_wp2
        go_roundw
        case rel => exact ⟨fr + q + 1, k - 1, by go_num, by go_num, HandI.step (Blok.kg (a := World.drew w4) HB2.out HK5.out (HU4.out.ne HB2.out (by decide))) HB7.out HU5.out (HK4.out.drew.trans HK5.out) HG7.out HO5.out HO7.out HS.out HP.out hlen (by omega) (by simp; omega) q2 (by omega) (by omega) g1 (by omega) (by simp; omega)⟩
        case measure => simp [intOf]; omega
    · have hSne : S ≠ [] := fun e => by
        have := HN.out e
        exact hgo ⟨this.2, by omega⟩
      have HD := Lib.hid (HandI.done B2.out HU.out (((Kg.refl g w).alloc _).trans HK.out) HO.out HS.out HP.out hlen hSne h8 l1 (by omega) (show r < 200 by omega) (Nat.le_refl _) (by omega))
      have l0 := B1.out.cell 0
      have l1 := B1.out.cell 1
      have l2 := B1.out.cell 2
      have r0 := B2.out.cell 0
      have r1 := B2.out.cell 1
      have r2 := B2.out.cell 2
      have f0 := B2.out.free 0
      have f1 := B2.out.free 1
      have f2 := B2.out.free 2
      simp at l0 l1 l2 r0 r1 r2
      clear hSne
      by_cases hk0 : 0 < k
      · have h26 : ¬ fr < 26 := fun h => hgo ⟨hk0, h⟩
        clear hgo
        go_wp2
        refine bodyPost_ret (v := .agg #[.int .i64 low, .int .i64 (low + r), .slice A S.length cA]) ?_ ?_ HD.out.2
        · exact results_cell_row Tryz.results49 _ _ w.heap.size 59 _ (0, 0) _ rfl HD.out.1 Tryz.underlying59 rfl (by kernel_rfl)
        · rfl
      · clear hgo
        go_wp2
        refine bodyPost_ret (v := .agg #[.int .i64 low, .int .i64 (low + r), .slice A S.length cA]) ?_ ?_ HD.out.2
        · exact results_cell_row Tryz.results49 _ _ w.heap.size 59 _ (0, 0) _ rfl HD.out.1 Tryz.underlying59 rfl (by kernel_rfl)
        · rfl
end
section
section
open Go.RowKit Go.Shelf

/-- The cells of some hands, whose shapes lie at svs. -/
def hdCells : List Hand → List Value → List Value
  | h :: hs, sv :: svs => .int .i64 h.low :: .int .i64 h.high :: sv :: hdCells hs svs
  | _, _ => []
theorem hdCells_snoc : ∀ (hs : List Hand) (svs : List Value) (h : Hand) (sv : Value), svs.length = hs.length → hdCells (hs ++ [h]) (svs ++ [sv]) = hdCells hs svs ++ [.int .i64 h.low, .int .i64 h.high, sv] := by
  intro hs
  induction hs with
  | nil => intro svs h sv e; cases svs with
    | nil => rfl
    | cons _ _ => cases e
  | cons a hs ih => intro svs h sv e; cases svs with
    | nil => cases e
    | cons b svs => simp [hdCells, ih svs h sv (by simpa using e)]
theorem hdCells_get : ∀ (hs : List Hand) (svs : List Value) (k : Nat) (h : Hand) (sv : Value), hs[k]? = some h → svs[k]? = some sv →
    (hdCells hs svs)[k * 3]? = some (.int .i64 h.low) ∧ (hdCells hs svs)[k * 3 + 1]? = some (.int .i64 h.high) ∧ (hdCells hs svs)[k * 3 + 2]? = some sv := by
  intro hs
  induction hs with
  | nil => intro svs k h sv e; simp at e
  | cons a hs ih =>
    intro svs k h sv e1 e2
    cases svs with
    | nil => simp at e2
    | cons b svs =>
      cases k with
      | zero =>
        obtain rfl : a = h := by simpa using e1
        obtain rfl : b = sv := by simpa using e2
        exact ⟨rfl, rfl, rfl⟩
      | succ k =>
        have := ih svs k h sv (by simpa using e1) (by simpa using e2)
        rw [show (k + 1) * 3 = k * 3 + 1 + 1 + 1 by omega]
        exact this
theorem hdCells_len : ∀ (hs : List Hand) (svs : List Value), svs.length = hs.length → (hdCells hs svs).length = hs.length * 3 := by
  intro hs
  induction hs with
  | nil => intro svs _; rfl
  | cons a hs ih => intro svs e; cases svs with
    | nil => cases e
    | cons b svs => simp only [hdCells, List.length_cons, ih svs (by simpa using e)]; omega
/-- The shapes of each hand. -/
def HdShapes (w : World) (hs : List Hand) (svs : List Value) : Prop := svs.length = hs.length ∧ ∀ (k : Nat) (h : Hand) (sv : Value), hs[k]? = some h → svs[k]? = some sv → ShapesB w sv h.shapes
theorem HdShapes.kg {w w' : World} {g : Nat} {hs : List Hand} {svs : List Value} (h : HdShapes w hs svs) (hu : UrnAt w g) (hk : Kg g w w') : HdShapes w' hs svs := ⟨h.1, fun k a b h1 h2 => (h.2 k a b h1 h2).kg hu hk⟩
theorem HdShapes.below {w w' : World} {hs : List Hand} {svs : List Value} (h : HdShapes w hs svs) (hk : Below w.heap.size w w') : HdShapes w' hs svs := ⟨h.1, fun k a b h1 h2 => (h.2 k a b h1 h2).below hk⟩
theorem ShapesB.grown {w w' : World} {row : Option Nat} {v : Value} {S : List Shape} (h : ShapesB w v S) (hg : w.grownBy w' row) (hr : ∀ (b : Nat) (cs : List Value), Blok w b 98 cs → row ≠ some b) : ShapesB w' v S := by
  obtain ⟨b, c, cur, e, hb, ht⟩ := h
  exact ⟨b, c, cur, e, hb.grown hg (hr b cur hb), ht⟩
theorem ShapesB.far {w : World} {v : Value} {S : List Shape} (h : ShapesB w v S) {p : Addr} {t : TypeId} {cs : List Value} (hb' : Blok w p.block t cs) (ht' : t ≠ 98) (u : Value) : ShapesB (w.setCell p u) v S := by
  obtain ⟨b, c, cur, e, hb, ht⟩ := h
  refine ⟨b, c, cur, e, hb.far ?_ u, ht⟩
  rintro rfl
  have h2 := hb'.symm.trans hb
  injection h2 with h2
  injection h2 with _ h2
  exact ht' h2
theorem blok_ne {w : World} {a b : Nat} {t u : TypeId} {cs ds : List Value} (h : Blok w a t cs) (k : Blok w b u ds) (hne : t ≠ u) : a ≠ b := by
  rintro rfl
  have h2 := h.symm.trans k
  injection h2 with h2
  injection h2 with _ h2
  exact hne h2
/-- A slice of hands that has a block of its own. -/
def HandsB (w : World) (v : Value) (hs : List Hand) : Prop := ∃ b c cur svs, v = .slice (some ⟨b, 0, none⟩) hs.length c ∧ Blok w b 59 cur ∧ cur.take (hs.length * 3) = hdCells hs svs ∧ HdShapes w hs svs
theorem HandsB.of_own {w : World} {base n : Nat} {v : Value} {hs : List Hand} {svs : List Value} (h : w.ownsRow base 59 3 v n (hdCells hs svs)) (hn : n = hs.length) (h0 : 0 < n) (hS : HdShapes w hs svs) : HandsB w v hs := by
  rcases h.2 with ⟨_, h1⟩ | ⟨g, cap, cur, rfl, hbg, hg, hcap, _, hsz, htake⟩
  · omega
  · refine ⟨g, cap, cur.toList, svs, by rw [hn], by unfold Blok; rw [hg], ?_, hS⟩
    rw [← hn]
    exact htake
theorem HandsB.kg {w w' : World} {g : Nat} {v : Value} {hs : List Hand} (h : HandsB w v hs) (hu : UrnAt w g) (hk : Kg g w w') : HandsB w' v hs := by
  obtain ⟨b, c, cur, svs, e, hb, ht, hS⟩ := h
  exact ⟨b, c, cur, svs, e, hb.kg hk (hu.ne hb (by decide)), ht, hS.kg hu hk⟩
theorem HandsB.below {w w' : World} {v : Value} {hs : List Hand} (h : HandsB w v hs) (hk : Below w.heap.size w w') : HandsB w' v hs := by
  obtain ⟨b, c, cur, svs, e, hb, ht, hS⟩ := h
  exact ⟨b, c, cur, svs, e, hb.below hk hb.size, ht, hS.below hk⟩
theorem HandsB.grown {w w' : World} {row : Option Nat} {v : Value} {hs : List Hand} (h : HandsB w v hs) (hg : w.grownBy w' row) (hr : ∀ (b : Nat) (t : TypeId) (cs : List Value), Blok w b t cs → t = 98 ∨ t = 59 → row ≠ some b) : HandsB w' v hs := by
  obtain ⟨b, c, cur, svs, e, hb, ht, hS⟩ := h
  exact ⟨b, c, cur, svs, e, hb.grown hg (hr b _ cur hb (.inr rfl)), ht, hS.1, fun k a sv h1 h2 => (hS.2 k a sv h1 h2).grown hg fun b' cs' hb' => hr b' _ cs' hb' (.inl rfl)⟩
theorem HandsB.far {w : World} {v : Value} {hs : List Hand} (h : HandsB w v hs) {p : Addr} {t : TypeId} {cs : List Value} (hb' : Blok w p.block t cs) (h1 : t ≠ 98) (h2 : t ≠ 59) (u : Value) : HandsB (w.setCell p u) v hs := by
  obtain ⟨b, c, cur, svs, e, hb, ht, hS⟩ := h
  exact ⟨b, c, cur, svs, e, hb.far (blok_ne hb hb' (fun e => h2 e.symm)) u, ht, hS.1, fun k a sv g1 g2 => (hS.2 k a sv g1 g2).far hb' h1 u⟩
theorem HandsB.at_ {w : World} {v : Value} {hs : List Hand} (h : HandsB w v hs) : ∃ b c, v = .slice (some ⟨b, 0, none⟩) hs.length c ∧ ∀ (k : Nat) (a : Hand), hs[k]? = some a → ∃ sv, ShapesB w sv a.shapes ∧ w.cell? ⟨b, k * 3, none⟩ = some (.int .i64 a.low) ∧ w.cell? ⟨b, k * 3 + 1, none⟩ = some (.int .i64 a.high) ∧ w.cell? ⟨b, k * 3 + 2, none⟩ = some sv := by
  obtain ⟨b, c, cur, svs, e, hb, ht, hS⟩ := h
  refine ⟨b, c, e, fun k a ha => ?_⟩
  have hk := (List.getElem?_eq_some_iff.1 ha).1
  obtain ⟨sv, hsv⟩ : ∃ sv, svs[k]? = some sv := ⟨_, List.getElem?_eq_getElem (by rw [hS.1]; exact hk)⟩
  obtain ⟨h1, h2, h3⟩ := hdCells_get hs svs k a sv ha hsv
  rw [← ht, List.getElem?_take, if_pos (by omega)] at h1 h2 h3
  exact ⟨sv, hS.2 k a sv ha hsv, by rw [hb.cell, h1], by rw [hb.cell, h2], by rw [hb.cell, h3]⟩
theorem HandsB.hands {w : World} {v : Value} {hs : List Hand} (h : HandsB w v hs) : Hands w w.heap.size v hs := by
  obtain ⟨b, c, rfl, hk⟩ := h.at_
  refine ⟨_, _, rfl, fun h0 => ⟨b, 0, rfl, ?_, fun k x hx => ?_⟩⟩
  · obtain ⟨a, ha⟩ : ∃ a, hs[0]? = some a := ⟨_, List.getElem?_eq_getElem h0⟩
    obtain ⟨sv, _, hc, _⟩ := hk 0 a ha
    exact World.block_lt_of_cell? w _ hc
  · obtain ⟨sv, h1, h2, h3, h4⟩ := hk k x hx
    rw [Nat.zero_add]
    exact ⟨h2, h3, sv, h4, h1.shapes⟩

/-- As HdShapes and HandsB, the shapes' blocks being B or above. -/
def HdN (B : Nat) (w : World) (hs : List Hand) (svs : List Value) : Prop := HdShapes w hs svs ∧ ∀ sv ∈ svs, NewB B sv
theorem HdN.kg {B : Nat} {w w' : World} {g : Nat} {hs : List Hand} {svs : List Value} (h : HdN B w hs svs) (hu : UrnAt w g) (hk : Kg g w w') : HdN B w' hs svs := ⟨h.1.kg hu hk, h.2⟩
def HandsN (B : Nat) (w : World) (v : Value) (hs : List Hand) : Prop := ∃ b c cur svs, v = .slice (some ⟨b, 0, none⟩) hs.length c ∧ Blok w b 59 cur ∧ cur.take (hs.length * 3) = hdCells hs svs ∧ HdN B w hs svs ∧ B ≤ b
theorem HandsN.toB {B : Nat} {w : World} {v : Value} {hs : List Hand} (h : HandsN B w v hs) : HandsB w v hs := by
  obtain ⟨b, c, cur, svs, e, hb, ht, hS⟩ := h
  exact ⟨b, c, cur, svs, e, hb, ht, hS.1.1⟩
theorem HandsN.of_own {B : Nat} {w : World} {base n : Nat} {v : Value} {hs : List Hand} {svs : List Value} (h : w.ownsRow base 59 3 v n (hdCells hs svs)) (hn : n = hs.length) (h0 : 0 < n) (hS : HdN B w hs svs) (hB : B ≤ base) : HandsN B w v hs := by
  rcases h.2 with ⟨_, h1⟩ | ⟨g, cap, cur, rfl, hbg, hg, hcap, _, hsz, htake⟩
  · omega
  · refine ⟨g, cap, cur.toList, svs, by rw [hn], by unfold Blok; rw [hg], ?_, hS, Nat.le_trans hB hbg⟩
    rw [← hn]
    exact htake
theorem HandsN.kg {B : Nat} {w w' : World} {g : Nat} {v : Value} {hs : List Hand} (h : HandsN B w v hs) (hu : UrnAt w g) (hk : Kg g w w') : HandsN B w' v hs := by
  obtain ⟨b, c, cur, svs, e, hb, ht, hS⟩ := h
  exact ⟨b, c, cur, svs, e, hb.kg hk (hu.ne hb (by decide)), ht, hS.1.kg hu hk, hS.2⟩
theorem HandsN.below {B : Nat} {w w' : World} {v : Value} {hs : List Hand} (h : HandsN B w v hs) (hk : Below w.heap.size w w') : HandsN B w' v hs := by
  obtain ⟨b, c, cur, svs, e, hb, ht, hS⟩ := h
  exact ⟨b, c, cur, svs, e, hb.below hk hb.size, ht, ⟨hS.1.1.below hk, hS.1.2⟩, hS.2⟩
theorem HandsN.grown {B : Nat} {w w' : World} {row : Option Nat} {v : Value} {hs : List Hand} (h : HandsN B w v hs) (hg : w.grownBy w' row) (hr : ∀ (b : Nat) (t : TypeId) (cs : List Value), Blok w b t cs → t = 98 ∨ t = 59 → row ≠ some b) : HandsN B w' v hs := by
  obtain ⟨b, c, cur, svs, e, hb, ht, ⟨hS, hN⟩, hB⟩ := h
  exact ⟨b, c, cur, svs, e, hb.grown hg (hr b _ cur hb (.inr rfl)), ht, ⟨⟨hS.1, fun k a sv h1 h2 => (hS.2 k a sv h1 h2).grown hg fun b' cs' hb' => hr b' _ cs' hb' (.inl rfl)⟩, hN⟩, hB⟩
theorem HandsN.far {B : Nat} {w : World} {v : Value} {hs : List Hand} (h : HandsN B w v hs) {p : Addr} {t : TypeId} {cs : List Value} (hb' : Blok w p.block t cs) (h1 : t ≠ 98) (h2 : t ≠ 59) (u : Value) : HandsN B (w.setCell p u) v hs := by
  obtain ⟨b, c, cur, svs, e, hb, ht, ⟨hS, hN⟩, hB⟩ := h
  exact ⟨b, c, cur, svs, e, hb.far (blok_ne hb hb' (fun e => h2 e.symm)) u, ht, ⟨⟨hS.1, fun k a sv g1 g2 => (hS.2 k a sv g1 g2).far hb' h1 u⟩, hN⟩, hB⟩

/-- The cells of some lights. -/
def ltCells (q : List Light) : List Value := q.flatMap fun x => [.int .i64 x.shows, .int .i64 x.seen]
theorem ltCells_snoc (q : List Light) (x : Light) : ltCells (q ++ [x]) = ltCells q ++ [.int .i64 x.shows, .int .i64 x.seen] := by simp [ltCells]
theorem ltCells_get : ∀ (q : List Light) (k : Nat) (x : Light), q[k]? = some x → (ltCells q)[k * 2]? = some (.int .i64 x.shows) ∧ (ltCells q)[k * 2 + 1]? = some (.int .i64 x.seen) := by
  intro S
  induction S with
  | nil => intro k x h; simp at h
  | cons a S ih =>
    intro k x h
    cases k with
    | zero =>
      obtain rfl : a = x := by simpa using h
      exact ⟨rfl, rfl⟩
    | succ k =>
      have := ih k x (by simpa using h)
      rw [show (k + 1) * 2 = k * 2 + 1 + 1 by omega]
      exact this
/-- A slice of lights, nil or with a block of its own from base on. -/
def LightsB (w : World) (v : Value) (q : List Light) : Prop := (v = .slice none 0 0 ∧ q = []) ∨ ∃ b c cur, v = .slice (some ⟨b, 0, none⟩) q.length c ∧ Blok w b 101 cur ∧ cur.take (q.length * 2) = ltCells q
theorem LightsB.of_own {w : World} {base : Nat} {v : Value} {q : List Light} (h : w.ownsRow base 101 2 v q.length (ltCells q)) : LightsB w v q := by
  rcases h.2 with ⟨h0, h1⟩ | ⟨g, cap, cur, rfl, hbg, hg, hcap, _, hsz, htake⟩
  · exact .inl ⟨h0, List.eq_nil_of_length_eq_zero h1⟩
  · exact .inr ⟨g, cap, cur.toList, rfl, by unfold Blok; rw [hg], htake⟩
theorem LightsB.one {w : World} {v : Value} {q : List Light} (h : LightsB w v q) : v.oneCell' = true := by
  rcases h with ⟨rfl, _⟩ | ⟨b, c, cur, rfl, _⟩ <;> rfl
theorem LightsB.kg {w w' : World} {g : Nat} {v : Value} {q : List Light} (h : LightsB w v q) (hu : UrnAt w g) (hk : Kg g w w') : LightsB w' v q := by
  rcases h with h | ⟨b, c, cur, e, hb, ht⟩
  · exact .inl h
  · exact .inr ⟨b, c, cur, e, hb.kg hk (hu.ne hb (by decide)), ht⟩
theorem LightsB.below {w w' : World} {v : Value} {q : List Light} (h : LightsB w v q) (hk : Below w.heap.size w w') : LightsB w' v q := by
  rcases h with h | ⟨b, c, cur, e, hb, ht⟩
  · exact .inl h
  · exact .inr ⟨b, c, cur, e, hb.below hk hb.size, ht⟩
theorem LightsB.grown {w w' : World} {row : Option Nat} {v : Value} {q : List Light} (h : LightsB w v q) (hg : w.grownBy w' row) (hr : ∀ (b : Nat) (cs : List Value), Blok w b 101 cs → row ≠ some b) : LightsB w' v q := by
  rcases h with h | ⟨b, c, cur, e, hb, ht⟩
  · exact .inl h
  · exact .inr ⟨b, c, cur, e, hb.grown hg (hr b cur hb), ht⟩
theorem LightsB.far {w : World} {v : Value} {q : List Light} (h : LightsB w v q) {p : Addr} {t : TypeId} {cs : List Value} (hb' : Blok w p.block t cs) (h1 : t ≠ 101) (u : Value) : LightsB (w.setCell p u) v q := by
  rcases h with h | ⟨b, c, cur, e, hb, ht⟩
  · exact .inl h
  · exact .inr ⟨b, c, cur, e, hb.far (blok_ne hb hb' (fun e => h1 e.symm)) u, ht⟩
theorem LightsB.lights {w : World} {v : Value} {q : List Light} (h : LightsB w v q) : Lights w w.heap.size v q := by
  rcases h with ⟨rfl, rfl⟩ | ⟨b, c, cur, rfl, hb, ht⟩
  · exact ⟨none, 0, rfl, fun h => by simp at h⟩
  · refine ⟨_, _, rfl, fun _ => ⟨b, 0, rfl, hb.size, fun k x hx => ?_⟩⟩
    have hk := (List.getElem?_eq_some_iff.1 hx).1
    obtain ⟨h1, h2⟩ := ltCells_get q k x hx
    rw [← ht] at h1 h2
    rw [List.getElem?_take, if_pos (by omega)] at h1 h2
    rw [Nat.zero_add, hb.cell, hb.cell]
    exact ⟨h1, h2⟩
/-- As LightsB, the block being B or above. -/
def LightsN (B : Nat) (w : World) (v : Value) (q : List Light) : Prop := LightsB w v q ∧ NewB B v
theorem LightsN.of_own {B : Nat} {w : World} {base : Nat} {v : Value} {q : List Light} (h : w.ownsRow base 101 2 v q.length (ltCells q)) (hB : B ≤ base) : LightsN B w v q := ⟨LightsB.of_own h, NewB.of_own h hB⟩
theorem LightsN.one {B : Nat} {w : World} {v : Value} {q : List Light} (h : LightsN B w v q) : v.oneCell' = true := h.1.one
theorem LightsN.kg {B : Nat} {w w' : World} {g : Nat} {v : Value} {q : List Light} (h : LightsN B w v q) (hu : UrnAt w g) (hk : Kg g w w') : LightsN B w' v q := ⟨h.1.kg hu hk, h.2⟩
theorem LightsN.below {B : Nat} {w w' : World} {v : Value} {q : List Light} (h : LightsN B w v q) (hk : Below w.heap.size w w') : LightsN B w' v q := ⟨h.1.below hk, h.2⟩
theorem LightsN.grown {B : Nat} {w w' : World} {row : Option Nat} {v : Value} {q : List Light} (h : LightsN B w v q) (hg : w.grownBy w' row) (hr : ∀ (b : Nat) (cs : List Value), Blok w b 101 cs → row ≠ some b) : LightsN B w' v q := ⟨h.1.grown hg hr, h.2⟩
theorem LightsN.far {B : Nat} {w : World} {v : Value} {q : List Light} (h : LightsN B w v q) {p : Addr} {t : TypeId} {cs : List Value} (hb' : Blok w p.block t cs) (h1 : t ≠ 101) (u : Value) : LightsN B (w.setCell p u) v q := ⟨h.1.far hb' h1 u, h.2⟩
/-- The lights of each square, at the values lvs. -/
def SqLights (w : World) (qs : List (List Light)) (lvs : List Value) : Prop := lvs.length = qs.length ∧ ∀ (k : Nat) (q : List Light) (v : Value), qs[k]? = some q → lvs[k]? = some v → LightsB w v q
end
section
open Go.RowKit Go.Shelf

/-- A slice of squares that has a block of its own. -/
def SquaresB (w : World) (v : Value) (qs : List (List Light)) : Prop := ∃ b c cur lvs, v = .slice (some ⟨b, 0, none⟩) qs.length c ∧ Blok w b 99 cur ∧ cur.take qs.length = lvs ∧ SqLights w qs lvs
theorem SquaresB.of_own {w : World} {base n : Nat} {v : Value} {qs : List (List Light)} {lvs : List Value} (h : w.ownsRow base 99 1 v n lvs) (hn : n = qs.length) (h0 : 0 < n) (hS : SqLights w qs lvs) : SquaresB w v qs := by
  rcases h.2 with ⟨_, h1⟩ | ⟨g, cap, cur, rfl, hbg, hg, hcap, _, hsz, htake⟩
  · omega
  · refine ⟨g, cap, cur.toList, lvs, by rw [hn], by unfold Blok; rw [hg], ?_, hS⟩
    rw [← hn, ← htake, Nat.mul_one]
theorem SquaresB.at_ {w : World} {v : Value} {qs : List (List Light)} (h : SquaresB w v qs) : ∃ b c, v = .slice (some ⟨b, 0, none⟩) qs.length c ∧ b < w.heap.size ∧ ∀ (k : Nat) (q : List Light), qs[k]? = some q → ∃ lv, LightsB w lv q ∧ w.cell? ⟨b, k, none⟩ = some lv := by
  obtain ⟨b, c, cur, lvs, e, hb, ht, hS⟩ := h
  refine ⟨b, c, e, hb.size, fun k a ha => ?_⟩
  have hk := (List.getElem?_eq_some_iff.1 ha).1
  obtain ⟨lv, hlv⟩ : ∃ lv, lvs[k]? = some lv := ⟨_, List.getElem?_eq_getElem (by rw [hS.1]; exact hk)⟩
  refine ⟨lv, hS.2 k a lv ha hlv, ?_⟩
  rw [← ht, List.getElem?_take, if_pos (by omega)] at hlv
  rw [hb.cell, hlv]
theorem SquaresB.squares {w : World} {v : Value} {qs : List (List Light)} (h : SquaresB w v qs) : Squares w w.heap.size v qs := by
  obtain ⟨b, c, rfl, hb, hk⟩ := h.at_
  refine ⟨_, _, rfl, fun h0 => ⟨b, 0, rfl, hb, fun k x hx => ?_⟩⟩
  obtain ⟨lv, h1, h2⟩ := hk k x hx
  exact ⟨lv, by rw [Nat.zero_add]; exact h2, h1.lights⟩
theorem SqLights.kg {w w' : World} {g : Nat} {qs : List (List Light)} {lvs : List Value} (h : SqLights w qs lvs) (hu : UrnAt w g) (hk : Kg g w w') : SqLights w' qs lvs := ⟨h.1, fun k q v h1 h2 => (h.2 k q v h1 h2).kg hu hk⟩
theorem SqLights.below {w w' : World} {qs : List (List Light)} {lvs : List Value} (h : SqLights w qs lvs) (hk : Below w.heap.size w w') : SqLights w' qs lvs := ⟨h.1, fun k q v h1 h2 => (h.2 k q v h1 h2).below hk⟩
theorem SqLights.grown {w w' : World} {row : Option Nat} {qs : List (List Light)} {lvs : List Value} (h : SqLights w qs lvs) (hg : w.grownBy w' row) (hr : ∀ (b : Nat) (cs : List Value), Blok w b 101 cs → row ≠ some b) : SqLights w' qs lvs := ⟨h.1, fun k q v h1 h2 => (h.2 k q v h1 h2).grown hg hr⟩
theorem SqLights.far {w : World} {qs : List (List Light)} {lvs : List Value} (h : SqLights w qs lvs) {p : Addr} {t : TypeId} {cs : List Value} (hb' : Blok w p.block t cs) (h1 : t ≠ 101) (u : Value) : SqLights (w.setCell p u) qs lvs := ⟨h.1, fun k q v g1 g2 => (h.2 k q v g1 g2).far hb' h1 u⟩
theorem SqLights.snoc {w : World} {qs : List (List Light)} {lvs : List Value} {q : List Light} {v : Value} (h : SqLights w qs lvs) (hq : LightsB w v q) : SqLights w (qs ++ [q]) (lvs ++ [v]) := by
  refine ⟨by simp [h.1], fun k a b h1 h2 => ?_⟩
  by_cases hk : k < qs.length
  · rw [List.getElem?_append_left hk] at h1
    rw [List.getElem?_append_left (by rw [h.1]; exact hk)] at h2
    exact h.2 k a b h1 h2
  · have hk' : k = qs.length := by
      have := (List.getElem?_eq_some_iff.1 h1).1
      simp at this
      omega
    subst hk'
    have e1 : q = a := by simpa using h1
    rw [← h.1] at h2
    have e2 : v = b := by simpa using h2
    rw [← e1, ← e2]
    exact hq
/-- As SqLights and SquaresB, the lights' blocks being B or above. -/
def SqN (B : Nat) (w : World) (qs : List (List Light)) (lvs : List Value) : Prop := SqLights w qs lvs ∧ ∀ v ∈ lvs, NewB B v
theorem SqN.kg {B : Nat} {w w' : World} {g : Nat} {qs : List (List Light)} {lvs : List Value} (h : SqN B w qs lvs) (hu : UrnAt w g) (hk : Kg g w w') : SqN B w' qs lvs := ⟨h.1.kg hu hk, h.2⟩
theorem SqN.below {B : Nat} {w w' : World} {qs : List (List Light)} {lvs : List Value} (h : SqN B w qs lvs) (hk : Below w.heap.size w w') : SqN B w' qs lvs := ⟨h.1.below hk, h.2⟩
theorem SqN.grown {B : Nat} {w w' : World} {row : Option Nat} {qs : List (List Light)} {lvs : List Value} (h : SqN B w qs lvs) (hg : w.grownBy w' row) (hr : ∀ (b : Nat) (cs : List Value), Blok w b 101 cs → row ≠ some b) : SqN B w' qs lvs := ⟨h.1.grown hg hr, h.2⟩
theorem SqN.far {B : Nat} {w : World} {qs : List (List Light)} {lvs : List Value} (h : SqN B w qs lvs) {p : Addr} {t : TypeId} {cs : List Value} (hb' : Blok w p.block t cs) (h1 : t ≠ 101) (u : Value) : SqN B (w.setCell p u) qs lvs := ⟨h.1.far hb' h1 u, h.2⟩
theorem SqN.snoc {B : Nat} {w : World} {qs : List (List Light)} {lvs : List Value} {q : List Light} {v : Value} (h : SqN B w qs lvs) (hq : LightsN B w v q) : SqN B w (qs ++ [q]) (lvs ++ [v]) := ⟨h.1.snoc hq.1, fun x hx => by
  rcases List.mem_append.1 hx with hx | hx
  · exact h.2 x hx
  · obtain rfl : x = v := by simpa using hx
    exact hq.2⟩
def SquaresN (B : Nat) (w : World) (v : Value) (qs : List (List Light)) : Prop := ∃ b c cur lvs, v = .slice (some ⟨b, 0, none⟩) qs.length c ∧ Blok w b 99 cur ∧ cur.take qs.length = lvs ∧ SqN B w qs lvs
theorem SquaresN.of_own {B : Nat} {w : World} {base n : Nat} {v : Value} {qs : List (List Light)} {lvs : List Value} (h : w.ownsRow base 99 1 v n lvs) (hn : n = qs.length) (h0 : 0 < n) (hS : SqN B w qs lvs) : SquaresN B w v qs := by
  rcases h.2 with ⟨_, h1⟩ | ⟨g, cap, cur, rfl, hbg, hg, hcap, _, hsz, htake⟩
  · omega
  · refine ⟨g, cap, cur.toList, lvs, by rw [hn], by unfold Blok; rw [hg], ?_, hS⟩
    rw [← hn, ← htake, Nat.mul_one]
theorem SquaresN.toB {B : Nat} {w : World} {v : Value} {qs : List (List Light)} (h : SquaresN B w v qs) : SquaresB w v qs := by
  obtain ⟨b, c, cur, lvs, e, hb, ht, hS⟩ := h
  exact ⟨b, c, cur, lvs, e, hb, ht, hS.1⟩
/-- A line whose lists have blocks of their own. -/
def LineB (w : World) (v : Value) (L : Line) : Prop := ∃ vh vs, v = .agg #[vh, .int .i64 L.worn, .int .i64 L.scr, .int .i64 L.total, vs] ∧ HandsB w vh L.hands ∧ SquaresB w vs L.squares
theorem LineB.line {w : World} {v : Value} {L : Line} (h : LineB w v L) : LineAt w w.heap.size v L := by
  obtain ⟨vh, vs, rfl, h1, h2⟩ := h
  exact ⟨vh, vs, rfl, h1.hands, h2.squares⟩
/-- Numbers with a block of their own. -/
def IntsB (w : World) (v : Value) (l : List Nat) : Prop := ∃ b c cur, v = .slice (some ⟨b, 0, none⟩) l.length c ∧ Blok w b 3 cur ∧ cur.take l.length = l.map fun (x : Nat) => Value.int .i64 x
/-- The letters of a truth. -/
def lettersAt (S : List Shape) (ks : List Nat) : List UInt8 := ks.map fun k => UInt8.ofNat (S.getD k ⟨0, 0⟩).letter

/-- What LineOf comes to. -/
def LinePost (g hm sm qm : Nat) (w : World) (e : Ending) (w' : World) : Prop :=
  ∃ (L : Line) (lv vv : Value) (hand : Nat) (ks vs : List Nat) (lts : ByteArray) (H : Hand), e = .returned (.tuple #[lv, .agg #[.int .i64 hand, .string lts, vv]]) ∧ LineB w' lv L ∧ L.ok ∧ L.hands.length ≤ hm ∧ (∀ h ∈ L.hands, h.shapes.length ≤ sm ∧ ∀ s ∈ h.shapes, s.strokes < 32) ∧
    L.squares.length ≤ qm ∧ Truth L hand ks vs ∧ L.hands[hand]? = some H ∧ marksTo H.shapes ks vs L.squares.length ≤ L.total ∧ lts.data.toList = lettersAt H.shapes ks ∧ IntsB w' vv vs ∧ (∀ (b n c : Nat) (x0 x1 x2 x3 : Value), lv = .agg #[x0, x1, x2, x3, .slice (some ⟨b, 0, none⟩) n c] → w.heap.size ≤ b ∧ n ≤ c ∧ HandsN w.heap.size w' x0 L.hands ∧ SquaresN w.heap.size w' (.slice (some ⟨b, 0, none⟩) n c) L.squares) ∧ UrnAt w' g ∧ Kg g w w'

def lineCells (vh : Value) (worn scr total : Nat) (vs : Value) : List Value := [vh, .int .i64 worn, .int .i64 scr, .int .i64 total, vs]
def cutCells (hand : Nat) (lts : ByteArray) (vv : Value) : List Value := [.int .i64 hand, .string lts, vv]
def zeroLine : List Value := [.slice none 0 0, .int .i64 0, .int .i64 0, .int .i64 0, .slice none 0 0]
def zeroCut : List Value := [.int .i64 0, .string ⟨#[]⟩, .slice none 0 0]
/-- Within the first loop: the hands so far. -/
def HandsI (g : Nat) (w wr : World) (lb r8 r9 base worn scr hm sm k : Nat) : Prop :=
  ∃ (hs : List Hand) (svs : List Value) (vh : Value), Blok wr lb 51 (lineCells vh worn scr 0 (.slice none 0 0)) ∧ Blok wr r8 51 zeroLine ∧ Blok wr r9 53 zeroCut ∧ UrnAt wr g ∧ Kg g w wr ∧
    wr.ownsRow base 59 3 vh hs.length (hdCells hs svs) ∧ HdN w.heap.size wr hs svs ∧ (∀ h ∈ hs, h.ok ∧ h.shapes.length ≤ sm ∧ ∀ s ∈ h.shapes, s.strokes < 32) ∧ hs.length + k ≤ hm ∧ 1 ≤ hs.length + k ∧ base ≤ wr.heap.size
theorem info_hand : (Tryz.prog.info? 59).map (fun i => (i.zero, i.size, i.bytes)) = some (some (.agg #[.int .i64 0, .int .i64 0, .slice none 0 0]), 3, 40) := by kernel_rfl
theorem HdShapes.snoc {w : World} {hs : List Hand} {svs : List Value} {h : Hand} {sv : Value} (H : HdShapes w hs svs) (hq : ShapesB w sv h.shapes) : HdShapes w (hs ++ [h]) (svs ++ [sv]) := by
  refine ⟨by simp [H.1], fun k a b h1 h2 => ?_⟩
  by_cases hk : k < hs.length
  · rw [List.getElem?_append_left hk] at h1
    rw [List.getElem?_append_left (by rw [H.1]; exact hk)] at h2
    exact H.2 k a b h1 h2
  · have hk' : k = hs.length := by
      have := (List.getElem?_eq_some_iff.1 h1).1
      simp at this
      omega
    subst hk'
    have e1 : h = a := by simpa using h1
    rw [← H.1] at h2
    have e2 : sv = b := by simpa using h2
    rw [← e1, ← e2]
    exact hq
theorem ShapesB.one {w : World} {v : Value} {S : List Shape} (h : ShapesB w v S) : v.oneCell' = true := by
  obtain ⟨b, c, cur, rfl, _⟩ := h
  rfl
theorem own_ne_row {w : World} {base size n b : Nat} {e t : TypeId} {v : Value} {xs cs : List Value} (h : w.ownsRow base e size v n xs) (hb : Blok w b t cs) (hne : e ≠ t) : v.ownBlock ≠ some b := own_ne h hb hne
/-- A round of the first loop. -/
theorem HandsI.step {g : Nat} {w w5 w7 : World} {lb r8 r9 base worn scr hm sm k gg cap : Nat} {hs : List Hand} {svs : List Value} {vh sv : Value} {h : Hand} {o : Obj}
    (B8 : Blok w5 r8 51 zeroLine) (B9 : Blok w5 r9 53 zeroCut) (B7 : Blok w7 lb 51 (lineCells vh worn scr 0 (.slice none 0 0))) (hu : UrnAt w5 g) (hk : Kg g w w5) (hg : (w5.alloc o).grownBy w7 vh.ownBlock)
    (ho : w5.ownsRow base 59 3 vh hs.length (hdCells hs svs))
    (h7 : w7.ownsRow base 59 3 (.slice (some ⟨gg, 0, none⟩) (hs.length + 1) cap) (hs.length + 1) (hdCells hs svs ++ [.int .i64 h.low, .int .i64 h.high, sv]))
    (hS : HdN w.heap.size w5 hs svs) (hsv : ShapesN w.heap.size w5 sv h.shapes) (hok : ∀ h ∈ hs, h.ok ∧ h.shapes.length ≤ sm ∧ ∀ s ∈ h.shapes, s.strokes < 32) (hh : h.ok) (hh2 : h.shapes.length ≤ sm) (hh3 : ∀ s ∈ h.shapes, s.strokes < 32)
    (hlen : hs.length + k ≤ hm) (hb5 : base ≤ w5.heap.size) (h0 : w.heap.size ≤ base) (hk0 : 0 < k) (hne : r8 ≠ lb) (hw0 : w.heap.size ≤ lb) :
    HandsI g w (w7.setCell ⟨lb, 0, none⟩ (.slice (some ⟨gg, 0, none⟩) (hs.length + 1) cap)) lb r8 r9 base worn scr hm sm (k - 1) := by
  have hu5 := hu.alloc o
  have ho5 := ho.alloc o
  have hu7 := hu5.grown hg (hu5.own_ne ho5 (by decide))
  have hgu : g ≠ lb := (hu7.ne B7 (by decide)).symm
  have hS7 : HdShapes w7 hs svs := ⟨hS.1.1, fun k a b h1 h2 => ((hS.1.2 k a b h1 h2).below ((Below.refl _ _).alloc (Nat.le_refl _) o)).grown hg fun b cs hb => own_ne_row ho5 hb (by decide)⟩
  have hsv7 : ShapesB w7 sv h.shapes := (hsv.1.below ((Below.refl _ _).alloc (Nat.le_refl _) o)).grown hg fun b cs hb => own_ne_row ho5 hb (by decide)
  have hs8 := hS7.snoc hsv7
  refine ⟨hs ++ [h], svs ++ [sv], .slice (some ⟨gg, 0, none⟩) (hs.length + 1) cap, B7.put 0 _, ((B8.alloc o).grown hg (own_ne_row ho5 (B8.alloc o) (by decide))).far hne _, ?_, hu7.far hgu _,
    ((hk.alloc o).grown hg fun j e => Nat.le_trans h0 (ho5.lt j e).1).putNew hw0 _, ?_, ⟨⟨hs8.1, fun k a b h1 h2 => (hs8.2 k a b h1 h2).far (p := ⟨lb, 0, none⟩) B7 (by decide) _⟩, fun x hx => by
    rcases List.mem_append.1 hx with hx | hx
    · exact hS.2 x hx
    · obtain rfl : x = sv := by simpa using hx
      exact hsv.2⟩, ?_, ?_, ?_, ?_⟩
  · have b9 := (B9.alloc o).grown hg (own_ne_row ho5 (B9.alloc o) (by decide))
    exact b9.far (blok_ne b9 B7 (by decide)) _
  · have := own_far h7 (p := ⟨lb, 0, none⟩) (own_ne_row h7 B7 (by decide)) (.slice (some ⟨gg, 0, none⟩) (hs.length + 1) cap)
    rw [hdCells_snoc _ _ _ _ hS.1.1, List.length_append]
    exact this
  · intro a ha
    rcases List.mem_append.1 ha with ha | ha
    · exact hok a ha
    · obtain rfl : a = h := by simpa using ha
      exact ⟨hh, hh2, hh3⟩
  · rw [List.length_append]; simp; omega
  · rw [List.length_append]; simp; omega
  · have := hg.size
    simp [World.setCell] at this ⊢
    omega
end
end
section
open Go

section
variable {P : Program} {ops : Array Oper} {Q : Exit → Act → World → Prop} {md : Region.Mode} {S : World → Prop} {late : Nat → Bool}
/-- Whatever order is picked from here on; S holds behind each operation that is carried out, but the late ones. -/
def wpAnyT (P : Program) (md : Region.Mode) (ops : Array Oper) (Q : Exit → Act → World → Prop) (S : World → Prop) (late : Nat → Bool) : Nat → Array Bool → Act → World → Prop
  | 0, listed, a, w => Region.ready md ops listed = [] ∧ Q .normal a w
  | fuel + 1, listed, a, w =>
    (Region.ready md ops listed = [] → Q .normal a w) ∧
    ∀ i ∈ Region.ready md ops listed, wpOp P ops Q i (fun a' w' => (late i = false → S w') ∧ wpAnyT P md ops Q S late fuel (listed.setIfInBounds i true) a' w') a w
theorem wpAny_of_t : ∀ (fuel : Nat) (listed : Array Bool) (a : Act) (w : World), wpAnyT P md ops Q S late fuel listed a w → wpAny P md ops Q fuel listed a w
  | 0, _, _, _, h => h
  | fuel + 1, _, _, _, h => ⟨h.1, fun i hi => wpOp_mono (fun a' w' h' => wpAny_of_t fuel _ a' w' h'.2) (h.2 i hi)⟩
/-- Do all late operations that have not come up wait for number i? -/
def lateWait (md : Region.Mode) (ops : Array Oper) (late : Nat → Bool) (listed : Array Bool) (i : Nat) : Bool := (List.range ops.size).all fun j => !late j || listed.getD j true || Region.waitsFor md ops j i
theorem lateWait_spec {i j : Nat} {oj : Oper} {listed : Array Bool} (h : lateWait md ops late listed i = true) (hj : ops[j]? = some oj) (hl : late j = true) (hu : listed.getD j true = false) : ∃ e ∈ oj.after, Region.binds md e = true ∧ e.on = i := by
  unfold lateWait at h
  have h1 := List.all_eq_true.1 h j (List.mem_range.2 (by
    rcases Nat.lt_or_ge j ops.size with h' | h'
    · exact h'
    · rw [Array.getElem?_eq_none h'] at hj; cases hj))
  rw [hl, hu] at h1
  obtain ⟨oj', h2, h3⟩ := Region.waitsFor_spec (by simpa using h1)
  rw [hj] at h2
  injection h2 with h2
  subst h2
  exact h3
theorem unlisted_of_set {listed : Array Bool} {j k : Nat} (hjun : listed.getD j true = false) (hun : (listed.setIfInBounds j true).getD k true = false) : listed.getD k true = false := by
  by_cases hjk : j = k
  · subst hjk; exact hjun
  · rw [getD_set_ne true hjk] at hun; exact hun
/-- The law of both takes: either number i is late and yields in every world, or S holds till it has come up. -/
theorem wpAnyT_first {i : Nat} {oi : Oper} {v : Value} {T : World → Prop} (hi : ops[i]? = some oi) (hsel : ∀ (j : Nat) (o : Oper) cs b, ops[j]? = some o → o.op ≠ .select cs b)
    (hQ : ∀ c a w, Q (.panic c) (a.put oi.dst v) w → Q (.panic c) a w) :
    ∀ (fuel : Nat) (listed : Array Bool) (a : Act) (w : World),
      (late i = true ∧ (∀ w, T w) ∨ (∀ w, S w ↔ T w) ∧ ∀ j oj, ops[j]? = some oj → late j = true → listed.getD j true = false → ∃ e ∈ oj.after, Region.binds md e = true ∧ e.on = i) →
      (∀ j oj, ops[j]? = some oj → j ≠ i → listed.getD j true = false → (∀ e ∈ oj.after, Region.binds md e = true → e.on ≠ i) → oi.apart ops oj = true) →
      i ∈ Region.ready md ops listed → YieldsIf P ops T oi v a → T w →
      wpAnyT P md ops Q S late fuel (listed.setIfInBounds i true) (a.put oi.dst v) w → wpAnyT P md ops Q S late (fuel + 1) listed a w := by
  have back : ∀ {listed : Array Bool} {w : World}, (late i = true ∧ (∀ w, T w) ∨ (∀ w, S w ↔ T w) ∧ ∀ j oj, ops[j]? = some oj → late j = true → listed.getD j true = false → ∃ e ∈ oj.after, Region.binds md e = true ∧ e.on = i) → T w → late i = false → S w := by
    intro listed w hc hT hl
    rcases hc with ⟨h, _⟩ | ⟨h, _⟩
    · rw [h] at hl; cases hl
    · exact (h w).2 hT
  intro fuel
  induction fuel with
  | zero =>
    intro listed a w hc _ hr hy hS H
    refine ⟨fun h => (by rw [h] at hr; cases hr), fun j hj => ?_⟩
    by_cases hji : j = i
    · subst hji; exact hy.wpOp hi hS ⟨back hc hS, H⟩
    · have := ready_mono hj hji
      rw [H.1] at this
      cases this
  | succ fuel ih =>
    intro listed a w hc hfree hr hy hS H
    refine ⟨fun h => (by rw [h] at hr; cases hr), fun j hj => ?_⟩
    by_cases hji : j = i
    · subst hji; exact hy.wpOp hi hS ⟨back hc hS, H⟩
    · have g1 := H.2 j (ready_mono hj hji)
      obtain ⟨hjun, oj, hoj, hall⟩ := mem_ready.1 hj
      have hnot : ∀ e ∈ oj.after, Region.binds md e = true → e.on ≠ i := fun e he hb heq => by
        have k1 := hall e he hb
        have k0 := (mem_ready.1 hr).1
        rw [heq] at k1
        rcases Nat.lt_or_ge i listed.size with h' | h'
        · simp [h'] at k0 k1; rw [k0] at k1; cases k1
        · simp [Array.getElem?_eq_none h'] at k1
      have hnext : ∀ w', (late j = false → S w') → T w' := fun w' hs => by
        rcases hc with ⟨_, h⟩ | ⟨h, hl⟩
        · exact h w'
        · refine (h w').1 (hs ?_)
          cases hlj : late j with
          | false => rfl
          | true =>
            obtain ⟨e, he, hb, heq⟩ := hl j oj hoj hlj hjun
            exact absurd heq (hnot e he hb)
      have g2 := wpOp_putIf hoj (hfree j oj hoj hji hjun hnot) (fun cs b => hsel i oi cs b hi) (fun cs b => hsel j oj cs b hoj) hQ hy g1
      have hfree' : ∀ k ok, ops[k]? = some ok → k ≠ i → (listed.setIfInBounds j true).getD k true = false →
          (∀ e ∈ ok.after, Region.binds md e = true → e.on ≠ i) → oi.apart ops ok = true := fun k ok hk hki hun hno => hfree k ok hk hki (unlisted_of_set hjun hun) hno
      have hc' : late i = true ∧ (∀ w, T w) ∨ (∀ w, S w ↔ T w) ∧ ∀ k ok, ops[k]? = some ok → late k = true → (listed.setIfInBounds j true).getD k true = false → ∃ e ∈ ok.after, Region.binds md e = true ∧ e.on = i :=
        hc.imp id fun ⟨h, hl⟩ => ⟨h, fun k ok hk hlk hun => hl k ok hk hlk (unlisted_of_set hjun hun)⟩
      refine wpOp_mono (fun a' w' g3 => ⟨g3.2.1, ih (listed.setIfInBounds j true) a' w' hc' hfree' (ready_mono hr (Ne.symm hji)) g3.1 (hnext w' g3.2.1) ?_⟩) g2
      rw [Array.setIfInBounds_comm _ _ hji]
      exact g3.2.2
/-- Take number i first: a load. -/
theorem wpAnyT_take {i : Nat} {oi : Oper} {v : Value} {fuel : Nat} {listed : Array Bool} {a : Act} {w : World} (hi : ops[i]? = some oi)
    (hs : Region.noSelect ops = true) (hf : Region.free md ops listed i = true) (hr : (Region.ready md ops listed).contains i = true) (hlw : lateWait md ops late listed i = true)
    (hQ : ∀ c a w, Q (.panic c) (a.put oi.dst v) w → Q (.panic c) a w) (hy : YieldsIf P ops S oi v a) (hS : S w)
    (h : wpAnyT P md ops Q S late fuel (listed.setIfInBounds i true) (a.put oi.dst v) w) : wpAnyT P md ops Q S late (fuel + 1) listed a w :=
  wpAnyT_first (T := S) hi (Region.noSelect_spec hs) hQ fuel listed a w (.inr ⟨fun _ => Iff.rfl, fun _ _ hj hl hu => lateWait_spec hlw hj hl hu⟩) (Region.free_spec hi hf) (by simpa using hr) hy hS h
/-- Take number i first: it is late, and yields in whatever world. -/
theorem wpAnyT_free {i : Nat} {oi : Oper} {v : Value} {fuel : Nat} {listed : Array Bool} {a : Act} {w : World} (hi : ops[i]? = some oi)
    (hs : Region.noSelect ops = true) (hf : Region.free md ops listed i = true) (hr : (Region.ready md ops listed).contains i = true) (hl : late i = true)
    (hQ : ∀ c a w, Q (.panic c) (a.put oi.dst v) w → Q (.panic c) a w) (hy : YieldsIf P ops (fun _ => True) oi v a)
    (h : wpAnyT P md ops Q S late fuel (listed.setIfInBounds i true) (a.put oi.dst v) w) : wpAnyT P md ops Q S late (fuel + 1) listed a w :=
  wpAnyT_first (T := fun _ => True) hi (Region.noSelect_spec hs) hQ fuel listed a w (.inl ⟨hl, fun _ => trivial⟩) (Region.free_spec hi hf) (by simpa using hr) hy trivial h
/-- Once S is not asked any more the plain walk goes on. -/
theorem wpAnyT_done {listed : Array Bool} {a : Act} {w : World} (hr : Region.ready md ops listed = []) (h : Q .normal a w) :
    ∀ fuel, wpAnyT P md ops Q S late fuel listed a w
  | 0 => ⟨hr, h⟩
  | _ + 1 => ⟨fun _ => h, by rw [hr]; simp⟩
def AllReadyT (P : Program) (md : Region.Mode) (ops : Array Oper) (Q : Exit → Act → World → Prop) (S : World → Prop) (late : Nat → Bool) (fuel : Nat) (listed : Array Bool) (a : Act) (w : World) (rs : List Nat) : Prop :=
  ∀ i ∈ rs, wpOp P ops Q i (fun a' w' => (late i = false → S w') ∧ wpAnyT P md ops Q S late fuel (listed.setIfInBounds i true) a' w') a w
theorem AllReadyT.nil {fuel : Nat} {listed : Array Bool} {a : Act} {w : World} : AllReadyT P md ops Q S late fuel listed a w [] := fun _ h => by cases h
theorem AllReadyT.cons {fuel : Nat} {listed : Array Bool} {a : Act} {w : World} {i : Nat} {o : Oper} {rs : List Nat} (ho : ops[i]? = some o)
    (h : ∀ K' : Act → World → Prop, Shut (∀ a w, (late i = false → S w) → wpAnyT P md ops Q S late fuel (listed.setIfInBounds i true) a w → K' a w) → if Region.wanted o (yielded ops a.tmps) = true then Oper.wp P o a w K' Q else K' (a.put o.dst undef) w)
    (hs : AllReadyT P md ops Q S late fuel listed a w rs) : AllReadyT P md ops Q S late fuel listed a w (i :: rs) := fun j hj => by
  rcases List.mem_cons.1 hj with rfl | hj
  · exact wpOp_step ho (fun K' hK => h K' (fun a w hS hW => hK a w ⟨hS, hW⟩))
  · exact hs j hj
theorem wpAnyT_ready {rs : List Nat} {fuel : Nat} {listed : Array Bool} {a : Act} {w : World} (hr : Region.ready md ops listed = rs) (hne : rs ≠ [])
    (h : AllReadyT P md ops Q S late fuel listed a w rs) : wpAnyT P md ops Q S late (fuel + 1) listed a w :=
  ⟨fun h0 => absurd (hr ▸ h0) hne, hr ▸ h⟩
theorem wp_region_t {id : Nat} {a : Act} {w : World} (S : World → Prop) (late : Nat → Bool) (hm : P.follows .mixedOrders = true)
    (h : wpAnyT P .any ops Q S late ops.size (Array.replicate ops.size false) a w.drew) : (Code.region id ops true).wp P Q a w :=
  wp_region_any hm (wpAny_of_t _ _ _ _ h)
end
end
section
section
open Go.RowKit Go.Shelf

theorem Kg.cell {g : Nat} {a b : World} (h : Kg g a b) {k o : Nat} {v : Value} (hc : a.cell? ⟨k, o, none⟩ = some v) (hne : k ≠ g) : b.cell? ⟨k, o, none⟩ = some v := by
  have hk := World.block_lt_of_cell? a _ hc
  rw [← hc]
  exact World.cell?_of_block (a := ⟨k, o, none⟩) (h.heap hk hne)
theorem ShapesB.at_ {w : World} {b n c : Nat} {S : List Shape} (h : ShapesB w (.slice (some ⟨b, 0, none⟩) n c) S) : n = S.length ∧ b < w.heap.size ∧ ∀ (k : Nat) (x : Shape), S[k]? = some x → w.cell? ⟨b, k * 2, none⟩ = some (.int .u8 x.letter) ∧ w.cell? ⟨b, k * 2 + 1, none⟩ = some (.int .i64 x.strokes) := by
  obtain ⟨b', c', cur, e, hb, ht⟩ := h
  injection e with e1 e2 e3
  injection e1 with e1
  injection e1 with e1
  subst e1
  refine ⟨e2, hb.size, fun k x hx => ?_⟩
  have hk := (List.getElem?_eq_some_iff.1 hx).1
  obtain ⟨h1, h2⟩ := shCells_get S k x hx
  rw [← ht, List.getElem?_take, if_pos (by omega)] at h1 h2
  exact ⟨by rw [hb.cell, h1], by rw [hb.cell, h2]⟩
/-- What is so of the squares themselves. -/
def SqOk (worn scr : Nat) (S : List Shape) (qs : List (List Light)) (ks vs : List Nat) : Prop :=
  ks.length = qs.length ∧ vs.length = qs.length ∧ (∀ (i : Nat) (q : List Light) (k v : Nat), qs[i]? = some q → ks[i]? = some k → vs[i]? = some v → ∃ s, S[k]? = some s ∧ TrueSq worn scr q s.strokes v) ∧ ∀ q ∈ qs, q.length ≤ 4 ∧ ∀ x ∈ q, x.ok
theorem SqOk.nil (worn scr : Nat) (S : List Shape) : SqOk worn scr S [] [] [] := ⟨rfl, rfl, by simp, by simp⟩
theorem SqOk.snoc {worn scr : Nat} {S : List Shape} {qs : List (List Light)} {ks vs : List Nat} {q : List Light} {k v : Nat} {s : Shape} (h : SqOk worn scr S qs ks vs) (hs : S[k]? = some s) (ht : TrueSq worn scr q s.strokes v) (hq : q.length ≤ 4) (hx : ∀ x ∈ q, x.ok) :
    SqOk worn scr S (qs ++ [q]) (ks ++ [k]) (vs ++ [v]) := by
  obtain ⟨h1, h2, h3, h4⟩ := h
  refine ⟨by simp [h1], by simp [h2], fun i q' k' v' e1 e2 e3 => ?_, fun q' hq' => ?_⟩
  · by_cases hi : i < qs.length
    · rw [List.getElem?_append_left hi] at e1
      rw [List.getElem?_append_left (by omega)] at e2 e3
      exact h3 i q' k' v' e1 e2 e3
    · have hi' : i = qs.length := by
        have := (List.getElem?_eq_some_iff.1 e1).1
        simp at this
        omega
      subst hi'
      rw [List.getElem?_append_right (Nat.le_refl _), Nat.sub_self] at e1
      rw [List.getElem?_append_right (by omega), h1, Nat.sub_self] at e2
      rw [List.getElem?_append_right (by omega), h2, Nat.sub_self] at e3
      simp only [List.getElem?_cons_zero, Option.some.injEq] at e1 e2 e3
      subst e1 e2 e3
      exact ⟨s, hs, ht⟩
  · rcases List.mem_append.1 hq' with hq' | hq'
    · exact h4 q' hq'
    · obtain rfl : q' = q := by simpa using hq'
      exact ⟨hq, hx⟩
theorem marksTo_snoc (S : List Shape) (ks vs : List Nat) (k v n : Nat) (h1 : ks.length = n) (h2 : vs.length = n) : marksTo S (ks ++ [k]) (vs ++ [v]) (n + 1) = marksTo S ks vs n + markOf S k v := by
  rw [marksTo_succ]
  have e : marksTo S (ks ++ [k]) (vs ++ [v]) n = marksTo S ks vs n := by
    unfold marksTo
    refine congrArg List.sum (List.map_congr_left fun i hi => ?_)
    have hi := List.mem_range.1 hi
    have a : (ks ++ [k]).getD i 0 = ks.getD i 0 := by simp only [List.getD]; rw [List.getElem?_append_left (by omega)]
    have b : (vs ++ [v]).getD i 0 = vs.getD i 0 := by simp only [List.getD]; rw [List.getElem?_append_left (by omega)]
    rw [a, b]
  have a : (ks ++ [k]).getD n 0 = k := by simp only [List.getD]; rw [List.getElem?_append_right (by omega), h1, Nat.sub_self]; rfl
  have b : (vs ++ [v]).getD n 0 = v := by simp only [List.getD]; rw [List.getElem?_append_right (by omega), h2, Nat.sub_self]; rfl
  rw [e, a, b]
theorem marksTo_le {worn scr : Nat} {S : List Shape} {qs : List (List Light)} {ks vs : List Nat} (h : SqOk worn scr S qs ks vs) (n : Nat) (hn : n ≤ qs.length) : marksTo S ks vs n ≤ (worn + scr) * n := by
  obtain ⟨h1, h2, h3, _⟩ := h
  induction n with
  | zero => simp [marksTo]
  | succ n ih =>
    rw [marksTo_succ, Nat.mul_succ]
    have a1 : n < ks.length := by omega
    have a2 : n < vs.length := by omega
    have a3 : n < qs.length := by omega
    obtain ⟨s, hs, ht⟩ := h3 n qs[n] ks[n] vs[n] (List.getElem?_eq_getElem a3) (List.getElem?_eq_getElem a1) (List.getElem?_eq_getElem a2)
    have e1 : ks.getD n 0 = ks[n] := by simp [List.getD, a1]
    have e2 : vs.getD n 0 = vs[n] := by simp [List.getD, a2]
    have e3 : S.getD ks[n] ⟨0, 0⟩ = s := by simp [List.getD, hs]
    have := ih (by omega)
    rw [e1, e2]
    unfold markOf
    rw [e3]
    have := ht.2.2.1
    have := ht.2.2.2.1
    omega
/-- The squares so far, in memory. -/
def LineI (g : Nat) (w wr : World) (lb cb r8 r9 base worn scr hand : Nat) (hs : List Hand) (vh : Value) (S : List Shape) (qs : List (List Light)) (ks vs : List Nat) : Prop :=
  ∃ (vsq vv : Value) (lts : ByteArray) (lvs : List Value), Blok wr lb 51 (lineCells vh worn scr 0 vsq) ∧ Blok wr cb 53 (cutCells hand lts vv) ∧ Blok wr r8 51 zeroLine ∧ Blok wr r9 53 zeroCut ∧
    HandsN w.heap.size wr vh hs ∧ UrnAt wr g ∧ Kg g w wr ∧ wr.ownsRow base 99 1 vsq qs.length lvs ∧ SqN w.heap.size wr qs lvs ∧ wr.ownsRow base 3 1 vv vs.length (vs.map fun (x : Nat) => Value.int .i64 x) ∧ lts.data.toList = lettersAt S ks ∧ SqOk worn scr S qs ks vs ∧ base ≤ wr.heap.size
theorem LineI.kg {g : Nat} {w wr wr' : World} {lb cb r8 r9 base worn scr hand : Nat} {hs : List Hand} {vh : Value} {S : List Shape} {qs : List (List Light)} {ks vs : List Nat} (h : LineI g w wr lb cb r8 r9 base worn scr hand hs vh S qs ks vs) (hu' : UrnAt wr' g) (hk : Kg g wr wr') :
    LineI g w wr' lb cb r8 r9 base worn scr hand hs vh S qs ks vs := by
  obtain ⟨vsq, vv, lts, lvs, b1, b2, b3, b4, hh, hu, hk0, ho1, hl, ho2, e, hp, hb⟩ := h
  exact ⟨vsq, vv, lts, lvs, b1.kg hk (hu.ne b1 (by decide)), b2.kg hk (hu.ne b2 (by decide)), b3.kg hk (hu.ne b3 (by decide)), b4.kg hk (hu.ne b4 (by decide)), hh.kg hu hk, hu', hk0.trans hk, own_kg ho1 hu (by decide) hk, hl.kg hu hk, own_kg ho2 hu (by decide) hk, e, hp, Nat.le_trans hb hk.size⟩
theorem LineI.alloc {g : Nat} {w wr : World} {lb cb r8 r9 base worn scr hand : Nat} {hs : List Hand} {vh : Value} {S : List Shape} {qs : List (List Light)} {ks vs : List Nat} (h : LineI g w wr lb cb r8 r9 base worn scr hand hs vh S qs ks vs) (o : Obj) :
    LineI g w (wr.alloc o) lb cb r8 r9 base worn scr hand hs vh S qs ks vs := by
  have h' := h
  obtain ⟨vsq, vv, lts, lvs, b1, b2, b3, b4, hh, hu, _⟩ := h'
  exact h.kg (hu.alloc o) ((Kg.refl g wr).alloc o)
/-- Numbers of strokes, as the walk has them. -/
theorem bit_of (s k : Nat) (hs : s < 1024) : bits .and .i64 ((s : Int) / 2 ^ k) 1 = if hasBit s k then 1 else 0 := by
  have h1 : s / 2 ^ k < 2 ^ 63 := Nat.lt_of_le_of_lt (Nat.div_le_self _ _) (by omega)
  have e0 : ((s : Int) / 2 ^ k) = ((s / 2 ^ k : Nat) : Int) := by simp
  rw [e0, show (1 : Int) = ((1 : Nat) : Int) from rfl, (bits_nat .i64 63 (by decide) wraps_i64 (s / 2 ^ k) 1 h1 (by omega)).1]
  unfold hasBit
  rw [Nat.and_one_is_mod]
  rcases Nat.mod_two_eq_zero_or_one (s / 2 ^ k) with h | h <;> rw [h] <;> rfl
theorem and_lights (v x : Nat) (hv : v < 32) : bits .and .i64 (v : Int) (x : Int) = ((v &&& x : Nat) : Int) := by
  by_cases hx : x < 2 ^ 63
  · exact (bits_nat .i64 63 (by decide) wraps_i64 v x (by omega) hx).1
  · have h : ((BitVec.ofInt 64 (v : Int) &&& BitVec.ofInt 64 (x : Int)).toNat) = v &&& x := by
      apply Nat.eq_of_testBit_eq
      intro i
      rw [BitVec.testBit_toNat]
      simp only [BitVec.ofInt_natCast, BitVec.getLsbD_and, BitVec.getLsbD_ofNat, Nat.testBit_and]
      by_cases hi : i < 64
      · simp [hi]
      · have h0 : v.testBit i = false := Nat.testBit_lt_two_pow (Nat.lt_of_lt_of_le hv (Nat.pow_le_pow_right (n := 2) (i := 5) (by decide) (by omega)))
        simp [hi, h0]
    have e : bits .and .i64 (v : Int) (x : Int) = IntKind.i64.wrap ((BitVec.ofInt 64 (v : Int) &&& BitVec.ofInt 64 (x : Int)).toNat : Int) := rfl
    rw [e, h]
    have : v &&& x ≤ v := Nat.and_le_left
    exact wraps_i64 _ (by omega) (by omega)
theorem pow_le16 (k : Nat) (hk : k < 5) : 2 ^ k ≤ 16 := by
  have : k = 0 ∨ k = 1 ∨ k = 2 ∨ k = 3 ∨ k = 4 := by omega
  rcases this with rfl | rfl | rfl | rfl | rfl <;> decide
theorem wear_num (v k : Nat) (hv : v < 32) (h : 2 ^ k ≤ v) : wrap64 ((v : Int) - wrap64 ((2 : Int) ^ k)) = ((v - 2 ^ k : Nat) : Int) := by
  have e : ((2 : Int) ^ k) = ((2 ^ k : Nat) : Int) := by simp
  rw [e]
  generalize 2 ^ k = p at *
  unfold wrap64
  omega
theorem scratch_num (v k : Nat) (hk : k < 5) (hv : v < 32) : wrap64 ((v : Int) + wrap64 ((2 : Int) ^ k)) = ((v + 2 ^ k : Nat) : Int) := by
  have e : ((2 : Int) ^ k) = ((2 ^ k : Nat) : Int) := by simp
  have h := pow_le16 k hk
  rw [e]
  generalize 2 ^ k = p at *
  unfold wrap64
  omega
theorem val_i64 {a b : Int} (h : a = b) : Value.int .i64 a = Value.int .i64 b := by rw [h]
theorem bit_yes {s k : Nat} (hs : s < 32) (h : bits .and .i64 ((s : Int) / 2 ^ k) 1 = 1) : hasBit s k = true := by
  rw [bit_of s k (by omega)] at h
  cases hb : hasBit s k with
  | true => rfl
  | false => rw [hb] at h; simp at h
theorem bit_no {s k : Nat} (hs : s < 32) (h : ¬ bits .and .i64 ((s : Int) / 2 ^ k) 1 = 1) : hasBit s k = false := by
  rw [bit_of s k (by omega)] at h
  cases hb : hasBit s k with
  | true => rw [hb] at h; simp at h
  | false => rfl
theorem info_light : (Tryz.prog.info? 101).map (fun i => (i.zero, i.size, i.bytes)) = some (some (.agg #[.int .i64 0, .int .i64 0]), 2, 16) := by kernel_rfl
/-- A light that shows what is visible. -/
def LightV (v : Nat) (x : Light) : Prop := x.ok ∧ x.shows < 32 ∧ x.seen = v &&& x.shows
theorem lightV_mk (v x : Nat) (hx : x < 32) : LightV v ⟨x, v &&& x⟩ := by
  refine ⟨⟨by simp; omega, ?_, ?_⟩, hx, rfl⟩
  · show v &&& x < 1024
    exact Nat.lt_of_le_of_lt Nat.and_le_right (by omega)
  · show diff (v &&& x) x = 0
    apply Nat.eq_of_testBit_eq
    intro i
    rw [diff_bit, Nat.testBit_and]
    cases v.testBit i <;> cases x.testBit i <;> simp
/-- Within the fourth loop: the lights so far. -/
def LightsI (g v base : Nat) (W1 wr : World) (lv : Value) (ql : List Light) : Prop :=
  wr.ownsRow base 101 2 lv ql.length (ltCells ql) ∧ (∀ x ∈ ql, LightV v x) ∧ UrnAt wr g ∧ Kg g W1 wr ∧ base ≤ wr.heap.size
theorem LightsI.step {g v x base gg cap : Nat} {W1 w8 w7 : World} {lv : Value} {ql : List Light} {o : Obj} (h : LightsI g v base W1 w8 lv ql) (hx : x < 32) (hW : W1.heap.size ≤ base) (hg : (w8.alloc o).grownBy w7 lv.ownBlock)
    (h7 : w7.ownsRow base 101 2 (.slice (some ⟨gg, 0, none⟩) (ql.length + 1) cap) (ql.length + 1) (ltCells ql ++ [.int .i64 x, .int .i64 ((v &&& x : Nat) : Int)])) :
    LightsI g v base W1 w7 (.slice (some ⟨gg, 0, none⟩) (ql.length + 1) cap) (ql ++ [⟨x, v &&& x⟩]) := by
  obtain ⟨h1, h2, h3, h4, h5⟩ := h
  have ho := h1.alloc o
  refine ⟨?_, fun y hy => ?_, (h3.alloc o).grown hg ((h3.alloc o).own_ne ho (by decide)), (h4.alloc o).grown hg fun j e => Nat.le_trans hW (ho.lt j e).1, ?_⟩
  · rw [ltCells_snoc, List.length_append]
    exact h7
  · rcases List.mem_append.1 hy with hy | hy
    · exact h2 y hy
    · obtain rfl : y = ⟨x, v &&& x⟩ := by simpa using hy
      exact lightV_mk v x hx
  · have := hg.size
    simp at this
    omega
theorem cell_alloc {w : World} {k o : Nat} {v : Value} (h : w.cell? ⟨k, o, none⟩ = some v) (b : Obj) : (w.alloc b).cell? ⟨k, o, none⟩ = some v := (World.cell?_alloc_lt w b _ (World.block_lt_of_cell? w _ h)).trans h
/-- What the last drawn region of a round reads. -/
def RegCells (cb sx : Nat) (lts : ByteArray) (vv : Value) (letter : Nat) (W : World) : Prop :=
  W.cell? ⟨cb, 1, none⟩ = some (.string lts) ∧ W.cell? ⟨cb, 2, none⟩ = some vv ∧ W.cell? ⟨sx, 0, none⟩ = some (.int .u8 letter)
/-- What is so within it. -/
def RegF (wr : World) (cb sx base : Nat) (lts : ByteArray) (vv : Value) (letter : Nat) (vo : Value) (m : Nat) (ys : List Value) (W : World) : Prop :=
  RegCells cb sx lts vv letter W ∧ wr.grownBy W vv.ownBlock ∧ W.ownsRow base 3 1 vo m ys
theorem grown_trans {a b c : World} {row : Option Nat} (h : a.grownBy b row) (k : b.grownBy c row) : a.grownBy c row :=
  ⟨k.os.trans h.os, k.tape.trans h.tape, k.output.trans h.output, Nat.le_trans h.size k.size, fun i hi hne => (k.block i (Nat.lt_of_lt_of_le hi h.size) hne).trans (h.block i hi hne)⟩
theorem RegCells.alloc {cb sx letter : Nat} {lts : ByteArray} {vv : Value} {W : World} (h : RegCells cb sx lts vv letter W) (o : Obj) : RegCells cb sx lts vv letter (W.alloc o) := ⟨cell_alloc h.1 o, cell_alloc h.2.1 o, cell_alloc h.2.2 o⟩
theorem RegF.alloc {wr W : World} {cb sx base letter m : Nat} {lts : ByteArray} {vv vo : Value} {ys : List Value} (h : RegF wr cb sx base lts vv letter vo m ys W) (o : Obj) : RegF wr cb sx base lts vv letter vo m ys (W.alloc o) :=
  ⟨h.1.alloc o, grown_trans h.2.1 (World.grownBy_alloc W o _), h.2.2.alloc o⟩
theorem RegCells.grown {cb sx letter : Nat} {lts : ByteArray} {vv : Value} {W W' : World} (h : RegCells cb sx lts vv letter W) (hg : W.grownBy W' vv.ownBlock) (h1 : vv.ownBlock ≠ some cb) (h2 : vv.ownBlock ≠ some sx) : RegCells cb sx lts vv letter W' :=
  ⟨hg.cell h.1 (fun e => h1 e.symm), hg.cell h.2.1 (fun e => h1 e.symm), hg.cell h.2.2 (fun e => h2 e.symm)⟩
/-- A new one-cell block within it. -/
def NewCell (wr : World) (b : Nat) (u : Value) (W : World) : Prop := wr.heap.size ≤ b ∧ W.cell? ⟨b, 0, none⟩ = some u
theorem NewCell.alloc {wr W : World} {b : Nat} {u : Value} (h : NewCell wr b u W) (o : Obj) : NewCell wr b u (W.alloc o) := ⟨h.1, cell_alloc h.2 o⟩
theorem NewCell.new {wr W : World} {row : Option Nat} (hg : wr.grownBy W row) (u : Value) (t : TypeId) : NewCell wr W.heap.size u (W.alloc (.cells #[u] t)) := ⟨hg.size, (Blok.new W t [u]).cell 0⟩
theorem NewCell.grown {wr W W' : World} {b : Nat} {u : Value} {row : Option Nat} (h : NewCell wr b u W) (hg : W.grownBy W' row) (hr : ∀ r, row = some r → r < wr.heap.size) : NewCell wr b u W' :=
  ⟨h.1, hg.cell h.2 (fun e => by have := hr b e.symm; have := h.1; omega)⟩
theorem NewCell.news {wr W : World} {b : Nat} {u : Value} (h : NewCell wr b u W) : ∀ (j : Nat) (x : Value), [u][j]? = some x → W.cell? ((⟨b, 0, none⟩ : Addr).add j) = some x := by
  intro j x hx
  cases j with
  | zero =>
    obtain rfl : u = x := by simpa using hx
    exact h.2
  | succ j => simp at hx
theorem byte_cell {wr W : World} {b x : Nat} (h : NewCell wr b (.int .u8 x) W) : ∀ i, i < 1 → W.cell? ⟨b, 0 + i, none⟩ = some (.int .u8 ([(x : Int)].getD i 0)) := by
  intro i hi
  obtain rfl : i = 0 := by omega
  exact h.2
theorem wpAnyT_world {P : Program} {ops : Array Oper} {Q : Exit → Act → World → Prop} {md : Region.Mode} {S : World → Prop} {late : Nat → Bool} {fuel : Nat} {listed : Array Bool} {a : Act} {w : World} (F : World → Prop) (hF : F w) (h : ∀ w', F w' → wpAnyT P md ops Q S late fuel listed a w') :
    wpAnyT P md ops Q S late fuel listed a w := h w hF
end
section
open Go.RowKit Go.Shelf

theorem own_own {w : World} {b1 b2 s1 s2 n1 n2 : Nat} {e1 e2 : TypeId} {v1 v2 : Value} {x1 x2 : List Value} (h1 : w.ownsRow b1 e1 s1 v1 n1 x1) (h2 : w.ownsRow b2 e2 s2 v2 n2 x2) (hne : e1 ≠ e2) : v1.ownBlock = none ∨ v1.ownBlock ≠ v2.ownBlock := by
  rcases h1.2 with ⟨rfl, _⟩ | ⟨r, cap, cur, rfl, _, hg, _⟩
  · exact .inl rfl
  · right
    intro e
    have hb : Blok w r e1 cur.toList := by unfold Blok; rw [hg]
    exact own_ne_row h2 hb (fun e => hne e.symm) e.symm
/-- The memory of a line that is being made, and of the lights of the square at hand. -/
def LineM (g : Nat) (w wr : World) (lb cb r8 r9 base worn scr hand : Nat) (hs : List Hand) (vh vsq : Value) (lts : ByteArray) (vv : Value) (lvs : List Value) (qs : List (List Light)) (vs : List Nat) (lv : Value) (ql : List Light) : Prop :=
  Blok wr lb 51 (lineCells vh worn scr 0 vsq) ∧ Blok wr cb 53 (cutCells hand lts vv) ∧ Blok wr r8 51 zeroLine ∧ Blok wr r9 53 zeroCut ∧
    HandsN w.heap.size wr vh hs ∧ UrnAt wr g ∧ Kg g w wr ∧ wr.ownsRow base 99 1 vsq qs.length lvs ∧ SqN w.heap.size wr qs lvs ∧ wr.ownsRow base 3 1 vv vs.length (vs.map fun (x : Nat) => Value.int .i64 x) ∧ LightsN w.heap.size wr lv ql ∧ base ≤ wr.heap.size
theorem LineM.reg {g : Nat} {w wr W : World} {lb cb r8 r9 base worn scr hand sx letter v : Nat} {hs : List Hand} {vh vsq vv vo : Value} {lts lts' : ByteArray} {lvs : List Value} {qs : List (List Light)} {vs : List Nat} {lv : Value} {ql : List Light}
    (h : LineM g w wr lb cb r8 r9 base worn scr hand hs vh vsq lts vv lvs qs vs lv ql) (hW : w.heap.size ≤ base) (hcb : w.heap.size ≤ cb)
    (hr : RegF wr cb sx base lts vv letter vo (vs.length + 1) ((vs.map fun (x : Nat) => Value.int .i64 x) ++ [.int .i64 v]) W) (h8 : r8 ≠ cb) (h9 : r9 ≠ cb) :
    LineM g w ((W.setCell ⟨cb, 1, none⟩ (.string lts')).setCell ⟨cb, 2, none⟩ vo) lb cb r8 r9 base worn scr hand hs vh vsq lts' vo lvs qs (vs ++ [v]) lv ql := by
  obtain ⟨b1, b2, b3, b4, hh, hu, hk, ho1, hl, ho2, hq, hb⟩ := h
  obtain ⟨_, hg, ho3⟩ := hr
  have hrow : ∀ (b : Nat) (t : TypeId) (cs : List Value), Blok wr b t cs → t ≠ 3 → vv.ownBlock ≠ some b := fun b t cs hb ht => own_ne_row ho2 hb (fun e => ht e.symm)
  have c2 := b2.grown hg (hrow _ _ _ b2 (by decide))
  have c2' := c2.put 1 (.string lts')
  have hu2 := hu.grown hg (hu.own_ne ho2 (by decide))
  have hgu : g ≠ cb := (hu2.ne c2 (by decide)).symm
  have hlb : lb ≠ cb := blok_ne b1 b2 (by decide)
  have hk2 := hk.grown hg fun j e => Nat.le_trans hW (ho2.lt j e).1
  have ho1' := ho1.kept hg (own_own ho1 ho2 (by decide))
  have ho3' : vo.ownBlock ≠ some cb := own_ne_row ho3 c2 (by decide)
  refine ⟨((b1.grown hg (hrow _ _ _ b1 (by decide))).far hlb _).far hlb _, c2'.put 2 vo, ((b3.grown hg (hrow _ _ _ b3 (by decide))).far h8 _).far h8 _, ((b4.grown hg (hrow _ _ _ b4 (by decide))).far h9 _).far h9 _, ?_, (hu2.far hgu _).far hgu _, (hk2.putNew hcb _).putNew hcb _, own_far (own_far ho1' (own_ne_row ho1' c2 (by decide)) _) (own_ne_row ho1' c2 (by decide)) _, ?_, ?_, ?_, ?_⟩
  · exact ((hh.grown hg fun b t cs hb ht => hrow b t cs hb (by rcases ht with rfl | rfl <;> decide)).far (p := ⟨cb, 1, none⟩) c2 (by decide) (by decide) _).far (p := ⟨cb, 2, none⟩) c2' (by decide) (by decide) _
  · exact ((hl.grown hg fun b cs hb => hrow b _ cs hb (by decide)).far (p := ⟨cb, 1, none⟩) c2 (by decide) _).far (p := ⟨cb, 2, none⟩) c2' (by decide) _
  · rw [List.length_append, List.map_append]
    exact own_far (own_far ho3 ho3' _) ho3' _
  · exact ((hq.grown hg fun b cs hb => hrow b _ cs hb (by decide)).far (p := ⟨cb, 1, none⟩) c2 (by decide) _).far (p := ⟨cb, 2, none⟩) c2' (by decide) _
  · have := hg.size
    simp [World.setCell]
    omega
theorem LineM.put {g : Nat} {w wr W : World} {lb cb r8 r9 base worn scr hand gg cap : Nat} {hs : List Hand} {vh vsq vv : Value} {lts : ByteArray} {lvs : List Value} {qs : List (List Light)} {ks vs : List Nat} {lv : Value} {ql : List Light} {o : Obj} {S : List Shape}
    (h : LineM g w wr lb cb r8 r9 base worn scr hand hs vh vsq lts vv lvs qs vs lv ql) (hW : w.heap.size ≤ base) (hlb : w.heap.size ≤ lb) (hg : (wr.alloc o).grownBy W vsq.ownBlock)
    (ho : W.ownsRow base 99 1 (.slice (some ⟨gg, 0, none⟩) (qs.length + 1) cap) (qs.length + 1) (lvs ++ [lv])) (h8 : r8 ≠ lb) (h9 : r9 ≠ lb) (hle : lts.data.toList = lettersAt S ks) (hp : SqOk worn scr S (qs ++ [ql]) ks vs) :
    LineI g w (W.setCell ⟨lb, 4, none⟩ (.slice (some ⟨gg, 0, none⟩) (qs.length + 1) cap)) lb cb r8 r9 base worn scr hand hs vh S (qs ++ [ql]) ks vs := by
  obtain ⟨b1, b2, b3, b4, hh, hu, hk, ho1, hl, ho2, hq, hb⟩ := h
  have hbel := (Below.refl wr.heap.size wr).alloc (Nat.le_refl _) o
  have ho1a := ho1.alloc o
  have hrow : ∀ (b : Nat) (t : TypeId) (cs : List Value), Blok (wr.alloc o) b t cs → t ≠ 99 → vsq.ownBlock ≠ some b := fun b t cs hb ht => own_ne_row ho1a hb (fun e => ht e.symm)
  have c1 := (b1.alloc o).grown hg (hrow _ _ _ (b1.alloc o) (by decide))
  have hu2 := (hu.alloc o).grown hg ((hu.alloc o).own_ne ho1a (by decide))
  have hgu : g ≠ lb := (hu2.ne c1 (by decide)).symm
  have hcb : cb ≠ lb := blok_ne b2 b1 (by decide)
  have hk2 := (hk.alloc o).grown hg fun j e => Nat.le_trans hW (ho1a.lt j e).1
  have ho2' := (ho2.alloc o).kept hg (own_own (ho2.alloc o) ho1a (by decide))
  refine ⟨_, vv, lts, lvs ++ [lv], c1.put 4 _, ((b2.alloc o).grown hg (hrow _ _ _ (b2.alloc o) (by decide))).far hcb _, ((b3.alloc o).grown hg (hrow _ _ _ (b3.alloc o) (by decide))).far h8 _, ((b4.alloc o).grown hg (hrow _ _ _ (b4.alloc o) (by decide))).far h9 _, ?_, hu2.far hgu _, hk2.putNew hlb _, ?_, ?_, own_far ho2' (own_ne_row ho2' c1 (by decide)) _, hle, hp, ?_⟩
  · exact ((hh.below hbel).grown hg fun b t cs hb ht => hrow b t cs hb (by rcases ht with rfl | rfl <;> decide)).far (p := ⟨lb, 4, none⟩) c1 (by decide) (by decide) _
  · rw [List.length_append]
    exact own_far ho (own_ne_row ho c1 (by decide)) _
  · have h1 := (hl.below hbel).grown hg fun b cs hb => hrow b _ cs hb (by decide)
    have h2 := (hq.below hbel).grown hg fun b cs hb => hrow b _ cs hb (by decide)
    exact (h1.snoc h2).far (p := ⟨lb, 4, none⟩) c1 (by decide) _
  · have := hg.size
    simp [World.setCell] at this ⊢
    omega
theorem info_lights : (Tryz.prog.info? 99).map (fun i => (i.zero, i.size, i.bytes)) = some (some (.slice none 0 0), 1, 24) := by kernel_rfl
theorem letters_snoc {lts : ByteArray} {S : List Shape} {ks : List Nat} {k : Nat} {s : Shape} (h : lts.data.toList = lettersAt S ks) (hs : S[k]? = some s) (b : ByteArray) (hb : b.data.toList = lts.data.toList ++ [UInt8.ofNat s.letter]) : b.data.toList = lettersAt S (ks ++ [k]) := by
  rw [hb, h]
  simp [lettersAt, List.getD, hs]
theorem nums_one (x : Nat) : (strOfNums [(x : Int)]).data.toList = [UInt8.ofNat x] := by simp [strOfNums]
theorem cat_short {worn scr : Nat} {lts : ByteArray} {S : List Shape} {qs : List (List Light)} {ks vs : List Nat} (h : lts.data.toList = lettersAt S ks) (hp : SqOk worn scr S qs ks vs) (x : Nat) (hq : qs.length ≤ 8) : ¬ 9223372036854775807 < lts.size + (strOfNums [(x : Int)]).size := by
  have h1 : lts.size = ks.length := by
    show lts.data.size = _
    rw [← Array.length_toList, h]
    simp [lettersAt]
  have h2 : (strOfNums [(x : Int)]).size = 1 := by
    show (strOfNums [(x : Int)]).data.size = _
    rw [← Array.length_toList, nums_one]
    rfl
  have := hp.1
  omega
theorem cat_letters (lts : ByteArray) (x : Nat) : (lts ++ strOfNums [(x : Int)]).data.toList = lts.data.toList ++ [UInt8.ofNat x] := by
  rw [← nums_one x, ByteArray.data_append, Array.toList_append]
end
section
open Go.RowKit Go.Shelf

/-- All blocks but those of a line's and a cut's own type are as they were. -/
def Tk (w w' : World) : Prop := ∀ (b : Nat) (t : TypeId) (cs : List Value), Blok w b t cs → t ≠ 51 → t ≠ 53 → Blok w' b t cs
theorem Tk.refl (w : World) : Tk w w := fun _ _ _ h _ _ => h
theorem Tk.put {w w' : World} (h : Tk w w') {p : Addr} {t : TypeId} {cs : List Value} (hb : Blok w' p.block t cs) (ht : t = 51 ∨ t = 53) (u : Value) : Tk w (w'.setCell p u) := fun b t' cs' h0 h1 h2 => by
  have hne : t' ≠ t := by rcases ht with rfl | rfl <;> assumption
  exact (h b t' cs' h0 h1 h2).far (blok_ne (h b t' cs' h0 h1 h2) hb hne) u
theorem ShapesB.tk {w w' : World} {v : Value} {S : List Shape} (h : ShapesB w v S) (hk : Tk w w') : ShapesB w' v S := by
  obtain ⟨b, c, cur, e, hb, ht⟩ := h
  exact ⟨b, c, cur, e, hk _ _ _ hb (by decide) (by decide), ht⟩
theorem HandsB.tk {w w' : World} {v : Value} {hs : List Hand} (h : HandsB w v hs) (hk : Tk w w') : HandsB w' v hs := by
  obtain ⟨b, c, cur, svs, e, hb, ht, hS⟩ := h
  exact ⟨b, c, cur, svs, e, hk _ _ _ hb (by decide) (by decide), ht, hS.1, fun k a sv h1 h2 => (hS.2 k a sv h1 h2).tk hk⟩
theorem HandsN.tk {B : Nat} {w w' : World} {v : Value} {hs : List Hand} (h : HandsN B w v hs) (hk : Tk w w') : HandsN B w' v hs := by
  obtain ⟨b, c, cur, svs, e, hb, ht, ⟨hS, hN⟩, hB⟩ := h
  exact ⟨b, c, cur, svs, e, hk _ _ _ hb (by decide) (by decide), ht, ⟨⟨hS.1, fun k a sv h1 h2 => (hS.2 k a sv h1 h2).tk hk⟩, hN⟩, hB⟩
theorem LightsB.tk {w w' : World} {v : Value} {q : List Light} (h : LightsB w v q) (hk : Tk w w') : LightsB w' v q := by
  rcases h with h | ⟨b, c, cur, e, hb, ht⟩
  · exact .inl h
  · exact .inr ⟨b, c, cur, e, hk _ _ _ hb (by decide) (by decide), ht⟩
theorem SquaresB.tk {w w' : World} {v : Value} {qs : List (List Light)} (h : SquaresB w v qs) (hk : Tk w w') : SquaresB w' v qs := by
  obtain ⟨b, c, cur, lvs, e, hb, ht, hS⟩ := h
  exact ⟨b, c, cur, lvs, e, hk _ _ _ hb (by decide) (by decide), ht, hS.1, fun k q v h1 h2 => (hS.2 k q v h1 h2).tk hk⟩
theorem IntsB.of_own {w : World} {base n : Nat} {v : Value} {l : List Nat} (h : w.ownsRow base 3 1 v n (l.map fun (x : Nat) => Value.int .i64 x)) (hn : n = l.length) (h0 : 0 < n) : IntsB w v l := by
  rcases h.2 with ⟨_, h1⟩ | ⟨g, cap, cur, rfl, hbg, hg, hcap, _, hsz, htake⟩
  · omega
  · refine ⟨g, cap, cur.toList, by rw [hn], by unfold Blok; rw [hg], ?_⟩
    rw [← hn, ← htake, Nat.mul_one]
theorem SquaresN.tk {B : Nat} {w w' : World} {v : Value} {qs : List (List Light)} (h : SquaresN B w v qs) (hk : Tk w w') : SquaresN B w' v qs := by
  obtain ⟨b, c, cur, lvs, e, hb, ht, hS, hN⟩ := h
  exact ⟨b, c, cur, lvs, e, hk _ _ _ hb (by decide) (by decide), ht, ⟨hS.1, fun k q v h1 h2 => (hS.2 k q v h1 h2).tk hk⟩, hN⟩
theorem IntsB.tk {w w' : World} {v : Value} {l : List Nat} (h : IntsB w v l) (hk : Tk w w') : IntsB w' v l := by
  obtain ⟨b, c, cur, e, hb, ht⟩ := h
  exact ⟨b, c, cur, e, hk _ _ _ hb (by decide) (by decide), ht⟩
theorem UrnAt.tk {w w' : World} {g : Nat} (h : UrnAt w g) (hk : Tk w w') : UrnAt w' g := by
  obtain ⟨x, y, h⟩ := h
  exact ⟨x, y, hk _ _ _ h (by decide) (by decide)⟩
theorem line_post {g hm sm qm : Nat} {w wr W : World} {base worn scr hand T : Nat} {hs : List Hand} {vh vsq vv : Value} {lts : ByteArray} {lvs : List Value} {S : List Shape} {qs : List (List Light)} {ks vs : List Nat} {H : Hand}
    (hh : HandsN w.heap.size wr vh hs) (hu : UrnAt wr g) (ho1 : wr.ownsRow base 99 1 vsq qs.length lvs) (hl : SqN w.heap.size wr qs lvs) (ho2 : wr.ownsRow base 3 1 vv vs.length (vs.map fun (x : Nat) => Value.int .i64 x))
    (hle : lts.data.toList = lettersAt S ks) (hp : SqOk worn scr S qs ks vs) (hT : Tk wr W) (hK : Kg g w W) (hH : hs[hand]? = some H) (hS : S = H.shapes) (hok : ∀ h ∈ hs, h.ok ∧ h.shapes.length ≤ sm ∧ ∀ s ∈ h.shapes, s.strokes < 32)
    (hm1 : marksTo S ks vs qs.length ≤ T) (hT40 : T ≤ 40) (hq1 : 1 ≤ qs.length) (hqm : qs.length ≤ qm) (q8 : qm ≤ 8) (hhm : hs.length ≤ hm) (h4 : hm ≤ 4) (hw : worn ≤ 2) (hs2 : scr ≤ 2) (hbase : w.heap.size ≤ base) :
    LinePost g hm sm qm w (.returned (.tuple #[.agg #[vh, .int .i64 worn, .int .i64 scr, .int .i64 T, vsq], .agg #[.int .i64 hand, .string lts, vv]])) W := by
  subst hS
  have hh0 : hand < hs.length := (List.getElem?_eq_some_iff.1 hH).1
  have hvl := hp.2.1
  refine ⟨⟨hs, worn, scr, T, qs⟩, _, vv, hand, ks, vs, lts, H, rfl, ⟨vh, vsq, rfl, hh.toB.tk hT, (SquaresB.of_own ho1 rfl hq1 hl.1).tk hT⟩, ⟨by simp; omega, by simp; omega, fun h hm => (hok h hm).1, by simp; omega, by simp; omega, by simp; omega, hq1, by simp; omega, fun q hq => hp.2.2.2 q hq⟩, hhm, fun h hm => (hok h hm).2, hqm, ⟨hh0, hp.1, hp.2.1, fun i H' q k v h1 h2 h3 h4 => ?_⟩, hH, hm1, hle, (IntsB.of_own ho2 rfl (by omega)).tk hT, fun b n c x0 x1 x2 x3 e => ?_, hu.tk hT, hK⟩
  · have h1 : hs[hand]? = some H' := h1
    rw [hH] at h1
    injection h1 with h1
    subst h1
    exact hp.2.2.1 i q k v h2 h3 h4
  · have e5 : vsq = .slice (some ⟨b, 0, none⟩) n c := by
      injection e with e
      injection e with e
      simp only [List.cons.injEq] at e
      exact e.2.2.2.2.1
    subst e5
    refine ⟨Nat.le_trans hbase (ho1.lt b rfl).1, own_cap ho1 _ _ _ rfl, ?_, (SquaresN.of_own ho1 rfl hq1 hl).tk hT⟩
    have e0 : vh = x0 := by
      injection e with e
      injection e with e
      simp only [List.cons.injEq] at e
      exact e.1
    subst e0
    exact hh.tk hT
section
variable {w : World} {b : Nat} {t : TypeId} {a0 a1 a2 a3 a4 x0 x1 x2 x3 x4 : Value}
/-- Five cells stored one after the other, and three. -/
def put5 (w : World) (b : Nat) (x0 x1 x2 x3 x4 : Value) : World := ((((w.setCell ⟨b, 0, none⟩ x0).setCell ⟨b, 1, none⟩ x1).setCell ⟨b, 2, none⟩ x2).setCell ⟨b, 3, none⟩ x3).setCell ⟨b, 4, none⟩ x4
def put3 (w : World) (b : Nat) (x0 x1 x2 : Value) : World := ((w.setCell ⟨b, 0, none⟩ x0).setCell ⟨b, 1, none⟩ x1).setCell ⟨b, 2, none⟩ x2
theorem Blok.put5 (h : Blok w b t [a0, a1, a2, a3, a4]) (x0 x1 x2 x3 x4 : Value) : Blok (put5 w b x0 x1 x2 x3 x4) b t [x0, x1, x2, x3, x4] := ((((h.put 0 x0).put 1 x1).put 2 x2).put 3 x3).put 4 x4
theorem Blok.put3 (h : Blok w b t [a0, a1, a2]) (x0 x1 x2 : Value) : Blok (put3 w b x0 x1 x2) b t [x0, x1, x2] := ((h.put 0 x0).put 1 x1).put 2 x2
theorem Blok.far5 {k : Nat} {t' : TypeId} {cs : List Value} (h : Blok w k t' cs) (hne : k ≠ b) (x0 x1 x2 x3 x4 : Value) : Blok (Go.Proofs.YtmfjfjahemlhkaaGreat.Sg.put5 w b x0 x1 x2 x3 x4) k t' cs := ((((h.far hne _).far hne _).far hne _).far hne _).far hne _
theorem Blok.far3 {k : Nat} {t' : TypeId} {cs : List Value} (h : Blok w k t' cs) (hne : k ≠ b) (x0 x1 x2 : Value) : Blok (Go.Proofs.YtmfjfjahemlhkaaGreat.Sg.put3 w b x0 x1 x2) k t' cs := ((h.far hne _).far hne _).far hne _
theorem Tk.put5 {v : World} (hk : Tk v w) (h : Blok w b t [a0, a1, a2, a3, a4]) (ht : t = 51 ∨ t = 53) (x0 x1 x2 x3 x4 : Value) : Tk v (Go.Proofs.YtmfjfjahemlhkaaGreat.Sg.put5 w b x0 x1 x2 x3 x4) :=
  ((((hk.put (p := ⟨b, 0, none⟩) h ht x0).put (p := ⟨b, 1, none⟩) (h.put 0 x0) ht x1).put (p := ⟨b, 2, none⟩) ((h.put 0 x0).put 1 x1) ht x2).put (p := ⟨b, 3, none⟩) (((h.put 0 x0).put 1 x1).put 2 x2) ht x3).put (p := ⟨b, 4, none⟩) ((((h.put 0 x0).put 1 x1).put 2 x2).put 3 x3) ht x4
theorem Tk.put3 {v : World} (hk : Tk v w) (h : Blok w b t [a0, a1, a2]) (ht : t = 51 ∨ t = 53) (x0 x1 x2 : Value) : Tk v (Go.Proofs.YtmfjfjahemlhkaaGreat.Sg.put3 w b x0 x1 x2) :=
  ((hk.put (p := ⟨b, 0, none⟩) h ht x0).put (p := ⟨b, 1, none⟩) (h.put 0 x0) ht x1).put (p := ⟨b, 2, none⟩) ((h.put 0 x0).put 1 x1) ht x2
theorem Kg.put5 {g : Nat} {v : World} (hk : Kg g v w) (hb : v.heap.size ≤ b) (x0 x1 x2 x3 x4 : Value) : Kg g v (Go.Proofs.YtmfjfjahemlhkaaGreat.Sg.put5 w b x0 x1 x2 x3 x4) := ((((hk.putNew hb _).putNew hb _).putNew hb _).putNew hb _).putNew hb _
theorem Kg.put3 {g : Nat} {v : World} (hk : Kg g v w) (hb : v.heap.size ≤ b) (x0 x1 x2 : Value) : Kg g v (Go.Proofs.YtmfjfjahemlhkaaGreat.Sg.put3 w b x0 x1 x2) := ((hk.putNew hb _).putNew hb _).putNew hb _
end
theorem Tk.drew {w w' : World} (h : Tk w w') : Tk w w'.drew := h
theorem Blok.drew {w : World} {g : Nat} {t : TypeId} {cs : List Value} (h : Blok w g t cs) : Blok w.drew g t cs := h
theorem results_cell_row2 {P : Program} {fn : Func} {p q : Tmp} {tp tq : TypeId} (h : fn.results = #[.cell p tp, .cell q tq]) (tmps : Array Value) (w : World) (g g' : Nat) (t t' : TypeId) (cs cs' : List Value) (d d' : TypeDesc)
    (hp : tmps.getD p undef = .pointer (some ⟨g, 0, none⟩)) (hq : tmps.getD q undef = .pointer (some ⟨g', 0, none⟩)) (hg : Blok w g t cs) (hg' : Blok w g' t' cs')
    (hu : P.underlying tp = some d) (hu' : P.underlying tq = some d') (hd : (match d with | .struct _ | .array _ _ => true | _ => false) = true) (hd' : (match d' with | .struct _ | .array _ _ => true | _ => false) = true)
    (hi : (P.info? tp).map (·.size) = some cs.toArray.size) (hi' : (P.info? tq).map (·.size) = some cs'.toArray.size) :
    (results fn tmps).run P w = .ok (.tuple #[.agg cs.toArray, .agg cs'.toArray]) w := by
  have hp' : tmps[p]?.getD undef = .pointer (some ⟨g, 0, none⟩) := by simpa using hp
  have hq' : tmps[q]?.getD undef = .pointer (some ⟨g', 0, none⟩) := by simpa using hq
  simp [results, h, hp', hq', asAddr, run_loadVar_row w g t tp cs.toArray (0, 0) d hg hu hd hi, run_loadVar_row w g' t' tq cs'.toArray (0, 0) d' hg' hu' hd' hi']
end
end
end Go.Proofs.YtmfjfjahemlhkaaGreat.Sg
