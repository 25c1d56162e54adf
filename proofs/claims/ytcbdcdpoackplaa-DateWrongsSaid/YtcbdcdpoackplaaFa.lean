/- Frames: the blocks that lay there are as they were, but one. The urn: each of its calls draws some number, and writes the urn alone. A new urn, of any list of numbers. -/
import Derived.Test.YtcbdcdpoackplaaLa
import Derived.RangeFuncWrites
import Derived.RangeFuncBox
import Derived.OneCell
import Derived.Deep.AppendLies
import Derived.Deep.RegionLaw
import Derived.LoopTactic
import Derived.RegionTactic
namespace Go.Proofs.Ytcbdcdpoackplaa
section
open Go.RowKit
/-- Some blocks of the world are as they were. -/
structure Keep (p : Nat → Prop) (w w' : World) : Prop where
  os : w'.os = w.os
  tape : w'.tape = w.tape
  output : w'.output = w.output
  size : w.heap.size ≤ w'.heap.size
  block : ∀ k, p k → w'.heap[k]? = w.heap[k]?
theorem Keep.refl (p : Nat → Prop) (w : World) : Keep p w w := ⟨rfl, rfl, rfl, Nat.le_refl _, fun _ _ => rfl⟩
theorem Keep.trans {p : Nat → Prop} {a b c : World} (h : Keep p a b) (k : Keep p b c) : Keep p a c :=
  ⟨k.os.trans h.os, k.tape.trans h.tape, k.output.trans h.output, Nat.le_trans h.size k.size, fun i hi => (k.block i hi).trans (h.block i hi)⟩
theorem Keep.cell {p : Nat → Prop} {w w' : World} (h : Keep p w w') {b o : Nat} (hb : p b) : w'.cell? ⟨b, o, none⟩ = w.cell? ⟨b, o, none⟩ := by
  simp [World.cell?, h.block b hb]
theorem Keep.blok {p : Nat → Prop} {w w' : World} (h : Keep p w w') {g : Nat} {t : TypeId} {cs : List Value} (hb : Blok w g t cs) (hg : p g) : Blok w' g t cs := (h.block g hg).trans hb
theorem Keep.same {p : Nat → Prop} {w w' : World} (h : Keep p w w') {B : Nat} (hB : ∀ k, k < B → p k) : Same B w w' := fun _ _ hb => h.cell (hB _ hb)
theorem Keep.of_grown {p : Nat → Prop} {w w' : World} {row : Option Nat} (hg : w.grownBy w' row) (hp : ∀ k, p k → k < w.heap.size) (hr : ∀ r, row = some r → ¬ p r) : Keep p w w' :=
  ⟨hg.os, hg.tape, hg.output, hg.size, fun k hk => hg.block k (hp k hk) (fun e => hr k e.symm hk)⟩
theorem Keep.below {p : Nat → Prop} {B : Nat} {w w' : World} (h : Keep p w w') (hB : ∀ k, k < B → p k) : Below B w w' := ⟨h.os, h.tape, h.output, h.size, fun k hk => h.block k (hB k hk)⟩
theorem Blok.grown {w w' : World} {g : Nat} {t : TypeId} {cs : List Value} {row : Option Nat} (h : Blok w g t cs) (hg : w.grownBy w' row) (hr : row ≠ some g) : Blok w' g t cs := (hg.block g h.size (fun e => hr e.symm)).trans h
theorem own_ne {w : World} {base : Nat} {e t : TypeId} {size n g : Nat} {v : Value} {xs cs : List Value} (h : w.ownsRow base e size v n xs) (hb : Blok w g t cs) (hne : e ≠ t) : v.ownBlock ≠ some g := by
  rcases h.2 with ⟨rfl, _⟩ | ⟨g', cap, cur, rfl, _, hh, _⟩
  · simp [Value.ownBlock]
  · intro he
    have e1 : g' = g := by simpa [Value.ownBlock] using he
    subst e1
    unfold Blok at hb
    rw [hh] at hb
    injection hb with hb
    injection hb with _ ht
    exact hne ht
/-- A loop that collects: what its round may be handed. -/
theorem own_slice {w : World} {base n size : Nat} {e : TypeId} {v : Value} {xs : List Value} (h : w.ownsRow base e size v n xs) : ∃ A c, v = .slice A n c := by
  rcases h.2 with ⟨rfl, h0⟩ | ⟨g, cap, cur, rfl, _⟩
  · exact ⟨none, 0, by rw [h0]⟩
  · exact ⟨_, _, rfl⟩
theorem own_far {w : World} {base n size : Nat} {e : TypeId} {v : Value} {xs : List Value} (h : w.ownsRow base e size v n xs) {p : Addr} (hp : v.ownBlock ≠ some p.block) (u : Value) : (w.setCell p u).ownsRow base e size v n xs := by
  obtain ⟨h1, h2⟩ := h
  refine ⟨h1, ?_⟩
  rcases h2 with h2 | ⟨r, cap, cur, e1, e2, e3, e4⟩
  · exact .inl h2
  · subst e1
    refine .inr ⟨r, cap, cur, rfl, e2, (Below.heap_setCell w p u r ?_).trans e3, e4⟩
    rintro rfl
    exact hp rfl
end
section
open Go.RowKit

/-- All blocks that lay there are as they were, but g. -/
def Kg (g : Nat) (w w' : World) : Prop := Keep (fun k => k < w.heap.size ∧ k ≠ g) w w'
section
variable {g : Nat} {a b c w w' : World}
theorem Kg.refl (g : Nat) (w : World) : Kg g w w := Keep.refl _ w
theorem Kg.size (h : Kg g a b) : a.heap.size ≤ b.heap.size := Keep.size h
theorem Kg.heap (h : Kg g a b) {k : Nat} (hk : k < a.heap.size) (hg : k ≠ g) : b.heap[k]? = a.heap[k]? := h.block k ⟨hk, hg⟩
theorem Kg.trans (h : Kg g a b) (k : Kg g b c) : Kg g a c :=
  ⟨k.os.trans h.os, k.tape.trans h.tape, k.output.trans h.output, Nat.le_trans h.size k.size, fun _ hi => (k.heap (Nat.lt_of_lt_of_le hi.1 h.size) hi.2).trans (h.heap hi.1 hi.2)⟩
theorem Kg.of_below (h : Below a.heap.size a b) : Kg g a b := ⟨h.os, h.tape, h.output, h.size, fun k hk => h.block k hk.1⟩
theorem Kg.below {B : Nat} (h : Kg g a b) (hB : B ≤ a.heap.size) (hg : B ≤ g) : Below B a b := ⟨h.os, h.tape, h.output, h.size, fun k hk => h.heap (by omega) (by omega)⟩
theorem Kg.alloc (h : Kg g a b) (o : Obj) : Kg g a (b.alloc o) := h.trans (Kg.of_below ((Below.refl _ _).alloc (Nat.le_refl _) _))
theorem Kg.drewN (h : Kg g a b) (n : Nat) : Kg g a (b.drewN n) := h.trans (Kg.of_below (below_drewN (Below.refl _ _) n))
theorem Kg.drew (h : Kg g a b) : Kg g a b.drew := h.trans (Kg.of_below (Below.refl _ _).drew)
theorem Kg.put (h : Kg g a b) (i : Nat) (u : Value) : Kg g a (b.setCell ⟨g, i, none⟩ u) :=
  h.trans ⟨rfl, rfl, rfl, by simp [World.setCell], fun k hk => Below.heap_setCell _ _ _ _ hk.2⟩
theorem Kg.putNew (h : Kg g a b) {p : Addr} (hp : a.heap.size ≤ p.block) (u : Value) : Kg g a (b.setCell p u) :=
  ⟨h.os, h.tape, h.output, by simp [World.setCell]; exact h.size, fun k hk => (Below.heap_setCell _ _ _ _ (by omega)).trans (h.heap hk.1 hk.2)⟩
theorem Kg.grown {row : Option Nat} (h : Kg g a b) (hg : b.grownBy w' row) (hr : ∀ k, row = some k → a.heap.size ≤ k) : Kg g a w' :=
  ⟨hg.os.trans h.os, hg.tape.trans h.tape, hg.output.trans h.output, Nat.le_trans h.size hg.size, fun k hk => (hg.block k (Nat.lt_of_lt_of_le hk.1 h.size) (fun e => by have := hr k e.symm; omega)).trans (h.heap hk.1 hk.2)⟩
theorem Blok.kg {t : TypeId} {cs : List Value} {k : Nat} (h : Blok a k t cs) (hk : Kg g a b) (hne : k ≠ g) : Blok b k t cs := (hk.heap h.size hne).trans h
end
/-- The urn at block g. -/
def UrnAt (w : World) (g : Nat) : Prop := ∃ x y : Int, Blok w g 66 [.int .u64 x, .int .u64 y]
theorem UrnAt.size {w : World} {g : Nat} (h : UrnAt w g) : g < w.heap.size := by obtain ⟨x, y, h⟩ := h; exact h.size
theorem UrnAt.ne {w : World} {g k : Nat} {t : TypeId} {cs : List Value} (h : UrnAt w g) (hb : Blok w k t cs) (ht : t ≠ 66) : k ≠ g := by
  rintro rfl
  obtain ⟨x, y, h⟩ := h
  have h2 : some (Obj.cells cs.toArray t (0, 0)) = some (Obj.cells [.int .u64 x, .int .u64 y].toArray 66 (0, 0)) := hb.symm.trans h
  injection h2 with h2
  injection h2 with _ h2
  exact ht h2
theorem UrnAt.keep {w w' : World} {g B : Nat} (h : UrnAt w g) (hb : Below B w w') (hg : g < B) : UrnAt w' g := by
  obtain ⟨x, y, h⟩ := h
  exact ⟨x, y, h.below hb hg⟩
theorem UrnAt.alloc {w : World} {g : Nat} (h : UrnAt w g) (o : Obj) : UrnAt (w.alloc o) g := by
  obtain ⟨x, y, h⟩ := h
  exact ⟨x, y, h.alloc o⟩
theorem UrnAt.drewN {w : World} {g : Nat} (h : UrnAt w g) (n : Nat) : UrnAt (w.drewN n) g := h
theorem UrnAt.grown {w w' : World} {g : Nat} {row : Option Nat} (h : UrnAt w g) (hg : w.grownBy w' row) (hr : row ≠ some g) : UrnAt w' g := by
  obtain ⟨x, y, h⟩ := h
  exact ⟨x, y, h.grown hg hr⟩
/-- What a call of the urn comes to: a number, and the urn has gone on. -/
def Drawn (g : Nat) (w : World) (P : Value → Prop) (e : Ending) (w' : World) : Prop := ∃ v, e = .returned v ∧ P v ∧ UrnAt w' g ∧ Kg g w w'
end
section
open Go.RowKit

/-- The urn's own step. -/
def TurnPost (g : Nat) (w : World) (e : Ending) (w' : World) : Prop := ∃ t : Nat, e = .returned (.int .u64 t) ∧ t < 18446744073709551616 ∧ UrnAt w' g ∧ Kg g w w'
theorem wrap_u64_nat (x : Int) : ∃ t : Nat, IntKind.u64.wrap x = t ∧ t < 18446744073709551616 := by
  refine ⟨(IntKind.u64.wrap x).toNat, ?_, ?_⟩ <;> rw [IntKind.wrap_u64] <;> omega
set_option maxHeartbeats 1000000 in
theorem turn_any (g : Nat) (w : World) (hu : UrnAt w g) : Calls Try.prog 35 #[.pointer (some ⟨g, 0, none⟩)] w (TurnPost g w) := by
  obtain ⟨x, y, hb⟩ := hu
  have c0 : w.cell? ⟨g, 0, none⟩ = some (.int .u64 x) := hb.cell 0
  have c1 : w.cell? ⟨g, 1, none⟩ = some (.int .u64 y) := hb.cell 1
  have f0 := hb.free 0
  have f1 := hb.free 1
  have hz := hb.size
  go_enter Try.func35, Try.ntmps35
  go_wp2
  go_quiet (fail)
  go_wp2
  generalize bits .xor .u64 (bits .xor .u64 (bits .xor .u64 (bits .xor .u64 x (IntKind.u64.wrap (x * 8388608))) y) (bits .xor .u64 x (IntKind.u64.wrap (x * 8388608)) / 131072)) (y / 67108864) = z
  generalize bits .xor .u64 x (IntKind.u64.wrap (x * 8388608)) = x'
  have hk1 : Kg g w (((w.drewN nq).setCell ⟨g, 0, none⟩ (.int .u64 y)).setCell ⟨g, 1, none⟩ (.int .u64 z)) := (((Kg.refl g w).drewN nq).put 0 _).put 1 _
  have hb1 : Blok (((w.drewN nq).setCell ⟨g, 0, none⟩ (.int .u64 y)).setCell ⟨g, 1, none⟩ (.int .u64 z)) g 66 [.int .u64 y, .int .u64 z] := ((hb.drewN nq).put 0 _).put 1 _
  obtain ⟨W, hW⟩ : ∃ W, W = ((w.drewN nq).setCell ⟨g, 0, none⟩ (.int .u64 y)).setCell ⟨g, 1, none⟩ (.int .u64 z) := ⟨_, rfl⟩
  rw [← hW] at hk1 hb1 ⊢
  have HK := Lib.hid hk1
  have HB := Lib.hid hb1
  clear hW c0 c1 f0 f1 hz hk1 hb
  have c0 : W.cell? ⟨g, 0, none⟩ = some (.int .u64 y) := hb1.cell 0
  have c1 : W.cell? ⟨g, 1, none⟩ = some (.int .u64 z) := hb1.cell 1
  have f1 := hb1.free 1
  clear hb1
  by_cases h0 : (bits .or .u64 y z == 0) = true
  · go_quiet (fail)
    have e1 : (((W.drewN nq).setCell ⟨g, 1, none⟩ (.int .u64 1))).cell? ⟨g, 1, none⟩ = some (.int .u64 1) := ((HB.out.drewN _).put 1 _).cell 1
    go_wp2
    obtain ⟨t, ht, hlt⟩ := wrap_u64_nat (1 + y)
    rw [ht]
    go_ret
    exact ⟨t, rfl, hlt, ⟨_, _, (HB.out.drewN _).put 1 _⟩, (HK.out.drewN _).put 1 _⟩
  · have h0' : (bits .or .u64 y z == 0) = false := by simpa using h0
    clear h0
    go_quiet (fail)
    go_wp2
    obtain ⟨t, ht, hlt⟩ := wrap_u64_nat (z + y)
    rw [ht]
    go_ret
    exact ⟨t, rfl, hlt, ⟨_, _, HB.out.drewN _⟩, HK.out.drewN _⟩
theorem up_val (t m : Nat) (hm : m ≤ 9223372036854775807) (h1 : 0 < m) : wrap64 ((t : Int) / 2048 % (m : Int)) = ((t / 2048 % m : Nat) : Int) := by
  have h : t / 2048 % m < m := Nat.mod_lt _ h1
  have e : (t : Int) / 2048 % (m : Int) = ((t / 2048 % m : Nat) : Int) := by simp
  rw [e]
  unfold wrap64
  omega
/-- Up: a number below n, or 0. -/
def UpPost (g : Nat) (n : Int) (w : World) (e : Ending) (w' : World) : Prop := ∃ r : Nat, e = .returned (.int .i64 r) ∧ (r : Int) < max n 1 ∧ UrnAt w' g ∧ Kg g w w'
set_option maxHeartbeats 1000000 in
theorem up_any (g : Nat) (n : Int) (w : World) (hn : n ≤ 9223372036854775807) (hu : UrnAt w g) : Calls Try.prog 16 #[.pointer (some ⟨g, 0, none⟩), .int .i64 n] w (UpPost g n w) := by
  by_cases h2 : n < 2
  · have HU := Lib.hid hu
    clear hu
    have hfin : UpPost g n w (.returned (.int .i64 0)) w := ⟨0, rfl, by omega, HU.out, Kg.refl _ _⟩
    have HF := Lib.hid hfin
    clear hfin
    go_enter Try.func16, Try.ntmps16
    go_wp2
    go_ret
    exact HF.out
  · obtain ⟨m, rfl⟩ := Int.eq_ofNat_of_zero_le (show 0 ≤ n by omega)
    have HU := Lib.hid hu
    clear hu
    go_enter Try.func16, Try.ntmps16
    go_wp2_with (go_at_call 35; refine (turn_any _ _ HU.out).mono ?_; rintro e w1 ⟨t, rfl, ht, hu1, hk1⟩; have HU1 := Lib.hid hu1; have HK1 := Lib.hid hk1; clear hu1 hk1)
    go_ret
    have hm : t / 2048 % m < m := Nat.mod_lt _ (by omega)
    refine ⟨t / 2048 % m, ret_int (up_val t m (by omega) (by omega)), by omega, HU1.out, HK1.out⟩
/-- From: a number from low to high. -/
def FromPost (g : Nat) (lo hi : Int) (w : World) (e : Ending) (w' : World) : Prop := ∃ r : Int, e = .returned (.int .i64 r) ∧ lo ≤ r ∧ r ≤ max lo hi ∧ UrnAt w' g ∧ Kg g w w'
set_option maxHeartbeats 1000000 in
theorem from_any (g : Nat) (lo hi : Int) (w : World) (h1 : -100000 ≤ lo) (h2 : lo ≤ 100000) (h3 : -100000 ≤ hi) (h4 : hi ≤ 100000) (hu : UrnAt w g) : Calls Try.prog 15 #[.pointer (some ⟨g, 0, none⟩), .int .i64 lo, .int .i64 hi] w (FromPost g lo hi w) := by
  have HU := Lib.hid hu
  clear hu
  go_enter Try.func15, Try.ntmps15
  go_wp2_with (go_at_call 16; refine (up_any _ _ _ (by omega) HU.out).mono ?_; rintro e w1 ⟨r, rfl, hr, hu1, hk1⟩; have HU1 := Lib.hid hu1; have HK1 := Lib.hid hk1; clear hu1 hk1; have hr2 : (r : Int) ≤ 200000 := by omega)
  go_ret
  exact ⟨lo + r, rfl, by omega, by omega, HU1.out, HK1.out⟩
def OddsPost (g : Nat) (w : World) (e : Ending) (w' : World) : Prop := ∃ b : Bool, e = .returned (.bool b) ∧ UrnAt w' g ∧ Kg g w w'
set_option maxHeartbeats 1000000 in
theorem odds_any (g : Nat) (n m : Int) (w : World) (h4 : m ≤ 100000) (hu : UrnAt w g) : Calls Try.prog 30 #[.pointer (some ⟨g, 0, none⟩), .int .i64 n, .int .i64 m] w (OddsPost g w) := by
  have HU := Lib.hid hu
  clear hu
  go_enter Try.func30, Try.ntmps30
  go_wp2_with (go_at_call 16; refine (up_any _ _ _ (by omega) HU.out).mono ?_; rintro e w1 ⟨r, rfl, hr, hu1, hk1⟩; have HU1 := Lib.hid hu1; have HK1 := Lib.hid hk1; clear hu1 hk1)
  go_ret
  exact ⟨_, rfl, HU1.out, HK1.out⟩
def AnyPost (g : Nat) (l : List Int) (w : World) (e : Ending) (w' : World) : Prop := ∃ x : Int, e = .returned (.int .i64 x) ∧ x ∈ l ∧ UrnAt w' g ∧ Kg g w w'
set_option maxHeartbeats 1000000 in
theorem any_any (g b n c : Nat) (t : TypeId) (l : List Int) (w : World) (hn : n = l.length) (h1 : 1 ≤ l.length) (h2 : l.length ≤ 100) (hb : Blok w b t (l.map fun x => Value.int .i64 x)) (hne : b ≠ g) (hu : UrnAt w g) :
    Calls Try.prog 11 #[.pointer (some ⟨g, 0, none⟩), .slice (some ⟨b, 0, none⟩) n c] w (AnyPost g l w) := by
  have HU := Lib.hid hu
  have HB := Lib.hid hb
  have HN := Lib.hid hn
  have hn1 : 1 ≤ n := by omega
  have hn2 : n ≤ 100 := by omega
  have h0 : ((n : Int) == 0) = false := by simp; omega
  clear hu hb hn
  go_enter Try.func11, Try.ntmps11
  go_wp2_with (go_at_call 16; refine (up_any _ _ _ (by omega) HU.out).mono ?_; rintro e w1 ⟨r, rfl, hr, hu1, hk1⟩; have hr1 : r < n := (by omega); have hrl : r < l.length := (by rw [← HN.out]; exact hr1); have hc : w1.cell? ⟨b, r, none⟩ = some (.int .i64 l[r]) := (by rw [(HB.out.kg hk1 hne).cell]; simp [hrl]); have HU1 := Lib.hid hu1; have HK1 := Lib.hid hk1; clear hu1 hk1 hr)
  go_ret
  exact ⟨_, rfl, List.getElem_mem hrl, HU1.out, HK1.out⟩
end
section
open Go.RowKit

/-- A slice of numbers that came in. -/
def NumRow (w : World) (a : Option Addr) (len : Nat) : Prop := len ≤ maxLen ∧ (0 < len → ∃ x : Addr, a = some x ∧ ∀ i, i < len → ∃ n : Int, w.cell? (x.add i) = some (.int .i64 n))
def NewPost (w : World) (e : Ending) (w' : World) : Prop := e = .returned (.pointer (some ⟨w.heap.size, 0, none⟩)) ∧ UrnAt w' w.heap.size ∧ Below w.heap.size w w'
set_option maxHeartbeats 1000000 in
theorem newUrn_any (a : Option Addr) (len cap : Nat) (w : World) (hr : NumRow w a len) : Calls Try.prog 9 #[.slice a len cap] w (NewPost w) := by
  obtain ⟨hm, hr⟩ := hr
  unfold maxLen at hm
  have HR := Lib.hid hr
  clear hr
  go_enter Try.func9, Try.ntmps9
  go_wp2
  go_loopw [4] (fun i wr => ∃ k : Nat, k ≤ len ∧ i = .int .i64 k ∧ UrnAt wr w.heap.size ∧ Below w.heap.size w wr) (fun i _ => len - (intOf i).toNat)
  case atStart => exact ⟨0, by omega, rfl, ⟨_, _, Blok.new w _ _⟩, (Below.refl _ _).alloc (Nat.le_refl _) _⟩
  case round =>
    obtain ⟨k, hk, rfl, hu, hb⟩ := hrel
    by_cases hlt : k < len
    · obtain ⟨⟨b, o, sp⟩, rfl, hx⟩ := HR.out (by omega)
      obtain ⟨n, hc⟩ := hx k hlt
      have hl := World.block_lt_of_cell? w _ hc
      have hc2 := (hb.cell hl).trans hc
      obtain ⟨p, q, hbl⟩ := hu
      have c1 : wr.cell? ⟨w.heap.size, 1, none⟩ = some (.int .u64 q) := hbl.cell 1
      have f1 := hbl.free 1
      have hz := hbl.size
      have HBL := Lib.hid hbl
      have HB := Lib.hid hb
      clear hx hc hbl hb
      go_wp2
      go_region
      go_wp2_with fail
      refine (turn_any _ _ ?_).mono ?_
      · exact ⟨_, _, HBL.out.put 1 _⟩
      rintro e w1 ⟨t1, rfl, ht1, hu1, hk1⟩
      have HK1 := Lib.hid hk1
      clear ht1 hk1
      go_wp2_with fail
      refine (turn_any _ _ hu1).mono ?_
      rintro e w2 ⟨t2, rfl, ht2, hu2, hk2⟩
      have HK2 := Lib.hid (HK1.out.trans hk2)
      have HU2 := Lib.hid hu2
      clear hu1 ht2 hk2 hu2
      go_wp2
      go_roundw
      case rel => exact ⟨k + 1, by omega, by go_num, HU2.out, (HB.out.setCell (p := ⟨w.heap.size, 1, none⟩) (Nat.le_refl _) _).drew.trans (HK2.out.below (by simp [World.setCell]; omega) (Nat.le_refl _))⟩
      case measure => simp [intOf]; omega
    · obtain rfl : k = len := by omega
      have HU := Lib.hid hu
      have HB := Lib.hid hb
      clear hu hb
      go_wp2
      go_ret
      exact ⟨rfl, HU.out, HB.out⟩
end
section
open Go.RowKit
def NewB (B : Nat) (v : Value) : Prop := ∀ b, v.ownBlock = some b → B ≤ b
theorem NewB.mono {B B' : Nat} {v : Value} (h : NewB B v) (hB : B' ≤ B) : NewB B' v := fun b hb => Nat.le_trans hB (h b hb)
theorem NewB.of_own {w : World} {base n size : Nat} {e : TypeId} {v : Value} {xs : List Value} (h : w.ownsRow base e size v n xs) {B : Nat} (hB : B ≤ base) : NewB B v := fun b hb => Nat.le_trans hB (h.lt b hb).1
/-- As ShapesB, the block being B or above. -/
theorem own_kg {w w' : World} {g base size n : Nat} {e : TypeId} {v : Value} {xs : List Value} (h : w.ownsRow base e size v n xs) (hu : UrnAt w g) (he : e ≠ 66) (hk : Kg g w w') : w'.ownsRow base e size v n xs := by
  obtain ⟨h1, h2⟩ := h
  refine ⟨h1, ?_⟩
  rcases h2 with h2 | ⟨r, cap, cur, e1, e2, e3, e4⟩
  · exact .inl h2
  · have hb : Blok w r e cur.toList := by unfold Blok; rw [e3]
    exact .inr ⟨r, cap, cur, e1, e2, (hk.heap hb.size (hu.ne hb he)).trans e3, e4⟩
/-- What HandOf comes to. -/
theorem UrnAt.far {w : World} {g : Nat} (h : UrnAt w g) {p : Addr} (hp : g ≠ p.block) (u : Value) : UrnAt (w.setCell p u) g := by
  obtain ⟨x, y, h⟩ := h
  exact ⟨x, y, h.far hp u⟩
theorem UrnAt.own_ne {w : World} {g base size n : Nat} {e : TypeId} {v : Value} {xs : List Value} (h : UrnAt w g) (ho : w.ownsRow base e size v n xs) (he : e ≠ 66) : v.ownBlock ≠ some g := by
  obtain ⟨x, y, h⟩ := h
  exact Go.Proofs.Ytcbdcdpoackplaa.own_ne ho h he
end
end Go.Proofs.Ytcbdcdpoackplaa
