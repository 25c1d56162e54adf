/- Within the second loop of LineOf: the squares so far. · The end of a round of LineOf's second loop. · The end of LineOf. -/
import Derived.Test.YthhajbgddifenaaLp
import Derived.Test.YthhajbgddifenaaRt
import Derived.Laws.BitsAllLaws
import Derived.Laws.BytesArg
namespace Go.Proofs.Ythhajbgddifenaa
section
open Go.RowKit Go.Shelf

theorem Kg.cell {g : Nat} {a b : World} (h : Kg g a b) {k o : Nat} {v : Value} (hc : a.cell? ⟨k, o, none⟩ = some v) (hne : k ≠ g) : b.cell? ⟨k, o, none⟩ = some v := by
  have hk := World.block_lt_of_cell? a _ hc
  rw [← hc]
  exact World.cell?_of_block (a := ⟨k, o, none⟩) (h.heap hk hne)
theorem ShapesB.at_ {w : World} {b n c : Nat} {S : List Shape} (h : ShapesB w (.slice (some ⟨b, 0, none⟩) n c) S) : n = S.length ∧ b < w.heap.size ∧ ∀ (k : Nat) (x : Shape), S[k]? = some x → w.cell? ⟨b, k * 2, none⟩ = some (.int .u8 x.letter) ∧ w.cell? ⟨b, k * 2 + 1, none⟩ = some (.int .i64 x.strokes) := by
  obtain ⟨b', c', cur, e, hb, ht⟩ := h
  injection e with e1 e2 e3
  injection e1 with e1
  injection e1 with e1
  subst e1
  refine ⟨e2, hb.size, fun k x hx => ?_⟩
  have hk := (List.getElem?_eq_some_iff.1 hx).1
  obtain ⟨h1, h2⟩ := shCells_get S k x hx
  rw [← ht, List.getElem?_take, if_pos (by omega)] at h1 h2
  exact ⟨by rw [hb.cell, h1], by rw [hb.cell, h2]⟩
/-- What is so of the squares themselves. -/
def SqOk (worn scr : Nat) (S : List Shape) (qs : List (List Light)) (ks vs : List Nat) : Prop :=
  ks.length = qs.length ∧ vs.length = qs.length ∧ (∀ (i : Nat) (q : List Light) (k v : Nat), qs[i]? = some q → ks[i]? = some k → vs[i]? = some v → ∃ s, S[k]? = some s ∧ TrueSq worn scr q s.strokes v) ∧ ∀ q ∈ qs, q.length ≤ 4 ∧ ∀ x ∈ q, x.ok
theorem SqOk.nil (worn scr : Nat) (S : List Shape) : SqOk worn scr S [] [] [] := ⟨rfl, rfl, by simp, by simp⟩
theorem SqOk.snoc {worn scr : Nat} {S : List Shape} {qs : List (List Light)} {ks vs : List Nat} {q : List Light} {k v : Nat} {s : Shape} (h : SqOk worn scr S qs ks vs) (hs : S[k]? = some s) (ht : TrueSq worn scr q s.strokes v) (hq : q.length ≤ 4) (hx : ∀ x ∈ q, x.ok) :
    SqOk worn scr S (qs ++ [q]) (ks ++ [k]) (vs ++ [v]) := by
  obtain ⟨h1, h2, h3, h4⟩ := h
  refine ⟨by simp [h1], by simp [h2], fun i q' k' v' e1 e2 e3 => ?_, fun q' hq' => ?_⟩
  · by_cases hi : i < qs.length
    · rw [List.getElem?_append_left hi] at e1
      rw [List.getElem?_append_left (by omega)] at e2 e3
      exact h3 i q' k' v' e1 e2 e3
    · have hi' : i = qs.length := by
        have := (List.getElem?_eq_some_iff.1 e1).1
        simp at this
        omega
      subst hi'
      rw [List.getElem?_append_right (Nat.le_refl _), Nat.sub_self] at e1
      rw [List.getElem?_append_right (by omega), h1, Nat.sub_self] at e2
      rw [List.getElem?_append_right (by omega), h2, Nat.sub_self] at e3
      simp only [List.getElem?_cons_zero, Option.some.injEq] at e1 e2 e3
      subst e1 e2 e3
      exact ⟨s, hs, ht⟩
  · rcases List.mem_append.1 hq' with hq' | hq'
    · exact h4 q' hq'
    · obtain rfl : q' = q := by simpa using hq'
      exact ⟨hq, hx⟩
theorem marksTo_snoc (S : List Shape) (ks vs : List Nat) (k v n : Nat) (h1 : ks.length = n) (h2 : vs.length = n) : marksTo S (ks ++ [k]) (vs ++ [v]) (n + 1) = marksTo S ks vs n + markOf S k v := by
  rw [marksTo_succ]
  have e : marksTo S (ks ++ [k]) (vs ++ [v]) n = marksTo S ks vs n := by
    unfold marksTo
    refine congrArg List.sum (List.map_congr_left fun i hi => ?_)
    have hi := List.mem_range.1 hi
    have a : (ks ++ [k]).getD i 0 = ks.getD i 0 := by simp only [List.getD]; rw [List.getElem?_append_left (by omega)]
    have b : (vs ++ [v]).getD i 0 = vs.getD i 0 := by simp only [List.getD]; rw [List.getElem?_append_left (by omega)]
    rw [a, b]
  have a : (ks ++ [k]).getD n 0 = k := by simp only [List.getD]; rw [List.getElem?_append_right (by omega), h1, Nat.sub_self]; rfl
  have b : (vs ++ [v]).getD n 0 = v := by simp only [List.getD]; rw [List.getElem?_append_right (by omega), h2, Nat.sub_self]; rfl
  rw [e, a, b]
theorem marksTo_le {worn scr : Nat} {S : List Shape} {qs : List (List Light)} {ks vs : List Nat} (h : SqOk worn scr S qs ks vs) (n : Nat) (hn : n ≤ qs.length) : marksTo S ks vs n ≤ (worn + scr) * n := by
  obtain ⟨h1, h2, h3, _⟩ := h
  induction n with
  | zero => simp [marksTo]
  | succ n ih =>
    rw [marksTo_succ, Nat.mul_succ]
    have a1 : n < ks.length := by omega
    have a2 : n < vs.length := by omega
    have a3 : n < qs.length := by omega
    obtain ⟨s, hs, ht⟩ := h3 n qs[n] ks[n] vs[n] (List.getElem?_eq_getElem a3) (List.getElem?_eq_getElem a1) (List.getElem?_eq_getElem a2)
    have e1 : ks.getD n 0 = ks[n] := by simp [List.getD, a1]
    have e2 : vs.getD n 0 = vs[n] := by simp [List.getD, a2]
    have e3 : S.getD ks[n] ⟨0, 0⟩ = s := by simp [List.getD, hs]
    have := ih (by omega)
    rw [e1, e2]
    unfold markOf
    rw [e3]
    have := ht.2.2.1
    have := ht.2.2.2.1
    omega
/-- The squares so far, in memory. -/
def LineI (g : Nat) (w wr : World) (lb cb r8 r9 base worn scr hand : Nat) (hs : List Hand) (vh : Value) (S : List Shape) (qs : List (List Light)) (ks vs : List Nat) : Prop :=
  ∃ (vsq vv : Value) (lts : ByteArray) (lvs : List Value), Blok wr lb 25 (lineCells vh worn scr 0 vsq) ∧ Blok wr cb 32 (cutCells hand lts vv) ∧ Blok wr r8 25 zeroLine ∧ Blok wr r9 32 zeroCut ∧
    HandsN w.heap.size wr vh hs ∧ UrnAt wr g ∧ Kg g w wr ∧ wr.ownsRow base 39 1 vsq qs.length lvs ∧ SqN w.heap.size wr qs lvs ∧ wr.ownsRow base 3 1 vv vs.length (vs.map fun (x : Nat) => Value.int .i64 x) ∧ lts.data.toList = lettersAt S ks ∧ SqOk worn scr S qs ks vs ∧ base ≤ wr.heap.size
theorem LineI.kg {g : Nat} {w wr wr' : World} {lb cb r8 r9 base worn scr hand : Nat} {hs : List Hand} {vh : Value} {S : List Shape} {qs : List (List Light)} {ks vs : List Nat} (h : LineI g w wr lb cb r8 r9 base worn scr hand hs vh S qs ks vs) (hu' : UrnAt wr' g) (hk : Kg g wr wr') :
    LineI g w wr' lb cb r8 r9 base worn scr hand hs vh S qs ks vs := by
  obtain ⟨vsq, vv, lts, lvs, b1, b2, b3, b4, hh, hu, hk0, ho1, hl, ho2, e, hp, hb⟩ := h
  exact ⟨vsq, vv, lts, lvs, b1.kg hk (hu.ne b1 (by decide)), b2.kg hk (hu.ne b2 (by decide)), b3.kg hk (hu.ne b3 (by decide)), b4.kg hk (hu.ne b4 (by decide)), hh.kg hu hk, hu', hk0.trans hk, own_kg ho1 hu (by decide) hk, hl.kg hu hk, own_kg ho2 hu (by decide) hk, e, hp, Nat.le_trans hb hk.size⟩
theorem LineI.alloc {g : Nat} {w wr : World} {lb cb r8 r9 base worn scr hand : Nat} {hs : List Hand} {vh : Value} {S : List Shape} {qs : List (List Light)} {ks vs : List Nat} (h : LineI g w wr lb cb r8 r9 base worn scr hand hs vh S qs ks vs) (o : Obj) :
    LineI g w (wr.alloc o) lb cb r8 r9 base worn scr hand hs vh S qs ks vs := by
  have h' := h
  obtain ⟨vsq, vv, lts, lvs, b1, b2, b3, b4, hh, hu, _⟩ := h'
  exact h.kg (hu.alloc o) ((Kg.refl g wr).alloc o)
/-- Numbers of strokes, as the walk has them. -/
theorem bit_of (s k : Nat) (hs : s < 1024) : bits .and .i64 ((s : Int) / 2 ^ k) 1 = if hasBit s k then 1 else 0 := by
  have h1 : s / 2 ^ k < 2 ^ 63 := Nat.lt_of_le_of_lt (Nat.div_le_self _ _) (by omega)
  have e0 : ((s : Int) / 2 ^ k) = ((s / 2 ^ k : Nat) : Int) := by simp
  rw [e0, show (1 : Int) = ((1 : Nat) : Int) from rfl, (bits_nat .i64 63 (by decide) wraps_i64 (s / 2 ^ k) 1 h1 (by omega)).1]
  unfold hasBit
  rw [Nat.and_one_is_mod]
  rcases Nat.mod_two_eq_zero_or_one (s / 2 ^ k) with h | h <;> rw [h] <;> rfl
theorem and_lights (v x : Nat) (hv : v < 32) : bits .and .i64 (v : Int) (x : Int) = ((v &&& x : Nat) : Int) := by
  by_cases hx : x < 2 ^ 63
  · exact (bits_nat .i64 63 (by decide) wraps_i64 v x (by omega) hx).1
  · have h : ((BitVec.ofInt 64 (v : Int) &&& BitVec.ofInt 64 (x : Int)).toNat) = v &&& x := by
      apply Nat.eq_of_testBit_eq
      intro i
      rw [BitVec.testBit_toNat]
      simp only [BitVec.ofInt_natCast, BitVec.getLsbD_and, BitVec.getLsbD_ofNat, Nat.testBit_and]
      by_cases hi : i < 64
      · simp [hi]
      · have h0 : v.testBit i = false := Nat.testBit_lt_two_pow (Nat.lt_of_lt_of_le hv (Nat.pow_le_pow_right (n := 2) (i := 5) (by decide) (by omega)))
        simp [hi, h0]
    have e : bits .and .i64 (v : Int) (x : Int) = IntKind.i64.wrap ((BitVec.ofInt 64 (v : Int) &&& BitVec.ofInt 64 (x : Int)).toNat : Int) := rfl
    rw [e, h]
    have : v &&& x ≤ v := Nat.and_le_left
    exact wraps_i64 _ (by omega) (by omega)
theorem pow_le16 (k : Nat) (hk : k < 5) : 2 ^ k ≤ 16 := by
  have : k = 0 ∨ k = 1 ∨ k = 2 ∨ k = 3 ∨ k = 4 := by omega
  rcases this with rfl | rfl | rfl | rfl | rfl <;> decide
theorem wear_num (v k : Nat) (hv : v < 32) (h : 2 ^ k ≤ v) : wrap64 ((v : Int) - wrap64 ((2 : Int) ^ k)) = ((v - 2 ^ k : Nat) : Int) := by
  have e : ((2 : Int) ^ k) = ((2 ^ k : Nat) : Int) := by simp
  rw [e]
  generalize 2 ^ k = p at *
  unfold wrap64
  omega
theorem scratch_num (v k : Nat) (hk : k < 5) (hv : v < 32) : wrap64 ((v : Int) + wrap64 ((2 : Int) ^ k)) = ((v + 2 ^ k : Nat) : Int) := by
  have e : ((2 : Int) ^ k) = ((2 ^ k : Nat) : Int) := by simp
  have h := pow_le16 k hk
  rw [e]
  generalize 2 ^ k = p at *
  unfold wrap64
  omega
theorem val_i64 {a b : Int} (h : a = b) : Value.int .i64 a = Value.int .i64 b := by rw [h]
theorem bit_yes {s k : Nat} (hs : s < 32) (h : bits .and .i64 ((s : Int) / 2 ^ k) 1 = 1) : hasBit s k = true := by
  rw [bit_of s k (by omega)] at h
  cases hb : hasBit s k with
  | true => rfl
  | false => rw [hb] at h; simp at h
theorem bit_no {s k : Nat} (hs : s < 32) (h : ¬ bits .and .i64 ((s : Int) / 2 ^ k) 1 = 1) : hasBit s k = false := by
  rw [bit_of s k (by omega)] at h
  cases hb : hasBit s k with
  | true => rw [hb] at h; simp at h
  | false => rfl
theorem info_light : (Try.prog.info? 27).map (fun i => (i.zero, i.size, i.bytes)) = some (some (.agg #[.int .i64 0, .int .i64 0]), 2, 16) := by kernel_rfl
/-- A light that shows what is visible. -/
def LightV (v : Nat) (x : Light) : Prop := x.ok ∧ x.shows < 32 ∧ x.seen = v &&& x.shows
theorem lightV_mk (v x : Nat) (hx : x < 32) : LightV v ⟨x, v &&& x⟩ := by
  refine ⟨⟨by simp; omega, ?_, ?_⟩, hx, rfl⟩
  · show v &&& x < 1024
    exact Nat.lt_of_le_of_lt Nat.and_le_right (by omega)
  · show diff (v &&& x) x = 0
    apply Nat.eq_of_testBit_eq
    intro i
    rw [diff_bit, Nat.testBit_and]
    cases v.testBit i <;> cases x.testBit i <;> simp
/-- Within the fourth loop: the lights so far. -/
def LightsI (g v base : Nat) (W1 wr : World) (lv : Value) (ql : List Light) : Prop :=
  wr.ownsRow base 27 2 lv ql.length (ltCells ql) ∧ (∀ x ∈ ql, LightV v x) ∧ UrnAt wr g ∧ Kg g W1 wr ∧ base ≤ wr.heap.size
theorem LightsI.step {g v x base gg cap : Nat} {W1 w8 w7 : World} {lv : Value} {ql : List Light} {o : Obj} (h : LightsI g v base W1 w8 lv ql) (hx : x < 32) (hW : W1.heap.size ≤ base) (hg : (w8.alloc o).grownBy w7 lv.ownBlock)
    (h7 : w7.ownsRow base 27 2 (.slice (some ⟨gg, 0, none⟩) (ql.length + 1) cap) (ql.length + 1) (ltCells ql ++ [.int .i64 x, .int .i64 ((v &&& x : Nat) : Int)])) :
    LightsI g v base W1 w7 (.slice (some ⟨gg, 0, none⟩) (ql.length + 1) cap) (ql ++ [⟨x, v &&& x⟩]) := by
  obtain ⟨h1, h2, h3, h4, h5⟩ := h
  have ho := h1.alloc o
  refine ⟨?_, fun y hy => ?_, (h3.alloc o).grown hg ((h3.alloc o).own_ne ho (by decide)), (h4.alloc o).grown hg fun j e => Nat.le_trans hW (ho.lt j e).1, ?_⟩
  · rw [ltCells_snoc, List.length_append]
    exact h7
  · rcases List.mem_append.1 hy with hy | hy
    · exact h2 y hy
    · obtain rfl : y = ⟨x, v &&& x⟩ := by simpa using hy
      exact lightV_mk v x hx
  · have := hg.size
    simp at this
    omega
theorem cell_alloc {w : World} {k o : Nat} {v : Value} (h : w.cell? ⟨k, o, none⟩ = some v) (b : Obj) : (w.alloc b).cell? ⟨k, o, none⟩ = some v := (World.cell?_alloc_lt w b _ (World.block_lt_of_cell? w _ h)).trans h
/-- What the last drawn region of a round reads. -/
def RegCells (cb sx : Nat) (lts : ByteArray) (vv : Value) (letter : Nat) (W : World) : Prop :=
  W.cell? ⟨cb, 1, none⟩ = some (.string lts) ∧ W.cell? ⟨cb, 2, none⟩ = some vv ∧ W.cell? ⟨sx, 0, none⟩ = some (.int .u8 letter)
/-- What is so within it. -/
def RegF (wr : World) (cb sx base : Nat) (lts : ByteArray) (vv : Value) (letter : Nat) (vo : Value) (m : Nat) (ys : List Value) (W : World) : Prop :=
  RegCells cb sx lts vv letter W ∧ wr.grownBy W vv.ownBlock ∧ W.ownsRow base 3 1 vo m ys
theorem grown_trans {a b c : World} {row : Option Nat} (h : a.grownBy b row) (k : b.grownBy c row) : a.grownBy c row :=
  ⟨k.os.trans h.os, k.tape.trans h.tape, k.output.trans h.output, Nat.le_trans h.size k.size, fun i hi hne => (k.block i (Nat.lt_of_lt_of_le hi h.size) hne).trans (h.block i hi hne)⟩
theorem RegCells.alloc {cb sx letter : Nat} {lts : ByteArray} {vv : Value} {W : World} (h : RegCells cb sx lts vv letter W) (o : Obj) : RegCells cb sx lts vv letter (W.alloc o) := ⟨cell_alloc h.1 o, cell_alloc h.2.1 o, cell_alloc h.2.2 o⟩
theorem RegF.alloc {wr W : World} {cb sx base letter m : Nat} {lts : ByteArray} {vv vo : Value} {ys : List Value} (h : RegF wr cb sx base lts vv letter vo m ys W) (o : Obj) : RegF wr cb sx base lts vv letter vo m ys (W.alloc o) :=
  ⟨h.1.alloc o, grown_trans h.2.1 (World.grownBy_alloc W o _), h.2.2.alloc o⟩
theorem RegCells.grown {cb sx letter : Nat} {lts : ByteArray} {vv : Value} {W W' : World} (h : RegCells cb sx lts vv letter W) (hg : W.grownBy W' vv.ownBlock) (h1 : vv.ownBlock ≠ some cb) (h2 : vv.ownBlock ≠ some sx) : RegCells cb sx lts vv letter W' :=
  ⟨hg.cell h.1 (fun e => h1 e.symm), hg.cell h.2.1 (fun e => h1 e.symm), hg.cell h.2.2 (fun e => h2 e.symm)⟩
/-- A new one-cell block within it. -/
def NewCell (wr : World) (b : Nat) (u : Value) (W : World) : Prop := wr.heap.size ≤ b ∧ W.cell? ⟨b, 0, none⟩ = some u
theorem NewCell.alloc {wr W : World} {b : Nat} {u : Value} (h : NewCell wr b u W) (o : Obj) : NewCell wr b u (W.alloc o) := ⟨h.1, cell_alloc h.2 o⟩
theorem NewCell.new {wr W : World} {row : Option Nat} (hg : wr.grownBy W row) (u : Value) (t : TypeId) : NewCell wr W.heap.size u (W.alloc (.cells #[u] t)) := ⟨hg.size, (Blok.new W t [u]).cell 0⟩
theorem NewCell.grown {wr W W' : World} {b : Nat} {u : Value} {row : Option Nat} (h : NewCell wr b u W) (hg : W.grownBy W' row) (hr : ∀ r, row = some r → r < wr.heap.size) : NewCell wr b u W' :=
  ⟨h.1, hg.cell h.2 (fun e => by have := hr b e.symm; have := h.1; omega)⟩
theorem NewCell.news {wr W : World} {b : Nat} {u : Value} (h : NewCell wr b u W) : ∀ (j : Nat) (x : Value), [u][j]? = some x → W.cell? ((⟨b, 0, none⟩ : Addr).add j) = some x := by
  intro j x hx
  cases j with
  | zero =>
    obtain rfl : u = x := by simpa using hx
    exact h.2
  | succ j => simp at hx
theorem byte_cell {wr W : World} {b x : Nat} (h : NewCell wr b (.int .u8 x) W) : ∀ i, i < 1 → W.cell? ⟨b, 0 + i, none⟩ = some (.int .u8 ([(x : Int)].getD i 0)) := by
  intro i hi
  obtain rfl : i = 0 := by omega
  exact h.2
theorem wpAnyT_world {P : Program} {ops : Array Oper} {Q : Exit → Act → World → Prop} {md : Region.Mode} {S : World → Prop} {late : Nat → Bool} {fuel : Nat} {listed : Array Bool} {a : Act} {w : World} (F : World → Prop) (hF : F w) (h : ∀ w', F w' → wpAnyT P md ops Q S late fuel listed a w') :
    wpAnyT P md ops Q S late fuel listed a w := h w hF
end
section
open Go.RowKit Go.Shelf

theorem own_own {w : World} {b1 b2 s1 s2 n1 n2 : Nat} {e1 e2 : TypeId} {v1 v2 : Value} {x1 x2 : List Value} (h1 : w.ownsRow b1 e1 s1 v1 n1 x1) (h2 : w.ownsRow b2 e2 s2 v2 n2 x2) (hne : e1 ≠ e2) : v1.ownBlock = none ∨ v1.ownBlock ≠ v2.ownBlock := by
  rcases h1.2 with ⟨rfl, _⟩ | ⟨r, cap, cur, rfl, _, hg, _⟩
  · exact .inl rfl
  · right
    intro e
    have hb : Blok w r e1 cur.toList := by unfold Blok; rw [hg]
    exact own_ne_row h2 hb (fun e => hne e.symm) e.symm
/-- The memory of a line that is being made, and of the lights of the square at hand. -/
def LineM (g : Nat) (w wr : World) (lb cb r8 r9 base worn scr hand : Nat) (hs : List Hand) (vh vsq : Value) (lts : ByteArray) (vv : Value) (lvs : List Value) (qs : List (List Light)) (vs : List Nat) (lv : Value) (ql : List Light) : Prop :=
  Blok wr lb 25 (lineCells vh worn scr 0 vsq) ∧ Blok wr cb 32 (cutCells hand lts vv) ∧ Blok wr r8 25 zeroLine ∧ Blok wr r9 32 zeroCut ∧
    HandsN w.heap.size wr vh hs ∧ UrnAt wr g ∧ Kg g w wr ∧ wr.ownsRow base 39 1 vsq qs.length lvs ∧ SqN w.heap.size wr qs lvs ∧ wr.ownsRow base 3 1 vv vs.length (vs.map fun (x : Nat) => Value.int .i64 x) ∧ LightsN w.heap.size wr lv ql ∧ base ≤ wr.heap.size
theorem LineM.reg {g : Nat} {w wr W : World} {lb cb r8 r9 base worn scr hand sx letter v : Nat} {hs : List Hand} {vh vsq vv vo : Value} {lts lts' : ByteArray} {lvs : List Value} {qs : List (List Light)} {vs : List Nat} {lv : Value} {ql : List Light}
    (h : LineM g w wr lb cb r8 r9 base worn scr hand hs vh vsq lts vv lvs qs vs lv ql) (hW : w.heap.size ≤ base) (hcb : w.heap.size ≤ cb)
    (hr : RegF wr cb sx base lts vv letter vo (vs.length + 1) ((vs.map fun (x : Nat) => Value.int .i64 x) ++ [.int .i64 v]) W) (h8 : r8 ≠ cb) (h9 : r9 ≠ cb) :
    LineM g w ((W.setCell ⟨cb, 1, none⟩ (.string lts')).setCell ⟨cb, 2, none⟩ vo) lb cb r8 r9 base worn scr hand hs vh vsq lts' vo lvs qs (vs ++ [v]) lv ql := by
  obtain ⟨b1, b2, b3, b4, hh, hu, hk, ho1, hl, ho2, hq, hb⟩ := h
  obtain ⟨_, hg, ho3⟩ := hr
  have hrow : ∀ (b : Nat) (t : TypeId) (cs : List Value), Blok wr b t cs → t ≠ 3 → vv.ownBlock ≠ some b := fun b t cs hb ht => own_ne_row ho2 hb (fun e => ht e.symm)
  have c2 := b2.grown hg (hrow _ _ _ b2 (by decide))
  have c2' := c2.put 1 (.string lts')
  have hu2 := hu.grown hg (hu.own_ne ho2 (by decide))
  have hgu : g ≠ cb := (hu2.ne c2 (by decide)).symm
  have hlb : lb ≠ cb := blok_ne b1 b2 (by decide)
  have hk2 := hk.grown hg fun j e => Nat.le_trans hW (ho2.lt j e).1
  have ho1' := ho1.kept hg (own_own ho1 ho2 (by decide))
  have ho3' : vo.ownBlock ≠ some cb := own_ne_row ho3 c2 (by decide)
  refine ⟨((b1.grown hg (hrow _ _ _ b1 (by decide))).far hlb _).far hlb _, c2'.put 2 vo, ((b3.grown hg (hrow _ _ _ b3 (by decide))).far h8 _).far h8 _, ((b4.grown hg (hrow _ _ _ b4 (by decide))).far h9 _).far h9 _, ?_, (hu2.far hgu _).far hgu _, (hk2.putNew hcb _).putNew hcb _, own_far (own_far ho1' (own_ne_row ho1' c2 (by decide)) _) (own_ne_row ho1' c2 (by decide)) _, ?_, ?_, ?_, ?_⟩
  · exact ((hh.grown hg fun b t cs hb ht => hrow b t cs hb (by rcases ht with rfl | rfl <;> decide)).far (p := ⟨cb, 1, none⟩) c2 (by decide) (by decide) _).far (p := ⟨cb, 2, none⟩) c2' (by decide) (by decide) _
  · exact ((hl.grown hg fun b cs hb => hrow b _ cs hb (by decide)).far (p := ⟨cb, 1, none⟩) c2 (by decide) _).far (p := ⟨cb, 2, none⟩) c2' (by decide) _
  · rw [List.length_append, List.map_append]
    exact own_far (own_far ho3 ho3' _) ho3' _
  · exact ((hq.grown hg fun b cs hb => hrow b _ cs hb (by decide)).far (p := ⟨cb, 1, none⟩) c2 (by decide) _).far (p := ⟨cb, 2, none⟩) c2' (by decide) _
  · have := hg.size
    simp [World.setCell]
    omega
theorem LineM.put {g : Nat} {w wr W : World} {lb cb r8 r9 base worn scr hand gg cap : Nat} {hs : List Hand} {vh vsq vv : Value} {lts : ByteArray} {lvs : List Value} {qs : List (List Light)} {ks vs : List Nat} {lv : Value} {ql : List Light} {o : Obj} {S : List Shape}
    (h : LineM g w wr lb cb r8 r9 base worn scr hand hs vh vsq lts vv lvs qs vs lv ql) (hW : w.heap.size ≤ base) (hlb : w.heap.size ≤ lb) (hg : (wr.alloc o).grownBy W vsq.ownBlock)
    (ho : W.ownsRow base 39 1 (.slice (some ⟨gg, 0, none⟩) (qs.length + 1) cap) (qs.length + 1) (lvs ++ [lv])) (h8 : r8 ≠ lb) (h9 : r9 ≠ lb) (hle : lts.data.toList = lettersAt S ks) (hp : SqOk worn scr S (qs ++ [ql]) ks vs) :
    LineI g w (W.setCell ⟨lb, 4, none⟩ (.slice (some ⟨gg, 0, none⟩) (qs.length + 1) cap)) lb cb r8 r9 base worn scr hand hs vh S (qs ++ [ql]) ks vs := by
  obtain ⟨b1, b2, b3, b4, hh, hu, hk, ho1, hl, ho2, hq, hb⟩ := h
  have hbel := (Below.refl wr.heap.size wr).alloc (Nat.le_refl _) o
  have ho1a := ho1.alloc o
  have hrow : ∀ (b : Nat) (t : TypeId) (cs : List Value), Blok (wr.alloc o) b t cs → t ≠ 39 → vsq.ownBlock ≠ some b := fun b t cs hb ht => own_ne_row ho1a hb (fun e => ht e.symm)
  have c1 := (b1.alloc o).grown hg (hrow _ _ _ (b1.alloc o) (by decide))
  have hu2 := (hu.alloc o).grown hg ((hu.alloc o).own_ne ho1a (by decide))
  have hgu : g ≠ lb := (hu2.ne c1 (by decide)).symm
  have hcb : cb ≠ lb := blok_ne b2 b1 (by decide)
  have hk2 := (hk.alloc o).grown hg fun j e => Nat.le_trans hW (ho1a.lt j e).1
  have ho2' := (ho2.alloc o).kept hg (own_own (ho2.alloc o) ho1a (by decide))
  refine ⟨_, vv, lts, lvs ++ [lv], c1.put 4 _, ((b2.alloc o).grown hg (hrow _ _ _ (b2.alloc o) (by decide))).far hcb _, ((b3.alloc o).grown hg (hrow _ _ _ (b3.alloc o) (by decide))).far h8 _, ((b4.alloc o).grown hg (hrow _ _ _ (b4.alloc o) (by decide))).far h9 _, ?_, hu2.far hgu _, hk2.putNew hlb _, ?_, ?_, own_far ho2' (own_ne_row ho2' c1 (by decide)) _, hle, hp, ?_⟩
  · exact ((hh.below hbel).grown hg fun b t cs hb ht => hrow b t cs hb (by rcases ht with rfl | rfl <;> decide)).far (p := ⟨lb, 4, none⟩) c1 (by decide) (by decide) _
  · rw [List.length_append]
    exact own_far ho (own_ne_row ho c1 (by decide)) _
  · have h1 := (hl.below hbel).grown hg fun b cs hb => hrow b _ cs hb (by decide)
    have h2 := (hq.below hbel).grown hg fun b cs hb => hrow b _ cs hb (by decide)
    exact (h1.snoc h2).far (p := ⟨lb, 4, none⟩) c1 (by decide) _
  · have := hg.size
    simp [World.setCell] at this ⊢
    omega
theorem info_lights : (Try.prog.info? 39).map (fun i => (i.zero, i.size, i.bytes)) = some (some (.slice none 0 0), 1, 24) := by kernel_rfl
theorem letters_snoc {lts : ByteArray} {S : List Shape} {ks : List Nat} {k : Nat} {s : Shape} (h : lts.data.toList = lettersAt S ks) (hs : S[k]? = some s) (b : ByteArray) (hb : b.data.toList = lts.data.toList ++ [UInt8.ofNat s.letter]) : b.data.toList = lettersAt S (ks ++ [k]) := by
  rw [hb, h]
  simp [lettersAt, List.getD, hs]
theorem nums_one (x : Nat) : (strOfNums [(x : Int)]).data.toList = [UInt8.ofNat x] := by simp [strOfNums]
theorem cat_short {worn scr : Nat} {lts : ByteArray} {S : List Shape} {qs : List (List Light)} {ks vs : List Nat} (h : lts.data.toList = lettersAt S ks) (hp : SqOk worn scr S qs ks vs) (x : Nat) (hq : qs.length ≤ 8) : ¬ 9223372036854775807 < lts.size + (strOfNums [(x : Int)]).size := by
  have h1 : lts.size = ks.length := by
    show lts.data.size = _
    rw [← Array.length_toList, h]
    simp [lettersAt]
  have h2 : (strOfNums [(x : Int)]).size = 1 := by
    show (strOfNums [(x : Int)]).data.size = _
    rw [← Array.length_toList, nums_one]
    rfl
  have := hp.1
  omega
theorem cat_letters (lts : ByteArray) (x : Nat) : (lts ++ strOfNums [(x : Int)]).data.toList = lts.data.toList ++ [UInt8.ofNat x] := by
  rw [← nums_one x, ByteArray.data_append, Array.toList_append]
end
section
open Go.RowKit Go.Shelf

/-- All blocks but those of a line's and a cut's own type are as they were. -/
def Tk (w w' : World) : Prop := ∀ (b : Nat) (t : TypeId) (cs : List Value), Blok w b t cs → t ≠ 25 → t ≠ 32 → Blok w' b t cs
theorem Tk.refl (w : World) : Tk w w := fun _ _ _ h _ _ => h
theorem Tk.put {w w' : World} (h : Tk w w') {p : Addr} {t : TypeId} {cs : List Value} (hb : Blok w' p.block t cs) (ht : t = 25 ∨ t = 32) (u : Value) : Tk w (w'.setCell p u) := fun b t' cs' h0 h1 h2 => by
  have hne : t' ≠ t := by rcases ht with rfl | rfl <;> assumption
  exact (h b t' cs' h0 h1 h2).far (blok_ne (h b t' cs' h0 h1 h2) hb hne) u
theorem ShapesB.tk {w w' : World} {v : Value} {S : List Shape} (h : ShapesB w v S) (hk : Tk w w') : ShapesB w' v S := by
  obtain ⟨b, c, cur, e, hb, ht⟩ := h
  exact ⟨b, c, cur, e, hk _ _ _ hb (by decide) (by decide), ht⟩
theorem HandsB.tk {w w' : World} {v : Value} {hs : List Hand} (h : HandsB w v hs) (hk : Tk w w') : HandsB w' v hs := by
  obtain ⟨b, c, cur, svs, e, hb, ht, hS⟩ := h
  exact ⟨b, c, cur, svs, e, hk _ _ _ hb (by decide) (by decide), ht, hS.1, fun k a sv h1 h2 => (hS.2 k a sv h1 h2).tk hk⟩
theorem HandsN.tk {B : Nat} {w w' : World} {v : Value} {hs : List Hand} (h : HandsN B w v hs) (hk : Tk w w') : HandsN B w' v hs := by
  obtain ⟨b, c, cur, svs, e, hb, ht, hS, hN⟩ := h
  exact ⟨b, c, cur, svs, e, hk _ _ _ hb (by decide) (by decide), ht, ⟨hS.1, fun k a sv h1 h2 => (hS.2 k a sv h1 h2).tk hk⟩, hN⟩
theorem LightsB.tk {w w' : World} {v : Value} {q : List Light} (h : LightsB w v q) (hk : Tk w w') : LightsB w' v q := by
  rcases h with h | ⟨b, c, cur, e, hb, ht⟩
  · exact .inl h
  · exact .inr ⟨b, c, cur, e, hk _ _ _ hb (by decide) (by decide), ht⟩
theorem SquaresB.tk {w w' : World} {v : Value} {qs : List (List Light)} (h : SquaresB w v qs) (hk : Tk w w') : SquaresB w' v qs := by
  obtain ⟨b, c, cur, lvs, e, hb, ht, hS⟩ := h
  exact ⟨b, c, cur, lvs, e, hk _ _ _ hb (by decide) (by decide), ht, hS.1, fun k q v h1 h2 => (hS.2 k q v h1 h2).tk hk⟩
theorem IntsB.of_own {w : World} {base n : Nat} {v : Value} {l : List Nat} (h : w.ownsRow base 3 1 v n (l.map fun (x : Nat) => Value.int .i64 x)) (hn : n = l.length) (h0 : 0 < n) : IntsB w v l := by
  rcases h.2 with ⟨_, h1⟩ | ⟨g, cap, cur, rfl, hbg, hg, hcap, _, hsz, htake⟩
  · omega
  · refine ⟨g, cap, cur.toList, by rw [hn], by unfold Blok; rw [hg], ?_⟩
    rw [← hn, ← htake, Nat.mul_one]
theorem SquaresN.tk {B : Nat} {w w' : World} {v : Value} {qs : List (List Light)} (h : SquaresN B w v qs) (hk : Tk w w') : SquaresN B w' v qs := by
  obtain ⟨b, c, cur, lvs, e, hb, ht, hS, hN⟩ := h
  exact ⟨b, c, cur, lvs, e, hk _ _ _ hb (by decide) (by decide), ht, ⟨hS.1, fun k q v h1 h2 => (hS.2 k q v h1 h2).tk hk⟩, hN⟩
theorem IntsB.tk {w w' : World} {v : Value} {l : List Nat} (h : IntsB w v l) (hk : Tk w w') : IntsB w' v l := by
  obtain ⟨b, c, cur, e, hb, ht⟩ := h
  exact ⟨b, c, cur, e, hk _ _ _ hb (by decide) (by decide), ht⟩
theorem UrnAt.tk {w w' : World} {g : Nat} (h : UrnAt w g) (hk : Tk w w') : UrnAt w' g := by
  obtain ⟨x, y, h⟩ := h
  exact ⟨x, y, hk _ _ _ h (by decide) (by decide)⟩
theorem line_post {g hm sm qm : Nat} {w wr W : World} {base worn scr hand T : Nat} {hs : List Hand} {vh vsq vv : Value} {lts : ByteArray} {lvs : List Value} {S : List Shape} {qs : List (List Light)} {ks vs : List Nat} {H : Hand}
    (hh : HandsN w.heap.size wr vh hs) (hu : UrnAt wr g) (ho1 : wr.ownsRow base 39 1 vsq qs.length lvs) (hl : SqN w.heap.size wr qs lvs) (ho2 : wr.ownsRow base 3 1 vv vs.length (vs.map fun (x : Nat) => Value.int .i64 x))
    (hle : lts.data.toList = lettersAt S ks) (hp : SqOk worn scr S qs ks vs) (hT : Tk wr W) (hK : Kg g w W) (hH : hs[hand]? = some H) (hS : S = H.shapes) (hok : ∀ h ∈ hs, h.ok ∧ h.shapes.length ≤ sm ∧ ∀ s ∈ h.shapes, s.strokes < 32)
    (hm1 : marksTo S ks vs qs.length ≤ T) (hT40 : T ≤ 40) (hq1 : 1 ≤ qs.length) (hqm : qs.length ≤ qm) (q8 : qm ≤ 8) (hhm : hs.length ≤ hm) (h4 : hm ≤ 4) (hw : worn ≤ 2) (hs2 : scr ≤ 2) (hbase : w.heap.size ≤ base) :
    LinePost g hm sm qm w (.returned (.tuple #[.agg #[vh, .int .i64 worn, .int .i64 scr, .int .i64 T, vsq], .agg #[.int .i64 hand, .string lts, vv]])) W := by
  subst hS
  have hh0 : hand < hs.length := (List.getElem?_eq_some_iff.1 hH).1
  have hvl := hp.2.1
  refine ⟨⟨hs, worn, scr, T, qs⟩, _, vv, hand, ks, vs, lts, H, rfl, ⟨vh, vsq, rfl, hh.toB.tk hT, (SquaresB.of_own ho1 rfl hq1 hl.1).tk hT⟩, ⟨by simp; omega, by simp; omega, fun h hm => (hok h hm).1, by simp; omega, by simp; omega, by simp; omega, hq1, by simp; omega, fun q hq => hp.2.2.2 q hq⟩, hhm, fun h hm => (hok h hm).2, hqm, ⟨hh0, hp.1, hp.2.1, fun i H' q k v h1 h2 h3 h4 => ?_⟩, hH, hm1, hle, (IntsB.of_own ho2 rfl (by omega)).tk hT, fun b n c x0 x1 x2 x3 e => ?_, hu.tk hT, hK⟩
  · have h1 : hs[hand]? = some H' := h1
    rw [hH] at h1
    injection h1 with h1
    subst h1
    exact hp.2.2.1 i q k v h2 h3 h4
  · have e5 : vsq = .slice (some ⟨b, 0, none⟩) n c := by
      injection e with e
      injection e with e
      simp only [List.cons.injEq] at e
      exact e.2.2.2.2.1
    subst e5
    refine ⟨Nat.le_trans hbase (ho1.lt b rfl).1, own_cap ho1 _ _ _ rfl, ?_, (SquaresN.of_own ho1 rfl hq1 hl).tk hT⟩
    have e0 : vh = x0 := by
      injection e with e
      injection e with e
      simp only [List.cons.injEq] at e
      exact e.1
    subst e0
    exact hh.tk hT
section
variable {w : World} {b : Nat} {t : TypeId} {a0 a1 a2 a3 a4 x0 x1 x2 x3 x4 : Value}
/-- Five cells stored one after the other, and three. -/
def put5 (w : World) (b : Nat) (x0 x1 x2 x3 x4 : Value) : World := ((((w.setCell ⟨b, 0, none⟩ x0).setCell ⟨b, 1, none⟩ x1).setCell ⟨b, 2, none⟩ x2).setCell ⟨b, 3, none⟩ x3).setCell ⟨b, 4, none⟩ x4
def put3 (w : World) (b : Nat) (x0 x1 x2 : Value) : World := ((w.setCell ⟨b, 0, none⟩ x0).setCell ⟨b, 1, none⟩ x1).setCell ⟨b, 2, none⟩ x2
theorem Blok.put5 (h : Blok w b t [a0, a1, a2, a3, a4]) (x0 x1 x2 x3 x4 : Value) : Blok (put5 w b x0 x1 x2 x3 x4) b t [x0, x1, x2, x3, x4] := ((((h.put 0 x0).put 1 x1).put 2 x2).put 3 x3).put 4 x4
theorem Blok.put3 (h : Blok w b t [a0, a1, a2]) (x0 x1 x2 : Value) : Blok (put3 w b x0 x1 x2) b t [x0, x1, x2] := ((h.put 0 x0).put 1 x1).put 2 x2
theorem Blok.far5 {k : Nat} {t' : TypeId} {cs : List Value} (h : Blok w k t' cs) (hne : k ≠ b) (x0 x1 x2 x3 x4 : Value) : Blok (Go.Proofs.Ythhajbgddifenaa.put5 w b x0 x1 x2 x3 x4) k t' cs := ((((h.far hne _).far hne _).far hne _).far hne _).far hne _
theorem Blok.far3 {k : Nat} {t' : TypeId} {cs : List Value} (h : Blok w k t' cs) (hne : k ≠ b) (x0 x1 x2 : Value) : Blok (Go.Proofs.Ythhajbgddifenaa.put3 w b x0 x1 x2) k t' cs := ((h.far hne _).far hne _).far hne _
theorem Tk.put5 {v : World} (hk : Tk v w) (h : Blok w b t [a0, a1, a2, a3, a4]) (ht : t = 25 ∨ t = 32) (x0 x1 x2 x3 x4 : Value) : Tk v (Go.Proofs.Ythhajbgddifenaa.put5 w b x0 x1 x2 x3 x4) :=
  ((((hk.put (p := ⟨b, 0, none⟩) h ht x0).put (p := ⟨b, 1, none⟩) (h.put 0 x0) ht x1).put (p := ⟨b, 2, none⟩) ((h.put 0 x0).put 1 x1) ht x2).put (p := ⟨b, 3, none⟩) (((h.put 0 x0).put 1 x1).put 2 x2) ht x3).put (p := ⟨b, 4, none⟩) ((((h.put 0 x0).put 1 x1).put 2 x2).put 3 x3) ht x4
theorem Tk.put3 {v : World} (hk : Tk v w) (h : Blok w b t [a0, a1, a2]) (ht : t = 25 ∨ t = 32) (x0 x1 x2 : Value) : Tk v (Go.Proofs.Ythhajbgddifenaa.put3 w b x0 x1 x2) :=
  ((hk.put (p := ⟨b, 0, none⟩) h ht x0).put (p := ⟨b, 1, none⟩) (h.put 0 x0) ht x1).put (p := ⟨b, 2, none⟩) ((h.put 0 x0).put 1 x1) ht x2
theorem Kg.put5 {g : Nat} {v : World} (hk : Kg g v w) (hb : v.heap.size ≤ b) (x0 x1 x2 x3 x4 : Value) : Kg g v (Go.Proofs.Ythhajbgddifenaa.put5 w b x0 x1 x2 x3 x4) := ((((hk.putNew hb _).putNew hb _).putNew hb _).putNew hb _).putNew hb _
theorem Kg.put3 {g : Nat} {v : World} (hk : Kg g v w) (hb : v.heap.size ≤ b) (x0 x1 x2 : Value) : Kg g v (Go.Proofs.Ythhajbgddifenaa.put3 w b x0 x1 x2) := ((hk.putNew hb _).putNew hb _).putNew hb _
end
theorem Tk.drew {w w' : World} (h : Tk w w') : Tk w w'.drew := h
theorem Blok.drew {w : World} {g : Nat} {t : TypeId} {cs : List Value} (h : Blok w g t cs) : Blok w.drew g t cs := h
theorem results_cell_row2 {P : Program} {fn : Func} {p q : Tmp} {tp tq : TypeId} (h : fn.results = #[.cell p tp, .cell q tq]) (tmps : Array Value) (w : World) (g g' : Nat) (t t' : TypeId) (cs cs' : List Value) (d d' : TypeDesc)
    (hp : tmps.getD p undef = .pointer (some ⟨g, 0, none⟩)) (hq : tmps.getD q undef = .pointer (some ⟨g', 0, none⟩)) (hg : Blok w g t cs) (hg' : Blok w g' t' cs')
    (hu : P.underlying tp = some d) (hu' : P.underlying tq = some d') (hd : (match d with | .struct _ | .array _ _ => true | _ => false) = true) (hd' : (match d' with | .struct _ | .array _ _ => true | _ => false) = true)
    (hi : (P.info? tp).map (·.size) = some cs.toArray.size) (hi' : (P.info? tq).map (·.size) = some cs'.toArray.size) :
    (results fn tmps).run P w = .ok (.tuple #[.agg cs.toArray, .agg cs'.toArray]) w := by
  have hp' : tmps[p]?.getD undef = .pointer (some ⟨g, 0, none⟩) := by simpa using hp
  have hq' : tmps[q]?.getD undef = .pointer (some ⟨g', 0, none⟩) := by simpa using hq
  simp [results, h, hp', hq', asAddr, run_loadVar_row w g t tp cs.toArray (0, 0) d hg hu hd hi, run_loadVar_row w g' t' tq cs'.toArray (0, 0) d' hg' hu' hd' hi']
end
end Go.Proofs.Ythhajbgddifenaa
