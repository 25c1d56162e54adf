/- How many marks a line has at least. · Binary search in ascending bytes. · The letters of a set, in order. · The letters that fit each square, gathered in maps. · A set of letters that was gathered: its size, and what is in it; in order. · Letters. · Plain laws of the chapter: some hand fits just where the fewest marks do. · A truth of a line: which hand cut it, which letters stand there, and which strokes are visible. What is true fits. · Which strokes are visible: a stroke is worn, or one is scratched in, from the least on. -/
import Derived.Test.YtmfjfjahemlhkaaGreatZa
import Derived.Maps.AppendAt
import Derived.Maps.RangeWalk
import Derived.Maps.Ext
import Derived.Laws.CopyOwn
import Derived.Maps.OwnIn
import Derived.Sort.CutIn
namespace Go.Proofs.YtmfjfjahemlhkaaGreat.Sg
section
open Go.RowKit Go.Shelf

attribute [local go_sem ↓] ld_cut st_cut

/-- How many marks each hand needs. -/
def sumsOf (L : Line) : List Nat := (cuttersOf L).map fun c => c.sum L.squares.length
def marksOf (L : Line) : Nat := leastOf 81 (sumsOf L)
/-- Marks answers ErrClash, or the number. -/
def MarksPost (L : Line) (w : World) (e : Ending) (w' : World) : Prop :=
  Below w.heap.size w w' ∧ ((marksOf L = 81 ∧ e = .returned (.tuple #[.int .i64 0, .int .i64 9])) ∨ (marksOf L ≠ 81 ∧ e = .returned (.tuple #[.int .i64 (marksOf L), .int .i64 0])))

theorem SlP.of_own {w : World} {base : Nat} {t : TypeId} {v : Value} {l : List Nat} (h : w.ownsRow base t 1 v l.length (l.map fun (n : Nat) => .int .i64 n)) : Sl w.heap.size v l.length (intsR w l) := ints_of_own h

end
section
open Go.RowKit

/-- A place in an ascending list: less ahead of it, no less from it on. -/
def PlaceOf (xs : List Nat) (t pos : Nat) : Prop := pos ≤ xs.length ∧ (∀ (a v : Nat), a < pos → xs[a]? = some v → v < t) ∧ ∀ (a v : Nat), pos ≤ a → xs[a]? = some v → t ≤ v
def BsPost (xs : List Nat) (t : Nat) (w : World) (e : Ending) (w' : World) : Prop := (∃ pos fb, e = .returned (.tuple #[.int .i64 (pos : Nat), .bool fb]) ∧ PlaceOf xs t pos) ∧ w = w'
theorem pair_lt {xs : List Nat} (h : xs.Pairwise (· < ·)) {a b u v : Nat} (hab : a < b) (ha : xs[a]? = some u) (hb : xs[b]? = some v) : u < v := by
  obtain ⟨h1, rfl⟩ := List.getElem?_eq_some_iff.1 ha
  obtain ⟨h2, rfl⟩ := List.getElem?_eq_some_iff.1 hb
  exact List.pairwise_iff_getElem.1 h a b h1 h2 hab

end
section
open Go.RowKit Go.Maps Go.Shelf

theorem plainElem_bool_inv {H : Type} {P : Program} {e : TypeId} (he : P.underlying e = some .bool) {v : Value} {z : DataW H × List MemPlace} (h : plainElem P e v = some z) : ∃ a, v = .bool a ∧ z = (.lit (.bool a), []) := by
  cases v <;> simp [plainElem, he] at h <;> exact ⟨_, rfl, h.symm⟩

/-- Letters in order, of those that have come. -/
def Came {H : Type} (D0 : DataW H) (left : Lit → Bool) (ys : List Nat) : Prop :=
  ys.Pairwise (· < ·) ∧ (∀ x ∈ ys, x < 256) ∧ ∀ x : Fin 256, x.val ∈ ys ↔ (has D0 (.int .u8 x.val) = true ∧ left (.int .u8 x.val) = false)
def OrderPost {H : Type} (D0 : DataW H) (w : World) (e : Ending) (w' : World) : Prop :=
  Below w.heap.size w w' ∧ ∃ ys : List Nat, e = .returned (.string ⟨(ys.map UInt8.ofNat).toArray⟩) ∧ Came D0 (fun _ => false) ys

theorem next_set {H : Type} {P : Program} (w : World) {ops : Array Oper} {rest : List Oper} {o : Oper} {a : Act} {Q : Exit → Act → World → Prop} (hg : o.guard = none) (it : Operand) (hop : o.op = Op.next it false) (k e : TypeId) (hk : P.underlying k = some (.int .u8)) (he : P.underlying e = some .bool) (b r n : Nat) (D : DataW H) (left : Lit → Bool) (cnt : Nat)
    (hit : a.eval it = .pointer (some ⟨r, 0, none⟩)) (h : w.ranges P k (plainElem (H := H) P e) b r n D left cnt)
    (hDone : cnt = 0 → (∀ kl, left kl = false) → wpList P ops Q rest (a.put o.dst (.tuple #[.bool false])) w)
    (hMore : ∀ (x : Nat) (v : Value) (w' : World) (cnt' : Nat), x < 256 → left (.int .u8 x) = true → has D (.int .u8 x) = true → w'.ranges P k (plainElem (H := H) P e) b r n D (fun z => left z && !z.sameKey (.int .u8 x)) cnt' → cnt' < cnt →
      w.grownBy w' (some r) → w'.heap.size = w.heap.size → (Instr.entry (.pointer (some ⟨r, 0, none⟩))).run P w' = .ok (.tuple #[.int .u8 x, v]) w' → wpList P ops Q rest (a.put o.dst (.tuple #[.bool true, .int .u8 x, v])) w') :
    wpList P ops Q (o :: rest) a w := by
  refine wpList_next_ranges w hg it hop k (Maps.int_keyed hk) (plainElem (H := H) P e) (Value.int .u8) Value.bool (fun key kl hkey => by obtain ⟨x, rfl, _⟩ := Maps.keyOf_int_inv hk hkey; exact ⟨x, rfl⟩) (fun v y hv => by obtain ⟨c, rfl, _⟩ := plainElem_bool_inv he hv; exact ⟨c, rfl⟩) b r n D left cnt hit h hDone ?_
  intro x c kl y w' cnt' hkey hlk hv hat hrg hlt hgr hsz hen
  obtain ⟨x', ex, rfl, hwx⟩ := Maps.keyOf_int_inv hk hkey
  cases ex
  have h2 : 0 ≤ x ∧ x < 256 := by
    have h3 : IntKind.u8.min ≤ x ∧ x ≤ IntKind.u8.max := by simpa [Lit.wf] using hwx
    have e1 : IntKind.u8.min = 0 := rfl
    have e2 : IntKind.u8.max = 255 := rfl
    omega
  obtain ⟨m, rfl⟩ : ∃ m : Nat, x = m := ⟨x.toNat, by omega⟩
  exact hMore m (.bool c) w' cnt' (by omega) hlk (Maps.has_true_of_atKey hat) hrg hlt hgr hsz hen
theorem row_ne_iter {H : Type} {P : Program} {k : TypeId} {R : Value → Option (DataW H × List MemPlace)} {w : World} {b r n : Nat} {D : DataW H} {left : Lit → Bool} {cnt base m cap size g : Nat} {e : TypeId} {xs : List Value} (h : w.ranges P k R b r n D left cnt) (ho : w.ownsRow base e size (.slice (some ⟨g, 0, none⟩) m cap) m xs) : g ≠ r := by
  obtain ⟨es, clock, since, seen, c0, _, _, _, _, hr, _⟩ := h
  rcases ho.2 with ⟨h', _⟩ | ⟨g', cap', cur, h', _, hg, _⟩
  · simp at h'
  · simp only [Value.slice.injEq, Option.some.injEq, Addr.mk.injEq, and_true, true_and] at h'
    obtain ⟨rfl, rfl⟩ := h'
    rintro rfl
    rw [hg] at hr
    cases hr

theorem row_open {w : World} {base m cap g : Nat} {e : TypeId} {xs : List Value} (ho : w.ownsRow base e 1 (.slice (some ⟨g, 0, none⟩) m cap) m xs) :
    base ≤ g ∧ ∃ cur : List Value, w.heap[g]? = some (.cells cur.toArray e (0, 0)) ∧ m ≤ cap ∧ cap ≤ maxLen ∧ cur.length = cap ∧ cur.take m = xs := by
  rcases ho.2 with ⟨h', _⟩ | ⟨g', cap', cur, h', hb, hg, h1, h2, h3, h4⟩
  · simp at h'
  · simp only [Value.slice.injEq, Option.some.injEq, Addr.mk.injEq, and_true, true_and] at h'
    obtain ⟨rfl, rfl⟩ := h'
    exact ⟨hb, cur.toList, by simpa using hg, h1, h2, by simpa using h3, by simpa using h4⟩

theorem step_copy_row {P : Program} {ops : Array Oper} {o : Oper} {a : Act} {w : World} {K : Act → World → Prop} {Q : Exit → Act → World → Prop} {E : Prop} (hgd : o.guard = none) (d s : Operand) (dT sT : TypeId)
    (ho : o.op = .call { callee := .builtin .copy, args := #[d, s], argTypes := #[dT, sT] }) (elem : TypeId) (hu : P.underlying dT = some (.slice elem)) (hsz : (P.info? elem).map (·.size) = some 1)
    (dp sp : Option Addr) (dLen dCap sLen sCap : Nat) (hd : a.eval d = .slice dp dLen dCap) (hs : a.eval s = .slice sp sLen sCap)
    (g off : Nat) (cur : List Value) (t : TypeId) (hg : w.heap[g]? = some (.cells cur.toArray t (0, 0))) (cs : List Value) (hn : cs.length = Nat.min sLen dLen)
    (hpos : 0 < cs.length → dp = some ⟨g, off, none⟩ ∧ ∃ ad, sp = some ad ∧ ∀ j v, cs[j]? = some v → w.cell? (ad.add j) = some v)
    (hfit : off + cs.length ≤ cur.length) (h1 : ∀ v ∈ cs, v.oneCell' = true)
    (h : ∀ w', Hid (w'.heap[g]? = some (.cells (splice cur off cs).toArray t (0, 0))) → w.grownBy w' (some g) → K (a.put o.dst (goInt cs.length)) w') :
    if Region.wanted o (yielded ops a.tmps) = true then Oper.wp P o a w K Q else E := by
  have hw : Region.wanted o (yielded ops a.tmps) = true := by simp [Region.wanted, hgd]
  rw [if_pos hw]
  by_cases h0 : cs.length = 0
  · obtain rfl : cs = [] := List.eq_nil_of_length_eq_zero h0
    have hrun := run_copy_none (P := P) w dT sT o.type elem dp sp dLen dCap sLen sCap hu hsz (by simpa using hn.symm)
    unfold Oper.wp
    simp [execOp, ho, resolve, invoke, builtin, hd, hs, hrun, Result.andThen]
    exact h w (show _ = _ by simpa [splice] using hg) ⟨rfl, rfl, rfl, Nat.le_refl _, fun _ _ _ => rfl⟩
  · obtain ⟨rfl, ad, rfl, hsrc⟩ := hpos (by omega)
    have hrun := run_copy_row (P := P) w dT sT o.type elem g off dLen dCap ad sLen sCap cur.toArray t cs hu hsz hg hn hsrc (by simpa using hfit) h1
    unfold Oper.wp
    simp [execOp, ho, resolve, invoke, builtin, hd, hs, hrun, Result.andThen]
    exact h _ (show _ = _ by simpa [splice] using setRow_heap w g _ _ t _ hg) ⟨rfl, rfl, rfl, by simp [World.setRow], fun k _ hk => setRow_other w g k _ (fun e => hk (by rw [e]))⟩
theorem came_start {H : Type} (D0 : DataW H) : Came D0 (has D0) [] := ⟨List.Pairwise.nil, by simp, fun x => by cases has D0 (.int .u8 x.val) <;> simp⟩
theorem rising_len (lo hi : Nat) (ys : List Nat) (h : ys.Pairwise (· < ·)) (hb : ∀ x ∈ ys, lo ≤ x ∧ x < hi) : ys.length ≤ hi - lo := by
  induction ys generalizing lo with
  | nil => simp
  | cons y ys ih =>
    obtain ⟨h1, h2⟩ := List.pairwise_cons.1 h
    have hy := hb y (by simp)
    have := ih (y + 1) h2 fun x hx => ⟨h1 x hx, (hb x (by simp [hx])).2⟩
    simp only [List.length_cons]
    omega
theorem row_shut {w : World} {base m cap g : Nat} {e : TypeId} {cur : List Value} (hb : base ≤ g) (hg : w.heap[g]? = some (.cells cur.toArray e (0, 0))) (h1 : m ≤ cap) (h2 : cap ≤ maxLen) (h3 : cur.length = cap) :
    w.ownsRow base e 1 (.slice (some ⟨g, 0, none⟩) m cap) m (cur.take m) :=
  ⟨by simp; omega, .inr ⟨g, cap, cur.toArray, rfl, hb, hg, h1, h2, by simpa using h3, by simp⟩⟩
theorem came_len {H : Type} {D0 : DataW H} {left : Lit → Bool} {ys : List Nat} (h : Came D0 left ys) : ys.length ≤ 256 := by
  exact rising_len 0 256 ys h.1 (fun x hx => ⟨Nat.zero_le _, h.2.1 x hx⟩)
def insertAt (ys : List Nat) (pos x : Nat) : List Nat := ys.take pos ++ x :: ys.drop pos
theorem insertAt_len (ys : List Nat) (pos x : Nat) : (insertAt ys pos x).length = ys.length + 1 := by
  simp [insertAt]
  omega
theorem mem_insertAt {ys : List Nat} {pos x y : Nat} : y ∈ insertAt ys pos x ↔ y = x ∨ y ∈ ys := by
  have h : y ∈ ys ↔ y ∈ ys.take pos ∨ y ∈ ys.drop pos := by rw [← List.mem_append, List.take_append_drop]
  simp only [insertAt, List.mem_append, List.mem_cons, h]
  constructor <;> (rintro (h | h | h) <;> simp [h])
theorem came_insert {H : Type} {D0 : DataW H} {left : Lit → Bool} {ys : List Nat} (h : Came D0 left ys) {x pos : Nat} (hx : x < 256) (hp : PlaceOf ys x pos) (hh : has D0 (.int .u8 x) = true) (hl : left (.int .u8 x) = true) :
    Came D0 (fun z => left z && !z.sameKey (.int .u8 x)) (insertAt ys pos x) := by
  have hno : x ∉ ys := fun hm => by
    have := ((h.2.2 ⟨x, hx⟩).1 hm).2
    simp [hl] at this
  refine ⟨?_, ?_, ?_⟩
  · unfold insertAt
    rw [List.pairwise_append]
    have a1 : ∀ v ∈ ys.take pos, v < x := fun v hv => by
      obtain ⟨a, ha⟩ := List.mem_iff_getElem?.1 hv
      rw [List.getElem?_take] at ha
      split at ha
      · exact hp.2.1 a v (by assumption) ha
      · cases ha
    have a2 : ∀ v ∈ ys.drop pos, x < v := fun v hv => by
      obtain ⟨a, ha⟩ := List.mem_iff_getElem?.1 hv
      rw [List.getElem?_drop] at ha
      have h1 := hp.2.2 (pos + a) v (by omega) ha
      have h2 : v ≠ x := fun e => hno (e ▸ List.mem_of_mem_drop hv)
      omega
    refine ⟨h.1.sublist (List.take_sublist _ _), List.pairwise_cons.2 ⟨a2, h.1.sublist (List.drop_sublist _ _)⟩, fun a ha b hb => ?_⟩
    rcases List.mem_cons.1 hb with rfl | hb
    · exact a1 a ha
    · exact Nat.lt_trans (a1 a ha) (a2 b hb)
  · intro y hy
    rcases mem_insertAt.1 hy with rfl | hy
    · exact hx
    · exact h.2.1 y hy
  · intro y
    rw [mem_insertAt, h.2.2 y]
    by_cases e : y.val = x
    · subst e
      simp [hh, Lit.sameKey]
    · have e' : (y.val : Int) ≠ (x : Int) := by omega
      simp [e, Lit.sameKey, e']
theorem insert_cells {β : Type} (f : Nat → β) (cur cs : List β) (ys : List Nat) (x pos : Nat) (hp : pos ≤ ys.length) (hc : cur.take (ys.length + 1) = ys.map f ++ [f x]) (hl : ys.length + 1 ≤ cur.length) (hcs : cs = (ys.drop pos).map f) :
    ((splice cur (pos + 1) cs).take (ys.length + 1)).set pos (f x) = (insertAt ys pos x).map f := by
  have hcl : cs.length = ys.length - pos := by rw [hcs]; simp
  have h1 : cur.take (pos + 1) = (ys.map f ++ [f x]).take (pos + 1) := by rw [← hc, List.take_take]; congr 1; omega
  have h2 : (splice cur (pos + 1) cs).take (ys.length + 1) = cur.take (pos + 1) ++ cs := by
    unfold splice
    rw [← List.append_assoc, List.take_append_of_le_length (by simp; omega), List.take_of_length_le (by simp; omega)]
  have h3 : (cur.take (pos + 1)).length = pos + 1 := by simp; omega
  have h4 : (cur.take (pos + 1)).take pos = (ys.take pos).map f := by
    rw [h1, List.take_take, show min pos (pos + 1) = pos by omega, List.take_append_of_le_length (by simpa using hp), List.map_take]
  have h5 : (cur.take (pos + 1)).set pos (f x) = (ys.take pos).map f ++ [f x] := by
    rw [← h4]
    apply List.ext_getElem?
    intro i
    rw [List.getElem?_set, List.getElem?_append]
    have hm : ((cur.take (pos + 1)).take pos).length = pos := by simp; omega
    by_cases e : pos = i
    · subst e
      simp [h3, hm]
    · by_cases e2 : i < pos
      · rw [if_neg e, if_pos (by omega), List.getElem?_take_of_lt e2]
      · rw [if_neg e, if_neg (by omega), List.getElem?_eq_none (by omega), List.getElem?_eq_none (by simp; omega)]
  rw [h2, List.set_append_left _ _ (by omega), h5, hcs]
  simp [insertAt]
def RI {H : Type} (w : World) (b n : Nat) (D0 : DataW H) (r : Nat) (v : Value) (wr : World) : Prop :=
  ∃ left cnt ys g cap, wr.ranges Tryz.prog 5 (plainElem (H := H) Tryz.prog 4) b r n D0 left cnt ∧ v = .slice (some ⟨g, 0, none⟩) ys.length cap ∧
    wr.ownsRow w.heap.size 5 1 v ys.length (ys.map (fun y : Nat => Value.int .u8 (y : Int))) ∧ Came D0 left ys ∧ Below w.heap.size w wr
theorem info_u8 : (Tryz.prog.info? 5).map (fun i => (i.zero, i.size, i.bytes)) = some (some (.int .u8 0), 1, 1) := by kernel_rfl

end
section
open Go.RowKit Go.Shelf

attribute [local go_sem] Oper.semAt_some
attribute [local go_sem ↓] ld_cut st_cut

/-- A set of letters, as a datum: each one that came, put at 'true'. -/
def setD {H : Type} (ys : List (Fin 256)) : DataW H := ys.foldl (fun D x => D.put (.int .u8 x.val) (.lit (.bool true))) (.map [])
theorem setD_snoc {H : Type} (ys : List (Fin 256)) (x : Fin 256) : setD (H := H) (ys ++ [x]) = (setD ys).put (.int .u8 x.val) (.lit (.bool true)) := by simp [setD]

theorem wf_u8 (y : Fin 256) : (Lit.int .u8 (y.val : Int)).wf = true := by
  have key : ∀ y : Fin 256, (Lit.int .u8 (y.val : Int)).wf = true := by decide +kernel
  exact key y
/-- The blocks from mb on are m maps, that of square q with the letters g q. -/
def MapsAre (H : Type) (w : World) (mb m : Nat) (g : Nat → List (Fin 256)) : Prop :=
  ∀ q, q < m → w.ownsMap Tryz.prog 5 (plainElem (H := H) Tryz.prog 4) (mb + q) (g q).length (setD (g q))

/-- What a hand that fits adds to a square. -/
def addOf (cs : List Cutter) (m T : Nat) (q : Nat) (x : Fit cs m T) : List (Fin 256) := (cs.getD x.1.1 ⟨[], fun _ _ => 0⟩).choices q ((cs.getD x.1.1 ⟨[], fun _ _ => 0⟩).fewest q + x.1.2)
def lettersTo (cs : List Cutter) (m T : Nat) (pre : List (Fit cs m T)) (q : Nat) : List (Fin 256) := pre.flatMap (addOf cs m T q)
theorem lettersTo_snoc (cs : List Cutter) (m T : Nat) (pre : List (Fit cs m T)) (x : Fit cs m T) (q : Nat) : lettersTo cs m T (pre ++ [x]) q = lettersTo cs m T pre q ++ addOf cs m T q x := by simp [lettersTo]
theorem addOf_len (cs : List Cutter) (m T : Nat) (q : Nat) (x : Fit cs m T) (hok : ∀ c ∈ cs, c.ok) : (addOf cs m T q x).length ≤ 8 := by
  obtain ⟨c, hc, _⟩ := x.2
  have e : cs.getD x.1.1 ⟨[], fun _ _ => 0⟩ = c := by simp [List.getD, hc]
  unfold addOf
  rw [e]
  exact Nat.le_trans (c.upto_len _ _ _) (hok c (List.mem_of_getElem? hc)).2.1
theorem lettersTo_len (cs : List Cutter) (m T : Nat) (pre : List (Fit cs m T)) (q : Nat) (hok : ∀ c ∈ cs, c.ok) : (lettersTo cs m T pre q).length ≤ 8 * pre.length := by
  induction pre with
  | nil => simp [lettersTo]
  | cons x pre ih =>
    have := addOf_len cs m T q x hok
    simp only [lettersTo, List.flatMap_cons, List.length_append, List.length_cons] at ih ⊢
    omega
/-- The letters that fit a square, of some cutters. -/
def lettersG (cs : List Cutter) (m T q : Nat) : List (Fin 256) := lettersTo cs m T (fits cs m T) q
def allLetters (L : Line) (q : Nat) : List (Fin 256) := lettersTo (cuttersOf L) L.squares.length L.total (fits (cuttersOf L) L.squares.length L.total) q

/-- gather hands back a slice of m maps. -/
def GatherPost (H : Type) (m : Nat) (g : Nat → List (Fin 256)) (w : World) (e : Ending) (w' : World) : Prop :=
  Below w.heap.size w w' ∧ ∃ sb mb, e = .returned (.slice (some ⟨sb, 0, none⟩) m m) ∧ sb < w'.heap.size ∧ w.heap.size ≤ mb ∧ mb + m ≤ w'.heap.size ∧ (∀ q, q < m → w'.cell? ⟨sb, q, none⟩ = some (.map (some (mb + q)))) ∧ MapsAre H w' mb m g

theorem blok_of_own {w : World} {base : Nat} {e : TypeId} {g n : Nat} {xs : List Value} (h : w.ownsRow base e 1 (.slice (some ⟨g, 0, none⟩) n n) n xs) : Blok w g e xs ∧ xs.length = n := by
  refine ⟨?_, by have := h.1; omega⟩
  rcases h.2 with ⟨h', _⟩ | ⟨g', cap, cur, h', _, hg, _, _, hsz, ht⟩
  · simp at h'
  · simp only [Value.slice.injEq, Option.some.injEq, Addr.mk.injEq, and_true, true_and] at h'
    obtain ⟨rfl, rfl⟩ := h'
    unfold Blok
    rw [hg, ← ht, List.take_of_length_le (by simp; omega)]
end
section
open Go.RowKit Go.Maps Go.Shelf

/-- The letters of zs, each once, from the least on. -/
def orderOf (zs : List (Fin 256)) : List Nat := (List.range 256).filter fun x => zs.any fun z => z.val == x
theorem mem_orderOf {zs : List (Fin 256)} {x : Nat} : x ∈ orderOf zs ↔ ∃ z ∈ zs, z.val = x := by
  simp only [orderOf, List.mem_filter, List.mem_range, List.any_eq_true, beq_iff_eq]
  constructor
  · rintro ⟨_, h⟩; exact h
  · rintro ⟨z, hz, rfl⟩; exact ⟨z.isLt, z, hz, rfl⟩
theorem orderOf_sorted (zs : List (Fin 256)) : (orderOf zs).Pairwise (· < ·) := List.pairwise_lt_range.sublist List.filter_sublist
theorem rising_ext {xs ys : List Nat} (hx : xs.Pairwise (· < ·)) (hy : ys.Pairwise (· < ·)) (h : ∀ a, a ∈ xs ↔ a ∈ ys) : xs = ys := by
  induction xs generalizing ys with
  | nil => cases ys with
    | nil => rfl
    | cons y ys => exact absurd ((h y).2 (by simp)) (by simp)
  | cons x xs ih =>
    cases ys with
    | nil => exact absurd ((h x).1 (by simp)) (by simp)
    | cons y ys =>
      obtain ⟨h1, h2⟩ := List.pairwise_cons.1 hx
      obtain ⟨k1, k2⟩ := List.pairwise_cons.1 hy
      have e : x = y := by
        rcases List.mem_cons.1 ((h x).1 (by simp)) with e | e
        · exact e
        · rcases List.mem_cons.1 ((h y).2 (by simp)) with e' | e'
          · exact e'.symm
          · have := k1 x e; have := h1 y e'; omega
      subst e
      rw [ih h2 k2 fun a => ⟨fun ha => by
        rcases List.mem_cons.1 ((h a).1 (by simp [ha])) with e | e
        · have := h1 a ha; omega
        · exact e, fun ha => by
        rcases List.mem_cons.1 ((h a).2 (by simp [ha])) with e | e
        · have := k1 a ha; omega
        · exact e⟩]

theorem setD_tidy {H : Type} (zs : List (Fin 256)) : Tidy (setD (H := H) zs) := by
  suffices h : ∀ (D : DataW H), Tidy D → Tidy (zs.foldl (fun D x => D.put (.int .u8 x.val) (.lit (.bool true))) D) from h _ tidy_empty
  induction zs with
  | nil => exact fun D h => h
  | cons z zs ih => exact fun D h => ih _ (h.put (by trivial) _)
theorem setD_has {H : Type} (zs : List (Fin 256)) (x : Fin 256) : has (setD (H := H) zs) (.int .u8 x.val) = true ↔ x ∈ zs := by
  suffices h : ∀ rs : List (Fin 256), has (setD (H := H) rs.reverse) (.int .u8 x.val) = true ↔ x ∈ rs by simpa using h zs.reverse
  intro rs
  induction rs with
  | nil => simp [setD, has]
  | cons r rs ih =>
    rw [List.reverse_cons, setD_snoc]
    by_cases e : x = r
    · subst e
      rw [has_put_same (setD_tidy _).isMap (by trivial)]
      simp
    · rw [has_put_other (by simp; omega), ih]
      simp [e]
theorem filter_or_len {α : Type} (p q : α → Bool) (l : List α) (h : ∀ a ∈ l, ¬(p a = true ∧ q a = true)) : (l.filter fun a => p a || q a).length = (l.filter p).length + (l.filter q).length := by
  induction l with
  | nil => simp
  | cons a l ih =>
    have h1 := h a (by simp)
    have h2 := ih fun b hb => h b (by simp [hb])
    simp only [List.filter_cons]
    cases hp : p a <;> cases hq : q a <;> simp_all <;> omega
theorem one_of : ∀ x : Fin 256, ((List.range 256).filter fun a => x.val == a).length = 1 := by decide +kernel
theorem orderOf_snoc (zs : List (Fin 256)) (x : Fin 256) : (orderOf (zs ++ [x])).length = if x ∈ zs then (orderOf zs).length else (orderOf zs).length + 1 := by
  split
  · rename_i h
    congr 1
    refine rising_ext (orderOf_sorted _) (orderOf_sorted _) fun a => ?_
    rw [mem_orderOf, mem_orderOf]
    constructor
    · rintro ⟨z, hz, e⟩
      rcases List.mem_append.1 hz with hz | hz
      · exact ⟨z, hz, e⟩
      · rw [List.mem_singleton] at hz; subst hz; exact ⟨_, h, e⟩
    · rintro ⟨z, hz, e⟩; exact ⟨z, List.mem_append_left _ hz, e⟩
  · rename_i h
    have e : orderOf (zs ++ [x]) = (List.range 256).filter fun a => (zs.any fun z => z.val == a) || (x.val == a) := by simp [orderOf]
    rw [e, filter_or_len, one_of]
    · rfl
    · rintro a _ ⟨h1, h2⟩
      obtain ⟨z, hz, hz2⟩ := List.any_eq_true.1 h1
      have : z = x := Fin.ext (by rw [beq_iff_eq] at hz2 h2; omega)
      exact h (this ▸ hz)
theorem setD_size {H : Type} (zs : List (Fin 256)) : size (setD (H := H) zs) = (orderOf zs).length := by
  suffices h : ∀ rs : List (Fin 256), size (setD (H := H) rs.reverse) = (orderOf rs.reverse).length by simpa using h zs.reverse
  intro rs
  induction rs with
  | nil =>
    have e : orderOf [] = [] := List.filter_eq_nil_iff.2 (by simp)
    rw [List.reverse_nil, e]
    rfl
  | cons r rs ih =>
    rw [List.reverse_cons, setD_snoc, size_put (setD_tidy _), orderOf_snoc, ih]
    by_cases e : r ∈ rs.reverse
    · rw [if_pos ((setD_has _ _).2 e), if_pos e]
    · rw [if_neg (fun h => e ((setD_has _ _).1 h)), if_neg e]
theorem orderOf_len (zs : List (Fin 256)) : (orderOf zs).length ≤ 256 := by
  have := List.length_filter_le (fun x => zs.any fun z => z.val == x) (List.range 256)
  simpa [orderOf] using this

/-- The text of the letters of zs. -/
def orderText (zs : List (Fin 256)) : ByteArray := ⟨((orderOf zs).map UInt8.ofNat).toArray⟩
end
section
open Go.RowKit Go.Maps Go.Shelf

theorem info_string : (Tryz.prog.info? 9).map (fun i => (i.zero, i.size, i.bytes)) = some (some (.string ByteArray.empty), 1, 16) := by kernel_rfl

theorem own_mono {w : World} {base base' : Nat} {e : TypeId} {size : Nat} {v : Value} {n : Nat} {xs : List Value} (h : w.ownsRow base e size v n xs) (hb : base' ≤ base) : w.ownsRow base' e size v n xs := by
  obtain ⟨h1, h2⟩ := h
  refine ⟨h1, h2.imp id ?_⟩
  rintro ⟨g, cap, cur, r1, r2, r3⟩
  exact ⟨g, cap, cur, r1, by omega, r3⟩
/-- The texts of the squares' letters. -/
def lettersOf (L : Line) : List ByteArray := (List.range L.squares.length).map fun q => orderText (allLetters L q)
/-- Letters answers ErrClash, or the squares' letters. -/
def LettersPost (L : Line) (w : World) (e : Ending) (w' : World) : Prop :=
  Below w.heap.size w w' ∧ ((handsOf L = [] ∧ e = .returned (.tuple #[.slice none 0 0, .int .i64 9])) ∨
    (handsOf L ≠ [] ∧ ∃ v, e = .returned (.tuple #[v, .int .i64 0]) ∧ w'.ownsRow w.heap.size 9 1 v L.squares.length ((lettersOf L).map Value.string)))

theorem hands_none (v : Value) (L : Line) (w : World) (hL : L.ok) (hv : LineAt w w.heap.size v L) (h : handsOf L = []) :
    Calls Tryz.prog 50 #[v] w fun e w' => e = .returned (.tuple #[.slice none 0 0, .int .i64 9]) ∧ Below w.heap.size w w' :=
  (hands_any v L w hL hv).mono fun e w' hp => by
    rcases hp with ⟨hb, ⟨_, rfl⟩ | ⟨h', _⟩⟩
    · exact ⟨rfl, hb⟩
    · exact absurd h h'
theorem hands_some (v : Value) (L : Line) (w : World) (hL : L.ok) (hv : LineAt w w.heap.size v L) (h : handsOf L ≠ []) :
    Calls Tryz.prog 50 #[v] w fun e w' => (∃ u, e = .returned (.tuple #[u, .int .i64 0])) ∧ Below w.heap.size w w' :=
  (hands_any v L w hL hv).mono fun e w' hp => by
    rcases hp with ⟨hb, ⟨h', _⟩ | ⟨_, u, rfl, _⟩⟩
    · exact absurd h' h
    · exact ⟨⟨u, rfl⟩, hb⟩

end
section
section

theorem leastOf_iff (l : List Nat) (a T : Nat) : leastOf a l ≤ T ↔ a ≤ T ∨ ∃ x ∈ l, x ≤ T := by
  unfold leastOf
  induction l generalizing a with
  | nil => simp
  | cons x l ih =>
    rw [List.foldl_cons, ih]
    constructor
    · rintro (h | ⟨y, hy, h⟩)
      · rcases Nat.le_total a x with h1 | h1
        · exact .inl (by omega)
        · exact .inr ⟨x, by simp, by omega⟩
      · exact .inr ⟨y, by simp [hy], h⟩
    · rintro (h | ⟨y, hy, h⟩)
      · exact .inl (by omega)
      · rcases List.mem_cons.1 hy with rfl | hy
        · exact .inl (by omega)
        · exact .inr ⟨y, hy, h⟩
theorem hands_iff (L : Line) (h : L.total < 81) : handsOf L ≠ [] ↔ marksOf L ≤ L.total := by
  unfold marksOf
  rw [leastOf_iff]
  have e : handsOf L = [] ↔ ∀ k, k < (cuttersOf L).length → fitAt (cuttersOf L) L.squares.length L.total k = none := by
    simp [handsOf, fits, fitsTo]
  constructor
  · intro hne
    refine .inr (Classical.byContradiction fun hno => hne (e.2 fun k hk => ?_))
    have hc : (cuttersOf L)[k]? = some (cuttersOf L)[k] := List.getElem?_eq_getElem hk
    refine fitAt_no _ _ _ _ _ hc fun hle => hno ⟨_, ?_, hle⟩
    exact List.mem_map.2 ⟨_, List.getElem_mem hk, rfl⟩
  · rintro (h' | ⟨x, hx, hle⟩) he
    · omega
    · obtain ⟨c, hc, rfl⟩ := List.mem_map.1 hx
      obtain ⟨k, hk⟩ := List.mem_iff_getElem?.1 hc
      have h1 := e.1 he k (List.getElem?_eq_some_iff.1 hk).1
      rw [fitAt_yes _ _ _ _ c hk hle] at h1
      cases h1
end
section

theorem pc_sub : ∀ a b : Fin 32, a.val &&& b.val = a.val → pc a.val ≤ pc b.val := by decide +kernel
theorem pc32_le : ∀ a : Fin 32, pc a.val ≤ 5 := by decide +kernel

/-- A square with a letter of strokes s, of which v are visible. -/
def TrueSq (wn sc : Nat) (q : List Light) (s v : Nat) : Prop :=
  s < 32 ∧ v < 32 ∧ pc (diff s v) ≤ wn ∧ pc (diff v s) ≤ sc ∧ ∀ x ∈ q, x.shows < 32 ∧ x.seen = v &&& x.shows

theorem diff_bit (a b i : Nat) : (diff a b).testBit i = (a.testBit i && !b.testBit i) := by
  unfold diff
  rw [Nat.testBit_xor, Nat.testBit_and]
  cases a.testBit i <;> cases b.testBit i <;> rfl
theorem diff_lt32 (a b : Nat) (h : a < 32) : diff a b < 32 := diff_lt a b 5 h
/-- All strokes that some light shows. -/
def shown (q : List Light) : Nat := q.foldl (fun a x => a ||| x.shows) 0
theorem vis_true (v : Nat) : ∀ (q : List Light) (a : Nat), (∀ x ∈ q, x.seen = v &&& x.shows) → q.foldl (fun a x => a ||| x.seen) (v &&& a) = v &&& q.foldl (fun a x => a ||| x.shows) a := by
  intro q
  induction q with
  | nil => intro a _; rfl
  | cons x q ih =>
    intro a h
    rw [List.foldl_cons, List.foldl_cons, h x (by simp), ← Nat.and_or_distrib_left]
    exact ih _ fun y hy => h y (by simp [hy])
theorem hidn_true (v : Nat) : ∀ (q : List Light) (a : Nat), (∀ x ∈ q, x.seen = v &&& x.shows) → q.foldl (fun a x => a ||| diff x.shows x.seen) (diff a v) = diff (q.foldl (fun a x => a ||| x.shows) a) v := by
  intro q
  induction q with
  | nil => intro a _; rfl
  | cons x q ih =>
    intro a h
    rw [List.foldl_cons, List.foldl_cons, show diff a v ||| diff x.shows x.seen = diff (a ||| x.shows) v by
      apply Nat.eq_of_testBit_eq
      intro i
      rw [Nat.testBit_or, diff_bit, diff_bit, diff_bit, h x (by simp), Nat.testBit_and, Nat.testBit_or]
      cases a.testBit i <;> cases v.testBit i <;> cases x.shows.testBit i <;> rfl]
    exact ih _ fun y hy => h y (by simp [hy])
theorem cost_true {wn sc : Nat} {q : List Light} {s v : Nat} (h : TrueSq wn sc q s v) : cost wn sc q s ≤ pc (diff s v) + pc (diff v s) := by
  obtain ⟨h1, h2, h3, h4, h5⟩ := h
  have e1 : vis q = v &&& shown q := by
    have := vis_true v q 0 fun x hx => (h5 x hx).2
    rwa [Nat.and_zero] at this
  have e2 : hidn q = diff (shown q) v := by
    have := hidn_true v q 0 fun x hx => (h5 x hx).2
    rwa [show diff 0 v = 0 by unfold diff; simp] at this
  have l1 : shown q < 32 := by
    have key : ∀ (q : List Light) (a : Nat), a < 32 → (∀ x ∈ q, x.shows < 32) → q.foldl (fun a x => a ||| x.shows) a < 32 := by
      intro q
      induction q with
      | nil => intro a ha _; exact ha
      | cons x q ih => intro a ha hq; exact ih _ (Nat.or_lt_two_pow (n := 5) ha (hq x (by simp))) fun y hy => hq y (by simp [hy])
    exact key q 0 (by omega) fun x hx => (h5 x hx).1
  have z : vis q &&& hidn q = 0 := by
    rw [e1, e2]
    apply Nat.eq_of_testBit_eq
    intro i
    rw [Nat.testBit_and, diff_bit, Nat.testBit_and]
    cases v.testBit i <;> simp
  have a1 : pc (diff (vis q) s) ≤ pc (diff v s) := by
    refine pc_sub ⟨diff (vis q) s, ?_⟩ ⟨diff v s, diff_lt32 v s h2⟩ ?_
    · rw [e1]; exact diff_lt32 _ _ (Nat.lt_of_le_of_lt Nat.and_le_left h2)
    · show diff (vis q) s &&& diff v s = diff (vis q) s
      rw [e1]
      apply Nat.eq_of_testBit_eq
      intro i
      rw [Nat.testBit_and, diff_bit, diff_bit, Nat.testBit_and]
      cases v.testBit i <;> simp
  have a2 : pc (hidn q &&& s) ≤ pc (diff s v) := by
    refine pc_sub ⟨hidn q &&& s, ?_⟩ ⟨diff s v, diff_lt32 s v h1⟩ ?_
    · exact Nat.lt_of_le_of_lt Nat.and_le_right h1
    · show hidn q &&& s &&& diff s v = hidn q &&& s
      rw [e2]
      apply Nat.eq_of_testBit_eq
      intro i
      rw [Nat.testBit_and, Nat.testBit_and, diff_bit, diff_bit]
      cases v.testBit i <;> cases s.testBit i <;> simp
  have z2 : pc (vis q &&& hidn q) = 0 := by rw [z]; decide
  rw [cost_sum (by omega) (by omega) (by omega)]
  omega

/-- What truly is on a line: the hand, and for each square the letter's number in the hand, and the strokes that are visible. -/
structure Truth (L : Line) (hand : Nat) (ks vs : List Nat) : Prop where
  hand_lt : hand < L.hands.length
  len : ks.length = L.squares.length
  len' : vs.length = L.squares.length
  sq : ∀ (i : Nat) (H : Hand) (q : List Light) (k v : Nat), L.hands[hand]? = some H → L.squares[i]? = some q → ks[i]? = some k → vs[i]? = some v → ∃ s, H.shapes[k]? = some s ∧ TrueSq L.worn L.scr q s.strokes v
def markOf (S : List Shape) (k v : Nat) : Nat := pc (diff (S.getD k ⟨0, 0⟩).strokes v) + pc (diff v (S.getD k ⟨0, 0⟩).strokes)
def marksTo (S : List Shape) (ks vs : List Nat) (n : Nat) : Nat := ((List.range n).map fun i => markOf S (ks.getD i 0) (vs.getD i 0)).sum
theorem marksTo_succ (S : List Shape) (ks vs : List Nat) (n : Nat) : marksTo S ks vs (n + 1) = marksTo S ks vs n + markOf S (ks.getD n 0) (vs.getD n 0) := by simp [marksTo, List.range_succ]

theorem leastOf_le_mem {a x : Nat} {l : List Nat} (h : x ∈ l) : leastOf a l ≤ x := by
  unfold leastOf
  induction l generalizing a with
  | nil => cases h
  | cons y l ih =>
    rw [List.foldl_cons]
    rcases List.mem_cons.1 h with rfl | h
    · exact Nat.le_trans (leastOf_le l _) (Nat.min_le_right _ _)
    · exact ih h
theorem fewest_need (c : Cutter) (q k : Nat) (hk : k < c.shapes.length) : c.fewest q ≤ c.need q k := by
  unfold Cutter.fewest Cutter.row
  exact leastOf_le_mem (List.mem_map.2 ⟨k, List.mem_range.2 hk, rfl⟩)

theorem truth_need {L : Line} {hand : Nat} {ks vs : List Nat} (h : Truth L hand ks vs) (H : Hand) (hH : L.hands[hand]? = some H) (i : Nat) (hi : i < L.squares.length) :
    ks.getD i 0 < H.shapes.length ∧ (cutterOf L H.shapes).need i (ks.getD i 0) ≤ markOf H.shapes (ks.getD i 0) (vs.getD i 0) := by
  have h1 : i < ks.length := by rw [h.len]; exact hi
  have h2 : i < vs.length := by rw [h.len']; exact hi
  have e1 : ks.getD i 0 = ks[i] := by simp [List.getD, h1]
  have e2 : vs.getD i 0 = vs[i] := by simp [List.getD, h2]
  obtain ⟨s, hs, ht⟩ := h.sq i H L.squares[i] ks[i] vs[i] hH (List.getElem?_eq_getElem hi) (List.getElem?_eq_getElem h1) (List.getElem?_eq_getElem h2)
  rw [e1, e2]
  refine ⟨(List.getElem?_eq_some_iff.1 hs).1, ?_⟩
  rw [cutterOf_need]
  have e3 : H.shapes.getD ks[i] ⟨0, 0⟩ = s := by simp [List.getD, hs]
  have e4 : L.squares.getD i [] = L.squares[i] := by simp [List.getD, hi]
  rw [e4]
  simp only [markOf]
  rw [e3]
  exact cost_true ht
theorem truth_sum {L : Line} {hand : Nat} {ks vs : List Nat} (h : Truth L hand ks vs) (H : Hand) (hH : L.hands[hand]? = some H) (n : Nat) (hn : n ≤ L.squares.length) :
    (cutterOf L H.shapes).sum n ≤ marksTo H.shapes ks vs n ∧ ∀ i, i < n → (cutterOf L H.shapes).sum n + (cutterOf L H.shapes).need i (ks.getD i 0) ≤ marksTo H.shapes ks vs n + (cutterOf L H.shapes).fewest i := by
  induction n with
  | zero => exact ⟨by simp [Cutter.sum], fun i hi => by omega⟩
  | succ n ih =>
    obtain ⟨h1, h2⟩ := ih (by omega)
    obtain ⟨k1, k2⟩ := truth_need h H hH n (by omega)
    have h3 := fewest_need (cutterOf L H.shapes) n _ k1
    rw [Cutter.sum_succ, marksTo_succ]
    refine ⟨by omega, fun i hi => ?_⟩
    by_cases e : i = n
    · subst e; omega
    · have := h2 i (by omega); omega
theorem cutters_at {L : Line} {hand : Nat} {H : Hand} (hH : L.hands[hand]? = some H) : (cuttersOf L)[hand]? = some (cutterOf L H.shapes) := by
  unfold cuttersOf
  rw [List.getElem?_map, hH]
  rfl
theorem mem_fits {cs : List Cutter} {m T k : Nat} {c : Cutter} (hc : cs[k]? = some c) (hs : c.sum m ≤ T) : (⟨(k, T - c.sum m), c, hc, by omega⟩ : Fit cs m T) ∈ fits cs m T := by
  unfold fits fitsTo
  rw [List.mem_filterMap]
  exact ⟨k, List.mem_range.2 (List.getElem?_eq_some_iff.1 hc).1, fitAt_yes cs m T k c hc hs⟩
/-- The hand that cut the line fits. -/
theorem truth_hand {L : Line} {hand : Nat} {ks vs : List Nat} (h : Truth L hand ks vs) (H : Hand) (hH : L.hands[hand]? = some H) (hm : marksTo H.shapes ks vs L.squares.length ≤ L.total) : hand ∈ handsOf L := by
  unfold handsOf
  exact List.mem_map.2 ⟨_, mem_fits (cutters_at hH) (Nat.le_trans (truth_sum h H hH _ (Nat.le_refl _)).1 hm), rfl⟩
theorem mem_choices {c : Cutter} {q most k : Nat} (hk : k < c.shapes.length) (h : c.need q k ≤ most) : letF (c.shapes.getD k ⟨0, 0⟩).letter ∈ c.choices q most := by
  unfold Cutter.choices Cutter.upto
  rw [List.mem_filterMap]
  exact ⟨k, List.mem_range.2 hk, by rw [if_pos h]⟩
/-- The letters on the line fit. -/
theorem truth_letter {L : Line} {hand : Nat} {ks vs : List Nat} (h : Truth L hand ks vs) (H : Hand) (hH : L.hands[hand]? = some H) (hm : marksTo H.shapes ks vs L.squares.length ≤ L.total) (i : Nat) (hi : i < L.squares.length) :
    letF (H.shapes.getD (ks.getD i 0) ⟨0, 0⟩).letter ∈ allLetters L i := by
  obtain ⟨h1, h2⟩ := truth_sum h H hH _ (Nat.le_refl _)
  have h3 := h2 i hi
  obtain ⟨k1, _⟩ := truth_need h H hH i hi
  have hc := cutters_at hH
  unfold allLetters lettersTo
  rw [List.mem_flatMap]
  refine ⟨_, mem_fits hc (Nat.le_trans h1 hm), ?_⟩
  have e : (cuttersOf L).getD hand ⟨[], fun _ _ => 0⟩ = cutterOf L H.shapes := by simp [List.getD, hc]
  unfold addOf
  simp only
  rw [e]
  exact mem_choices (c := cutterOf L H.shapes) k1 (by omega)
end
section

def hasBit (s k : Nat) : Bool := s / 2 ^ k % 2 == 1
theorem vis_step : ∀ (k : Fin 5) (s v : Fin 32), v.val / 2 ^ k.val = s.val / 2 ^ k.val →
    v.val / 2 ^ (k.val + 1) = s.val / 2 ^ (k.val + 1) ∧
    (hasBit s.val k.val = true → 2 ^ k.val ≤ v.val ∧ (v.val - 2 ^ k.val) / 2 ^ (k.val + 1) = s.val / 2 ^ (k.val + 1) ∧ pc (diff s.val (v.val - 2 ^ k.val)) = pc (diff s.val v.val) + 1 ∧ pc (diff (v.val - 2 ^ k.val) s.val) = pc (diff v.val s.val)) ∧
    (hasBit s.val k.val = false → v.val + 2 ^ k.val < 32 ∧ (v.val + 2 ^ k.val) / 2 ^ (k.val + 1) = s.val / 2 ^ (k.val + 1) ∧ pc (diff s.val (v.val + 2 ^ k.val)) = pc (diff s.val v.val) ∧ pc (diff (v.val + 2 ^ k.val) s.val) = pc (diff v.val s.val) + 1) := by
  decide +kernel
theorem pc_self : ∀ s : Fin 32, pc (diff s.val s.val) = 0 := by decide +kernel
/-- After k strokes: v is visible of s; a may yet be worn of wn, b scratched in of sc. -/
def VisAt (s wn sc k v a b : Nat) : Prop := s < 32 ∧ v < 32 ∧ v / 2 ^ k = s / 2 ^ k ∧ pc (diff s v) + a ≤ wn ∧ pc (diff v s) + b ≤ sc
theorem VisAt.start {s wn sc a b : Nat} (hs : s < 32) (ha : a ≤ wn) (hb : b ≤ sc) : VisAt s wn sc 0 s a b := by
  have h := pc_self ⟨s, hs⟩
  simp only at h
  exact ⟨hs, hs, rfl, by omega, by omega⟩
theorem VisAt.stay {s wn sc k v a b : Nat} (h : VisAt s wn sc k v a b) (hk : k < 5) : VisAt s wn sc (k + 1) v a b := by
  obtain ⟨h1, h2, h3, h4, h5⟩ := h
  exact ⟨h1, h2, (vis_step ⟨k, hk⟩ ⟨s, h1⟩ ⟨v, h2⟩ h3).1, h4, h5⟩
theorem VisAt.wear {s wn sc k v a b : Nat} (h : VisAt s wn sc k v a b) (hk : k < 5) (hb : hasBit s k = true) (ha : 0 < a) :
    2 ^ k ≤ v ∧ VisAt s wn sc (k + 1) (v - 2 ^ k) (a - 1) b ∧ pc (diff s (v - 2 ^ k)) + pc (diff (v - 2 ^ k) s) = pc (diff s v) + pc (diff v s) + 1 := by
  obtain ⟨h1, h2, h3, h4, h5⟩ := h
  obtain ⟨k1, k2, k3, k4⟩ := (vis_step ⟨k, hk⟩ ⟨s, h1⟩ ⟨v, h2⟩ h3).2.1 hb
  simp only at k1 k2 k3 k4
  exact ⟨k1, ⟨h1, Nat.lt_of_le_of_lt (Nat.sub_le _ _) h2, k2, by omega, by omega⟩, by omega⟩
theorem VisAt.scratch {s wn sc k v a b : Nat} (h : VisAt s wn sc k v a b) (hk : k < 5) (hb : hasBit s k = false) (ha : 0 < b) :
    v + 2 ^ k < 32 ∧ VisAt s wn sc (k + 1) (v + 2 ^ k) a (b - 1) ∧ pc (diff s (v + 2 ^ k)) + pc (diff (v + 2 ^ k) s) = pc (diff s v) + pc (diff v s) + 1 := by
  obtain ⟨h1, h2, h3, h4, h5⟩ := h
  obtain ⟨k1, k2, k3, k4⟩ := (vis_step ⟨k, hk⟩ ⟨s, h1⟩ ⟨v, h2⟩ h3).2.2 hb
  simp only at k1 k2 k3 k4
  exact ⟨k1, ⟨h1, k1, k2, by omega, by omega⟩, by omega⟩
end
end
end Go.Proofs.YtmfjfjahemlhkaaGreat.Sg
