/- What is said of points if no note says anything: lists of spans, and the matrix of them. · unsaid: what is said of points if no note says anything. · The iterator of all that is left. · Small laws on aggregates that are built of parts whose cells are a variable. · What an iterator of matrices hands out, collected. · allOf: what is left of a dating, for each choice of ways, as a slice. -/
import Derived.Test.YtcbdcdpoackplaaLf
import Derived.Test.YtcbdcdpoackplaaLk
import Derived.WalkKit
import Derived.Laws.Tables
import Derived.Maps.OwnIn
namespace Go.Proofs.Ytcbdcdpoackplaa
section
section
open Go.RowKit Dt

/-- A matrix that is filled as far as its n-th cell. -/
def mixF (F G : Mat) (n : Nat) : List Value := (List.range 100).map fun k => .int .i64 (if k < n then F (k / 10) (k % 10) else G (k / 10) (k % 10))
theorem mixF_zero (F G : Mat) : mixF F G 0 = cellsM G := by simp [mixF, cellsM]
theorem mixF_all (F G : Mat) : mixF F G 100 = cellsM F := by
  unfold mixF cellsM
  refine List.map_congr_left fun k hk => ?_
  rw [if_pos (List.mem_range.1 hk)]
theorem mixF_len (F G : Mat) (n : Nat) : (mixF F G n).length = 100 := by simp [mixF]
theorem mixF_set (F G : Mat) (i j : Nat) (_ : i < 10) (hj : j < 10) : (mixF F G (i * 10 + j)).set (i * 10 + j) (.int .i64 (F i j)) = mixF F G (i * 10 + (j + 1)) := by
  apply List.ext_getElem?
  intro k
  by_cases hk : k < 100
  · rw [List.getElem?_set]
    by_cases h : i * 10 + j = k
    · subst h
      rw [if_pos rfl, if_pos (by simpa [mixF] using hk)]
      simp only [mixF, List.getElem?_map, List.getElem?_range hk, Option.map_some]
      rw [if_pos (by omega), show (i * 10 + j) / 10 = i by omega, show (i * 10 + j) % 10 = j by omega]
    · rw [if_neg h]
      simp only [mixF, List.getElem?_map, List.getElem?_range hk, Option.map_some]
      by_cases h2 : k < i * 10 + j
      · rw [if_pos h2, if_pos (by omega)]
      · rw [if_neg h2, if_neg (by omega)]
  · rw [List.getElem?_eq_none (by simp [mixF]; omega), List.getElem?_eq_none (by simp [mixF]; omega)]
theorem mixF_skip (F G : Mat) (i : Nat) (hi : i < 10) (h : F i i = G i i) : mixF F G (i * 10 + i) = mixF F G (i * 10 + (i + 1)) := by
  unfold mixF
  refine List.map_congr_left fun k hk => ?_
  by_cases h1 : k < i * 10 + i
  · rw [if_pos h1, if_pos (by omega)]
  · rw [if_neg h1]
    by_cases h2 : k = i * 10 + i
    · subst h2
      rw [if_pos (by omega), show (i * 10 + i) / 10 = i by omega, show (i * 10 + i) % 10 = i by omega, h]
    · rw [if_neg (by omega)]
theorem mixF_at (F G : Mat) (n i j : Nat) (hi : i < 10) (hj : j < 10) (hn : n ≤ i * 10 + j) : (mixF F G n)[i * 10 + j]? = some (.int .i64 (G i j)) := by
  have h : i * 10 + j < 100 := by omega
  simp only [mixF, List.getElem?_map, List.getElem?_range h, Option.map_some]
  rw [if_neg (by omega), show (i * 10 + j) / 10 = i by omega, show (i * 10 + j) % 10 = j by omega]
/-- The cells of ten spans. -/
def spanL (f : Nat → Int × Int) : List Value := (List.range 20).map fun k => .int .i64 (if k % 2 = 0 then (f (k / 2)).1 else (f (k / 2)).2)
theorem spanL_len (f : Nat → Int × Int) : (spanL f).length = 20 := by simp [spanL]
theorem spanL_lo (f : Nat → Int × Int) (p : Nat) (hp : p < 10) : (spanL f)[p * 2]? = some (.int .i64 (f p).1) := by
  have h : p * 2 < 20 := by omega
  simp only [spanL, List.getElem?_map, List.getElem?_range h, Option.map_some]
  rw [if_pos (by omega), show p * 2 / 2 = p by omega]
theorem spanL_hi (f : Nat → Int × Int) (p : Nat) (hp : p < 10) : (spanL f)[p * 2 + 1]? = some (.int .i64 (f p).2) := by
  have h : p * 2 + 1 < 20 := by omega
  simp only [spanL, List.getElem?_map, List.getElem?_range h, Option.map_some]
  rw [if_neg (by omega), show (p * 2 + 1) / 2 = p by omega]
theorem spanL_set (f : Nat → Int × Int) (p : Nat) (s : Int × Int) : ((spanL f).set (p * 2) (.int .i64 s.1)).set (p * 2 + 1) (.int .i64 s.2) = spanL (fun q => if q = p then s else f q) := by
  apply List.ext_getElem?
  intro k
  by_cases hk : k < 20
  · rw [List.getElem?_set, List.getElem?_set]
    simp only [spanL, List.length_set, List.length_map, List.length_range, List.getElem?_map, List.getElem?_range hk, Option.map_some]
    by_cases h1 : p * 2 + 1 = k
    · subst h1
      rw [if_pos rfl, if_pos hk, if_neg (by omega), if_pos (by omega)]
    · rw [if_neg h1]
      by_cases h2 : p * 2 = k
      · subst h2
        rw [if_pos rfl, if_pos (by omega), if_pos (by omega), if_pos (by omega)]
      · have hne : ¬ k / 2 = p := by omega
        rw [if_neg h2]
        simp only [if_neg hne]
  · rw [List.getElem?_eq_none (by simp [spanL]; omega), List.getElem?_eq_none (by simp [spanL]; omega)]
def flatS (l : List (Int × Int)) : List Value := l.flatMap fun x => [.int .i64 x.1, .int .i64 x.2]
theorem spanL_splice (d : Dat) (h : d.eras.length ≤ 3) (f : Nat → Int × Int) (hf : ∀ p, p < 10 → f p = if p = 0 then (0, 0) else (-3000, 3000)) :
    (spanL f).take 14 ++ flatS d.eras ++ (spanL f).drop (14 + (flatS d.eras).length) = spanL d.base := by
  have e : spanL f = spanL fun p => if p = 0 then (0, 0) else (-3000, 3000) := by
    unfold spanL
    refine List.map_congr_left fun k hk => ?_
    rw [hf (k / 2) (by have := List.mem_range.1 hk; omega)]
  rw [e]
  unfold Dat.base
  rcases d with ⟨st, er, nt⟩
  simp only at h ⊢
  rcases er with _ | ⟨x, _ | ⟨y, _ | ⟨z, _ | ⟨u, r⟩⟩⟩⟩
  · rfl
  · rfl
  · rfl
  · rfl
  · simp at h
theorem flatS_len (l : List (Int × Int)) : (flatS l).length = 2 * l.length := by
  induction l with
  | nil => rfl
  | cons x l ih =>
    simp only [flatS, List.flatMap_cons, List.length_append, List.length_cons, List.length_nil] at ih ⊢
    omega
theorem flatS_get (l : List (Int × Int)) : ∀ (j : Nat) (v : Value), (flatS l)[j]? = some v → ∃ x, l[j / 2]? = some x ∧ v = .int .i64 (if j % 2 = 0 then x.1 else x.2) := by
  induction l with
  | nil => intro j v h; simp [flatS] at h
  | cons x l ih =>
    intro j v h
    simp only [flatS, List.flatMap_cons] at h ih
    match j, h with
    | 0, h => exact ⟨x, rfl, by simpa using h.symm⟩
    | 1, h => exact ⟨x, rfl, by simpa using h.symm⟩
    | j + 2, h =>
      obtain ⟨y, h1, h2⟩ := ih j v (by simpa using h)
      refine ⟨y, ?_, ?_⟩
      · rw [show (j + 2) / 2 = j / 2 + 1 by omega]
        simpa using h1
      · rw [h2, show (j + 2) % 2 = j % 2 by omega]
theorem flatS_one (l : List (Int × Int)) : ∀ v ∈ flatS l, v.oneCell' = true := by
  intro v hv
  simp only [flatS, List.mem_flatMap] at hv
  obtain ⟨x, -, hv⟩ := hv
  simp at hv
  rcases hv with rfl | rfl <;> rfl
theorem run_loadCells_nil {P : Program} (w : World) (a : Addr) : (loadCells a 0).run P w = .ok #[] w := by simpa using run_loadCells_list (P := P) w a [] (by simp)
/-- The builtin copy, at elements of two cells, into a block of the call's own. -/
theorem run_copy_two {P : Program} (w : World) (dT sT ty elem : TypeId) (g o dLen dCap : Nat) (sp : Option Addr) (sLen sCap : Nat) (cur : List Value) (t : TypeId) (cs : List Value)
    (hu : P.underlying dT = some (.slice elem)) (hs : (P.info? elem).map (·.size) = some 2) (hg : w.heap[g]? = some (.cells cur.toArray t (0, 0))) (hle : sLen ≤ dLen) (hn : cs.length = 2 * sLen)
    (hsrc : 0 < sLen → ∃ ad, sp = some ad ∧ ∀ j v, cs[j]? = some v → w.cell? (ad.add j) = some v) (hfit : o + cs.length ≤ cur.length) (h1 : ∀ v ∈ cs, v.oneCell' = true) :
    ∃ w', (Builtin.copy_ #[dT, sT] ty #[.slice (some ⟨g, o, none⟩) dLen dCap, .slice sp sLen sCap]).run P w = .ok (goInt sLen) w' ∧ Blok w' g t (cur.take o ++ cs ++ cur.drop (o + cs.length)) ∧ w.grownBy w' (some g) := by
  have hmin : Nat.min sLen dLen = sLen := Nat.min_eq_left hle
  cases hq : P.info? elem with
  | none => simp [hq] at hs
  | some i =>
    have hi : i.size = 2 := by simpa [hq] using hs
    by_cases h0 : sLen = 0
    · subst h0
      obtain rfl : cs = [] := List.eq_nil_of_length_eq_zero (by simpa using hn)
      refine ⟨w, ?_, by simpa [Blok] using hg, ⟨rfl, rfl, rfl, Nat.le_refl _, fun _ _ _ => rfl⟩⟩
      cases sp <;> simp [Builtin.copy_, run_underlying hu, Builtin.lenOf, Builtin.firstCells, sizeOf, typeInfo, hq, storeCells, run_loadCells_nil]
    · obtain ⟨ad, rfl, hsr⟩ := hsrc (by omega)
      have hl := run_loadCells_list (P := P) w ad cs hsr
      have hst := run_storeCells_at P g o t cs 0 cur.toArray w hg (by simpa using hfit) h1
      refine ⟨w.setRow g (cur.take o ++ cs ++ cur.drop (o + cs.length)).toArray, ?_, setRow_heap w g _ _ t _ hg, ⟨rfl, rfl, rfl, by simp [World.setRow], fun k _ hk => setRow_other w g k _ (fun e => hk (by rw [e]))⟩⟩
      simp [Builtin.copy_, run_underlying hu, Builtin.lenOf, Builtin.firstCells, sizeOf, typeInfo, hq, hi, hmin]
      rw [Nat.mul_comm, ← hn, hl]
      simp [hst]
end
section
open Go.RowKit Dt

def ldS (v : Value) : Sem Value := Instr.loadAt 133 v
theorem ld_s (v : Value) : Instr.loadAt 133 v = ldS v := rfl
theorem run_ldS (w : World) (b : Nat) (f : Nat → Int × Int) (hc : w.rangeAt b 0 (spanL f)) : (ldS (.pointer (some ⟨b, 0, none⟩))).run Try.prog w = .ok (.agg (spanL f).toArray) w :=
  run_loadAt_mid w b 0 _ _ _ hc Try.underlying133 rfl (by rw [spanL_len]; kernel_rfl)
theorem run_idxS (w : World) (f : Nat → Int × Int) (i : Nat) (hi : i < 10) : (Instr.index 133 (.agg (spanL f).toArray) (.int .i64 i)).run Try.prog w = .ok (.agg #[.int .i64 (f i).1, .int .i64 (f i).2]) w := by
  have h0 : (Instr.index 133 (.agg (spanL f).toArray) (.int .i64 ((0 : Nat) : Int))).run Try.prog w = .ok (.agg #[.int .i64 (f 0).1, .int .i64 (f 0).2]) w := by kernel_rfl
  have h1 : (Instr.index 133 (.agg (spanL f).toArray) (.int .i64 ((1 : Nat) : Int))).run Try.prog w = .ok (.agg #[.int .i64 (f 1).1, .int .i64 (f 1).2]) w := by kernel_rfl
  have h2 : (Instr.index 133 (.agg (spanL f).toArray) (.int .i64 ((2 : Nat) : Int))).run Try.prog w = .ok (.agg #[.int .i64 (f 2).1, .int .i64 (f 2).2]) w := by kernel_rfl
  have h3 : (Instr.index 133 (.agg (spanL f).toArray) (.int .i64 ((3 : Nat) : Int))).run Try.prog w = .ok (.agg #[.int .i64 (f 3).1, .int .i64 (f 3).2]) w := by kernel_rfl
  have h4 : (Instr.index 133 (.agg (spanL f).toArray) (.int .i64 ((4 : Nat) : Int))).run Try.prog w = .ok (.agg #[.int .i64 (f 4).1, .int .i64 (f 4).2]) w := by kernel_rfl
  have h5 : (Instr.index 133 (.agg (spanL f).toArray) (.int .i64 ((5 : Nat) : Int))).run Try.prog w = .ok (.agg #[.int .i64 (f 5).1, .int .i64 (f 5).2]) w := by kernel_rfl
  have h6 : (Instr.index 133 (.agg (spanL f).toArray) (.int .i64 ((6 : Nat) : Int))).run Try.prog w = .ok (.agg #[.int .i64 (f 6).1, .int .i64 (f 6).2]) w := by kernel_rfl
  have h7 : (Instr.index 133 (.agg (spanL f).toArray) (.int .i64 ((7 : Nat) : Int))).run Try.prog w = .ok (.agg #[.int .i64 (f 7).1, .int .i64 (f 7).2]) w := by kernel_rfl
  have h8 : (Instr.index 133 (.agg (spanL f).toArray) (.int .i64 ((8 : Nat) : Int))).run Try.prog w = .ok (.agg #[.int .i64 (f 8).1, .int .i64 (f 8).2]) w := by kernel_rfl
  have h9 : (Instr.index 133 (.agg (spanL f).toArray) (.int .i64 ((9 : Nat) : Int))).run Try.prog w = .ok (.agg #[.int .i64 (f 9).1, .int .i64 (f 9).2]) w := by kernel_rfl
  have h : i = 0 ∨ i = 1 ∨ i = 2 ∨ i = 3 ∨ i = 4 ∨ i = 5 ∨ i = 6 ∨ i = 7 ∨ i = 8 ∨ i = 9 := by omega
  rcases h with rfl | rfl | rfl | rfl | rfl | rfl | rfl | rfl | rfl | rfl
  · exact h0
  · exact h1
  · exact h2
  · exact h3
  · exact h4
  · exact h5
  · exact h6
  · exact h7
  · exact h8
  · exact h9
theorem base_bd {d : Dat} (h : d.Ok) (p : Nat) : -3000 ≤ (d.base p).1 ∧ (d.base p).2 ≤ 3000 := by
  unfold Dat.base
  split
  · simp
  · split
    · simp
    · cases hg : d.eras[p - 7]? with
      | none => simp [List.getD_eq_getElem?_getD, hg]
      | some s =>
        have := h.eras.2 s (List.mem_of_getElem? hg)
        simp only [List.getD_eq_getElem?_getD, hg, Option.getD_some]
        exact ⟨this.1, this.2.2⟩
attribute [local go_sem ↓] ld_b st_b ld_s
attribute [local go_sem] run_stB
structure UnsI (w : World) (d : Dat) (ve vn : Value) (f : Nat → Int × Int) (wr : World) : Prop where
  low : Below w.heap.size w wr
  size : w.heap.size + 3 ≤ wr.heap.size
  box : Blok wr w.heap.size 28 [.int .i64 d.stones, ve, vn]
  res : Blok wr (w.heap.size + 1) 77 (List.replicate 100 (.int .i64 0))
  sp : Blok wr (w.heap.size + 2) 133 (spanL f)
def baseTo (k : Nat) (p : Nat) : Int × Int := if 1 ≤ p ∧ p < k then (-3000, 3000) else (0, 0)
theorem zero_spans : (spanL (baseTo 1)).toArray = #[.int .i64 0, .int .i64 0, .int .i64 0, .int .i64 0, .int .i64 0, .int .i64 0, .int .i64 0, .int .i64 0, .int .i64 0, .int .i64 0, .int .i64 0, .int .i64 0, .int .i64 0, .int .i64 0, .int .i64 0, .int .i64 0, .int .i64 0, .int .i64 0, .int .i64 0, .int .i64 0] := by rfl
theorem baseTo_set (p : Nat) (hp : 1 ≤ p) : spanL (fun q => if q = p then (-3000, 3000) else baseTo p q) = spanL (baseTo (p + 1)) := by
  congr 1
  funext q
  unfold baseTo
  by_cases h : q = p
  · rw [if_pos h, if_pos (by omega)]
  · rw [if_neg h]
    by_cases h2 : 1 ≤ q ∧ q < p
    · rw [if_pos h2, if_pos (by omega)]
    · rw [if_neg h2, if_neg (by omega)]
theorem baseTo_all (p : Nat) (hp : p < 10) : baseTo 10 p = if p = 0 then (0, 0) else (-3000, 3000) := by
  unfold baseTo
  by_cases h : p = 0
  · rw [if_neg (by omega), if_pos h]
  · rw [if_pos (by omega), if_neg h]
theorem UnsI.keep {w : World} {d : Dat} {ve vn : Value} {f : Nat → Int × Int} {wr wr' : World} (h : UnsI w d ve vn f wr) (hb : Below (w.heap.size + 3) wr wr') : UnsI w d ve vn f wr' :=
  ⟨h.low.trans (hb.mono (by omega)), Nat.le_trans h.size hb.size, h.box.below hb (by omega), h.res.below hb (by omega), h.sp.below hb (by omega)⟩
theorem UnsI.put {w : World} {d : Dat} {ve vn : Value} {p : Nat} {wr : World} (h : UnsI w d ve vn (baseTo p) wr) (hp : 1 ≤ p) :
    UnsI w d ve vn (baseTo (p + 1)) ((wr.setCell ⟨w.heap.size + 1 + 1, p * 2, none⟩ (.int .i64 (-3000))).setCell ⟨w.heap.size + 1 + 1, p * 2 + 1, none⟩ (.int .i64 3000)) := by
  refine ⟨(h.low.setCell (p := ⟨w.heap.size + 1 + 1, p * 2, none⟩) (by show w.heap.size ≤ w.heap.size + 1 + 1; omega) _).setCell (p := ⟨w.heap.size + 1 + 1, p * 2 + 1, none⟩) (by show w.heap.size ≤ w.heap.size + 1 + 1; omega) _, ?_, ?_, ?_, ?_⟩
  · simpa [World.setCell] using h.size
  · exact (h.box.far (by show w.heap.size ≠ w.heap.size + 1 + 1; omega) _).far (by show w.heap.size ≠ w.heap.size + 1 + 1; omega) _
  · exact (h.res.far (by show w.heap.size + 1 ≠ w.heap.size + 1 + 1; omega) _).far (by show w.heap.size + 1 ≠ w.heap.size + 1 + 1; omega) _
  · have := (h.sp.put (p * 2) (.int .i64 (-3000))).put (p * 2 + 1) (.int .i64 3000)
    rw [show (Value.int .i64 (-3000)) = .int .i64 ((-3000, 3000) : Int × Int).1 from rfl, show (Value.int .i64 3000) = .int .i64 ((-3000, 3000) : Int × Int).2 from rfl, spanL_set, baseTo_set p hp] at this
    exact this
set_option maxRecDepth 100000 in
set_option maxHeartbeats 1000000 in
theorem unsaid_any (d : Dat) (hd : d.Ok) (v : Value) (w : World) (B0 : Nat) (hB0 : B0 ≤ w.heap.size) (hv : DatAt w B0 v d) :
    Calls Try.prog 75 #[v] w fun e w' => e = .returned (.agg (cellsM d.unsaid).toArray) ∧ Below w.heap.size w w' := by
  obtain ⟨ve, vn, rfl, hve, hvn⟩ := hv
  have HD := Lib.hid hd
  have HE := Lib.hid hve
  clear hd hve hvn
  go_enter Try.func75, Try.ntmps75
  go_wp2_with fail
  go_loopw [4] (fun i wr => ∃ k : Nat, 1 ≤ k ∧ k ≤ 10 ∧ i = .int .i64 k ∧ wr.heap.size = w.heap.size + 3 ∧ UnsI w d ve vn (baseTo k) wr) (fun i _ => 10 - (intOf i).toNat)
  case atStart =>
    refine ⟨1, by omega, by omega, rfl, by simp, ?_, by simp, ?_, ?_, ?_⟩
    · exact (((Below.refl _ w).alloc (Nat.le_refl _) _).alloc (by simp) _).alloc (by simp; omega) _
    · exact ((Blok.new w _ _).alloc _).alloc _
    · have := (Blok.new (w.alloc (.cells [.int .i64 d.stones, ve, vn].toArray 28)) 77 (List.replicate 100 (.int .i64 0))).alloc (.cells #[.int .i64 0, .int .i64 0, .int .i64 0, .int .i64 0, .int .i64 0, .int .i64 0, .int .i64 0, .int .i64 0, .int .i64 0, .int .i64 0, .int .i64 0, .int .i64 0, .int .i64 0, .int .i64 0, .int .i64 0, .int .i64 0, .int .i64 0, .int .i64 0, .int .i64 0, .int .i64 0] 133)
      rw [zero_cells]
      simpa using this
    · have := Blok.new ((w.alloc (.cells [.int .i64 d.stones, ve, vn].toArray 28)).alloc (.cells Try.zeroCells77 77)) 133 (spanL (baseTo 1))
      rw [zero_spans] at this
      simpa using this
  case round =>
    obtain ⟨p, hp0, hp, rfl, hz, hI⟩ := hrel
    by_cases hlt : p < 10
    · have c0 := (hI.sp.cell (p * 2)).trans (spanL_lo _ p hlt)
      have c1 := (hI.sp.cell (p * 2 + 1)).trans (spanL_hi _ p hlt)
      have f0 := hI.sp.free (p * 2)
      have f1 := hI.sp.free (p * 2 + 1)
      have ip : (p : Int) < 10 := by omega
      have HI := Lib.hid hI
      clear hI
      go_wp2_with fail
      go_roundw
      case rel => exact ⟨p + 1, by omega, by omega, by go_num, by simpa [World.setCell] using hz, HI.out.put hp0⟩
      case measure => simp [intOf]; omega
    · obtain rfl : p = 10 := by omega
      have hle : d.eras.length ≤ 3 := HD.out.eras.1
      obtain ⟨A, c, rfl, hA⟩ := HE.out
      obtain ⟨n, hn⟩ : ∃ n, n = d.eras.length := ⟨_, rfl⟩
      rw [← hn] at hI hle ⊢
      obtain ⟨w4, hrun, hB4, hg4⟩ := run_copy_two (P := Try.prog) wr.drew 25 25 3 39 (w.heap.size + 1 + 1) 14 3 3 A n c (spanL (baseTo 10)) 133 (flatS d.eras) Try.underlying25 (by kernel_rfl) hI.sp (by omega) (by rw [flatS_len, hn])
        (fun h => by
          obtain ⟨b, o, rfl, hb, hr⟩ := hA (by rw [← hn]; exact h)
          refine ⟨_, rfl, fun j v hv => ?_⟩
          obtain ⟨x, h1, rfl⟩ := flatS_get _ _ _ hv
          obtain ⟨h2, h3⟩ := hr _ _ h1
          show wr.cell? _ = _
          have ha : (⟨b, o, none⟩ : Addr).add j = ⟨b, o + j, none⟩ := Addr.add_mid b o j
          rw [ha]
          refine bcell hI.low (by omega) ?_
          by_cases hj : j % 2 = 0
          · rw [if_pos hj, show o + j = o + j / 2 * 2 by omega]
            exact h2
          · rw [if_neg hj, show o + j = o + j / 2 * 2 + 1 by omega]
            exact h3)
        (by rw [flatS_len, spanL_len]; omega) (flatS_one _)
      rw [spanL_splice d (by rw [← hn]; exact hle) _ baseTo_all] at hB4
      have c1 := hI.box.cell 1
      simp at c1
      have HL := Lib.hid (hI.low.drew.grown hg4 (by show w.heap.size ≤ wr.heap.size; omega) (fun k e => by cases e; omega))
      have HX := Lib.hid ((hg4.block w.heap.size (by show _ < wr.heap.size; omega) (by simp; omega)).trans hI.box)
      have HR := Lib.hid ((hg4.block (w.heap.size + 1) (by show _ < wr.heap.size; omega) (by simp)).trans hI.res)
      have hz4 : wr.heap.size ≤ w4.heap.size := hg4.size
      have HZ := Lib.hid (show w.heap.size + 3 ≤ w4.heap.size by omega)
      have HS := Lib.hid hB4
      have HI := Lib.hid hI
      have HN := Lib.hid hn
      clear hI hz hA hn hg4 hB4 hz4
      go_wp2_with fail
      go_still_tail 3, (by kernel_rfl)
      go_wp2_with (rw [run_ldS _ _ _ (World.rangeAt_alloc (ra_of_row HS.out) _)])
      go_loopw [22] (fun i wr => ∃ k : Nat, k ≤ 10 ∧ i = .int .i64 k ∧ UnsI w d (.slice A n c) vn d.base wr ∧ w4.heap.size < wr.heap.size ∧ Blok wr w4.heap.size 77 (mixF d.unsaid (fun _ _ => 0) (k * 10))) (fun i _ => 10 - (intOf i).toNat)
      case atStart =>
        refine ⟨0, by omega, rfl, ?_, by simp, ?_⟩
        · have h5 : UnsI w d (.slice A n c) vn d.base w4 := ⟨HL.out, by have := HZ.out; omega, HX.out, HR.out, HS.out⟩
          exact h5.keep ((Below.refl _ w4).alloc (by have := HZ.out; omega) _)
        · rw [Nat.zero_mul, mixF_zero, zero_cells]
          exact Blok.new w4 _ (cellsM fun _ _ => 0)
      case round =>
        obtain ⟨i, hi, rfl, hJ, hz5, hM⟩ := hrel
        obtain ⟨wo, hwo⟩ : ∃ wo, wo = wr := ⟨_, rfl⟩
        subst hwo
        by_cases hlt : i < 10
        · have di : decide ((i : Int) < 10) = true := by simp; omega
          go_wp2_with (first | rw [run_idxS _ _ _ hlt] | rw [run_ldS _ _ _ (World.rangeAt_alloc (ra_of_row hJ.sp) _)])
          go_loopw [27] (fun j wr' => ∃ k : Nat, k ≤ 10 ∧ j = .int .i64 k ∧ UnsI w d (.slice A n c) vn d.base wr' ∧ wo.heap.size < wr'.heap.size ∧ Blok wr' w4.heap.size 77 (mixF d.unsaid (fun _ _ => 0) (i * 10 + k)) ∧ Blok wr' wo.heap.size 39 [.int .i64 (d.base i).1, .int .i64 (d.base i).2]) (fun j _ => 10 - (intOf j).toNat)
          case atStart =>
            refine ⟨0, by omega, rfl, hJ.keep ((Below.refl _ wo).alloc hJ.size _), by simp, hM.alloc _, ?_⟩
            exact Blok.new wo _ [.int .i64 (d.base i).1, .int .i64 (d.base i).2]
          case round =>
            clear hM hJ
            obtain ⟨j, hj, rfl, hJ, hz6, hM, hF⟩ := hrel
            by_cases hlj : j < 10
            · have dj : decide ((j : Int) < 10) = true := by simp; omega
              have hJ1 := hJ.keep ((Below.refl _ wr).alloc hJ.size (.cells #[.int .i64 (d.base j).1, .int .i64 (d.base j).2] 39))
              have hM1 := hM.alloc (.cells #[.int .i64 (d.base j).1, .int .i64 (d.base j).2] 39)
              have hF1 := hF.alloc (.cells #[.int .i64 (d.base j).1, .int .i64 (d.base j).2] 39)
              have HJ := Lib.hid hJ1
              have HF := Lib.hid hF1
              by_cases hij : i = j
              · obtain rfl : j = i := hij.symm
                rw [mixF_skip _ _ _ hlt (by simp [Dat.unsaid])] at hM1
                have HM := Lib.hid hM1
                clear hJ hM hF hM1 hJ1 hF1
                go_wp2_with (first | rw [run_idxS _ _ _ hlj])
                go_roundw
                case rel => exact ⟨j + 1, by omega, by go_num, HJ.out, by simp; omega, HM.out, HF.out⟩
                case measure => simp [intOf]; omega
              · have b1 := base_ok HD.out i hlt
                have b2 := base_ok HD.out j hlj
                obtain ⟨b3, b4⟩ := base_bd HD.out i
                obtain ⟨b5, b6⟩ := base_bd HD.out j
                have e1 : IntKind.i64.wrap ((d.base j).2 - (d.base i).1) = (d.base j).2 - (d.base i).1 := IntWalk.i64_in _ (by omega)
                have e2 : (d.base j).2 - (d.base i).1 = d.unsaid i j := by simp only [Dat.unsaid, if_neg hij]
                have E2 := Lib.hid e2
                clear b1 b2 b3 b4 b5 b6 e2
                have c1 := hF1.cell 0
                have c2 : (wr.alloc (.cells #[.int .i64 (d.base j).1, .int .i64 (d.base j).2] 39)).cell? ⟨wr.heap.size, 1, none⟩ = some (.int .i64 (d.base j).2) := (Blok.new wr 39 [.int .i64 (d.base j).1, .int .i64 (d.base j).2]).cell 1
                have c3 := (hM1.cell _).trans (mixF_at _ _ _ i j hlt hlj (Nat.le_refl _))
                have f3 := hM1.free (i * 10 + j)
                have ii : (i : Int) < 10 := by omega
                have jj : (j : Int) < 10 := by omega
                have HM := Lib.hid hM1
                have HC1 := Lib.hid c1
                have HC2 := Lib.hid c2
                have HC3 := Lib.hid c3
                have HF3 := Lib.hid f3
                clear hJ hM hF hM1 hJ1 hF1 c1 c2 c3 f3
                go_wp2_with (first | rw [run_idxS _ _ _ hlj])
                have hWz : wr.heap.size < (wr.alloc (.cells #[.int .i64 (d.base j).1, .int .i64 (d.base j).2] 39)).heap.size := by simp
                have HWZ := Lib.hid hWz
                clear hWz
                revert HM HJ HF HC1 HC2 HC3 HF3 HWZ
                generalize wr.alloc (.cells #[.int .i64 (d.base j).1, .int .i64 (d.base j).2] 39) = W
                intro HJ HF HM HC1 HC2 HC3 HF3 HWZ
                have c1 := HC1.out
                have c2 := HC2.out
                have c3 := HC3.out
                have f3 := HF3.out
                simp at c1
                go_still_tail 9, (by kernel_rfl)
                go_wp2_with fail
                go_roundw
                case rel =>
                  have hz4 := HZ.out
                  refine ⟨j + 1, by omega, by go_num, HJ.out.keep ((Below.refl _ W).setCell (p := ⟨w4.heap.size, i * 10 + j, none⟩) hz4 _).drew, by simp [World.setCell]; have := HWZ.out; omega, ?_, ?_⟩
                  · have := (HM.out.put (i * 10 + j) (.int .i64 (d.unsaid i j))).drewN 1
                    rw [mixF_set _ _ i j hlt hlj, ← E2.out] at this
                    exact this
                  · exact (HF.out.far (by show wo.heap.size ≠ w4.heap.size; omega) _).drewN 1
                case measure => simp [intOf]; omega
            · obtain rfl : j = 10 := by omega
              go_wp2_with fail
              go_roundw
              case rel => exact ⟨i + 1, by omega, by go_num, hJ, by omega, by rw [show (i + 1) * 10 = i * 10 + 10 by omega]; exact hM⟩
              case measure => simp [intOf]; omega
        · obtain rfl : i = 10 := by omega
          rw [show 10 * 10 = 100 from rfl, mixF_all] at hM
          go_wp2_with (first | rw [run_ldB _ _ _ _ (ra_of_row hM)] | rw [run_stB_at _ _ _ _ hJ.res (by simp)])
          refine bodyPost_ret (v := .agg (cellsM d.unsaid).toArray) ?_ rfl ⟨rfl, ?_⟩
          · exact results_cell_row Try.results75 _ _ (w.heap.size + 1) 77 _ (0, 0) _ rfl (hJ.res.setRow _) Try.underlying77 rfl (by rw [List.size_toArray, cells_len]; kernel_rfl)
          · exact below_setRow hJ.low (by omega) _
end
end
section
section
section
open Go.RowKit Go.Shelf Dt

attribute [local go_sem] Oper.semAt_some
/-- What the iterator of choices has captured. -/
def ChoBox (G : World → Nat → Prop) (n₀ : Nat) (d : Dat) (ns : List Nt) (bd bn : Nat) (W : World) : Prop :=
  ∃ ve vn v, Blok W bd 28 [.int .i64 d.stones, ve, vn] ∧ DatAt W n₀ (.agg #[.int .i64 d.stones, ve, vn]) d ∧ Blok W bn 99 [v] ∧ IfNG G n₀ W v ns
set_option maxRecDepth 100000 in
set_option maxHeartbeats 1000000 in
theorem gives_choices (n : Nat) (d : Dat) (hd : d.Ok) (ns : List Nt) (hns : ∀ x ∈ ns, x.Ok d) (bd bn n₀ : Nat) :
    Gives Fence.wide n Try.prog 73 #[.pointer (some ⟨bd, 0, none⟩), .pointer (some ⟨bn, 0, none⟩)] (fun M => #[.agg (cellsM M).toArray]) (chooseP 10 (ns.map Nt.ways) d.unsaid) n₀
      (fun G W => n₀ ≤ W.heap.size ∧ ChoBox G n₀ d ns bd bn W) := by
  rintro l G J Jx W hJ hJx ⟨hn0, ve, vn, v, hbd, hdat, hbn, hno⟩ hY h0
  have hT : Takes (n - 1) n₀ l G J Jx (chooseP 10 (ns.map Nt.ways) d.unsaid) := hY
  have c0 := hbd.cell 0
  have c1 := hbd.cell 1
  have c2 := hbd.cell 2
  have c3 := hbn.cell 0
  simp at c0 c1 c2 c3
  have HDAT := Lib.hid hdat
  have HBN := Lib.hid hbn
  have HNO := Lib.hid hno
  have hcall : ∀ w2, Below W.heap.size W.drew w2 → CallsIn Fence.wide (n - 1) Try.prog 74 #[.agg (cellsM d.unsaid).toArray, v, .func (.yield l) #[] #[]] w2 (Chosen n₀ G J Jx [] (chooseP 10 (ns.map Nt.ways) d.unsaid) w2) ∧ Rnd n₀ G W w2 := fun w2 hb => by
    have hb' : Below W.heap.size W w2 := ⟨hb.os, hb.tape, hb.output, hb.size, hb.block⟩
    obtain ⟨h1, h2⟩ := hJ.rnd h0 (Nat.le_refl _) hn0 hb'
    have hsz : W.heap.size ≤ w2.heap.size := hb.size
    exact ⟨choose_any d hd _ n₀ l G J Jx _ W.heap.size hJ hJx hT ns hns d.unsaid [] _ w2 v (unsaid_closed hd) (unsaid_small hd) (hno.rnd h2) hsz (by omega) (by simp) h1, h2⟩
  have HCALL := Lib.hid hcall
  have HUN := Lib.hid (unsaid_any d hd (.agg #[.int .i64 d.stones, ve, vn]) W.drew n₀ hn0 (show DatAt W.drew n₀ _ d from hdat))
  clear hT hY h0 hbd hdat hbn hno hcall
  refine callsIn_of_wp Try.func73 rfl trivial ?_ rfl
  simp only [Try.ntmps73, List.size_toArray, List.length_cons, List.length_nil, Nat.reduceAdd, Nat.reduceSub, Array.replicate_succ, Array.replicate_zero, List.push_toArray, List.append_toArray, List.nil_append, List.cons_append]
  gi_wp2_with fail
  gi_region_with (first
    | (refine ⟨trivial, (fun h => by cases h), ?_⟩; gi_at_call 75; refine (callsIn_wide.2 HUN.out).mono ?_; rintro e w2 ⟨rfl, hb2⟩; have HB2 := Lib.hid hb2; have c3 := (HBN.out.below (B := W.heap.size) (show Below W.heap.size W w2 from ⟨hb2.os, hb2.tape, hb2.output, hb2.size, hb2.block⟩) HBN.out.size).cell 0; simp at c3; clear hb2)
    | (refine ⟨trivial, (fun h => by cases h), ?_⟩; gi_at_call 74; refine (HCALL.out _ HB2.out).1.mono ?_; rintro e w3 hch; obtain ⟨r, rfl, hr3, hyes, hno3⟩ := hch.bool; have HR3 := Lib.hid hr3; have HYES := Lib.hid hyes; have HNO3 := Lib.hid hno3; clear hch hr3 hyes hno3))
  all_goals
    go_end0
    refine ⟨⟨_, rfl⟩, (HCALL.out _ HB2.out).2.trans HR3.out, ?_⟩
    cases r
    · obtain ⟨q, hq, hj⟩ := HNO3.out rfl
      exact .inr ⟨q, hq, by simpa using hj⟩
    · exact .inl (by simpa using HYES.out rfl)
set_option maxRecDepth 100000 in
theorem choices_any (a b c : Value) (A : Option Addr) (k cp : Nat) (w : World) :
    Calls Try.prog 62 #[.agg #[a, b, c], .slice A k cp] w fun e w' => e = .returned (.func (.func 73) #[] #[.pointer (some ⟨w.heap.size, 0, none⟩), .pointer (some ⟨w.heap.size + 1, 0, none⟩)]) ∧
      w' = (w.alloc (.cells #[a, b, c] 28)).alloc (.cells #[.slice A k cp] 99) := by
  go_enter Try.func62, Try.ntmps62
  go_wp2_with fail
  go_ret
  exact ⟨rfl, rfl⟩
end
section
section
open Go.RowKit

theorem foldl_set (xs : List Value) : ∀ (k off : Nat) (A old B : List Value), old.length = xs.length → A.length = off + k →
    (xs.zipIdx k).foldl (fun (cs : Array Value) (x : Value × Nat) => cs.setIfInBounds (off + x.2) x.1) (A ++ old ++ B).toArray = (A ++ xs ++ B).toArray := by
  induction xs with
  | nil =>
    intro k off A old B h _
    obtain rfl : old = [] := List.eq_nil_of_length_eq_zero h
    rfl
  | cons x xs ih =>
    intro k off A old B h hA
    cases old with
    | nil => simp at h
    | cons y old =>
      rw [List.zipIdx_cons, List.foldl_cons]
      have e : (A ++ y :: old ++ B).toArray.setIfInBounds (off + k) x = ((A ++ [x]) ++ old ++ B).toArray := by
        rw [← hA]
        simp
      rw [e, ih (k + 1) off (A ++ [x]) old B (by simpa using h) (by simp [hA]; omega)]
      simp

/-- One part, which lies behind the cells A, fills its place. -/
theorem fill_part (place : Nat → Option (Nat × Nat)) (i : Nat) (v : Value) (xs : List Value) (hv : v.cells = xs.toArray) (A old B : List Value) (ho : old.length = xs.length) (hp : place i = some (A.length, xs.length)) (rest : List (Nat × Value)) :
    Instr.fill place (A ++ old ++ B).toArray ((i, v) :: rest) = Instr.fill place (A ++ xs ++ B).toArray rest := by
  have h2 : ¬ (v.cells.size ≠ xs.length ∨ A.length + v.cells.size > (A ++ old ++ B).toArray.size) := by
    rw [hv]
    simp
    omega
  have h3 : v.cells.zipIdx.foldl (fun (cs : Array Value) (x : Value × Nat) => cs.setIfInBounds (A.length + x.2) x.1) (A ++ old ++ B).toArray = (A ++ xs ++ B).toArray := by
    rw [hv]
    have h4 := foldl_set xs 0 A.length A old B ho rfl
    rw [← h4]
    simp
  rw [Instr.fill, hp]
  simp only []
  rw [if_neg (by simpa using h2)]
  exact congrArg (fun c => Instr.fill place c rest) h3

theorem built_struct {P : Program} {t : TypeId} {i : TypeInfo} {fields : Array Field} {places : List (Nat × Nat)} {z : Value} (h1 : P.info? t = some i) (h2 : P.underlying t = some (.struct fields)) (h3 : i.zero = some z)
    (h4 : fields.toList.mapM (fun f => (P.info? f.type).map fun i => (f.offset, i.size)) = some places) (parts : List (Nat × Value)) : P.built t parts = Instr.fill (places.toArray[·]?) z.cells parts := by
  simp [Program.built, h1, h2, h3, h4]

/-- A slice literal of one aggregate. -/
theorem run_buildSlice_one {P : Program} (w : World) (t e : TypeId) (i : TypeInfo) (z : Value) (cs : List Value) (ht : P.underlying t = some (.slice e)) (hi : P.info? e = some i) (hz : i.zero = some z) (hs : i.size = cs.length) (hzs : z.cells.size = cs.length) (hb : cs.length ≤ 1000) (h0 : 0 < cs.length) :
    (Instr.buildSlice t 1 #[(0, .agg cs.toArray)]).run P w = .ok (.slice (some ⟨w.heap.size, 0, none⟩) 1 1) (w.alloc (.cells cs.toArray e)) := by
  have hsz : (sizeOf e).run P w = .ok cs.length w := by simp [sizeOf, typeInfo, hi, hs]
  have hzv : (zeroValue e).run P w = .ok z w := by simp [zeroValue, typeInfo, hi, hz]
  have hf : Instr.fill (fun k => some (k * cs.length, cs.length)) ((Array.range (1 * cs.length)).map (z.cells[· % z.cells.size]!)) [(0, .agg cs.toArray)] = some cs.toArray := by
    obtain ⟨old, hold⟩ : ∃ old : List Value, ((Array.range (1 * cs.length)).map (z.cells[· % z.cells.size]!)) = old.toArray := ⟨_, (Array.toArray_toList).symm⟩
    have hl : old.length = cs.length := by
      have := congrArg Array.size hold
      simpa using this.symm
    rw [hold]
    have h5 := fill_part (fun k => some (k * cs.length, cs.length)) 0 (.agg cs.toArray) cs rfl [] old [] hl (by simp) []
    simp only [List.nil_append, List.append_nil] at h5
    rw [h5]
    rfl
  unfold Instr.buildSlice
  have hng : ¬ (1 * cs.length > 2 ^ 24) := by omega
  have hne : ¬ (1 * cs.length = 0) := by omega
  simp only [Sem.run_bind, run_underlying ht, Result.andThen_ok, hsz, if_neg hng, if_neg hne, Sem.run_pure, hzv, hf]
  simp [newRow, newObj]
  rfl
end
section
open Go.RowKit Go.Shelf Dt

attribute [local go_sem] Oper.semAt_some
attribute [local go_sem ↓] ld_b st_b
attribute [local go_sem] run_stB
/-- A slice of one matrix is made under a name that the walk's simp does not open. -/
def mkB (parts : Array (Nat × Value)) : Sem Value := Instr.buildSlice 73 1 parts
theorem mk_b (parts : Array (Nat × Value)) : Instr.buildSlice 73 1 parts = mkB parts := rfl
theorem info_between : (Try.prog.info? 77).map (fun i => (i.zero, i.size, i.bytes)) = some (some (.agg (List.replicate 100 (.int .i64 0)).toArray), 100, 800) := by kernel_rfl
theorem run_mkB (B : Mat) (w : World) : (mkB #[(0, .agg (cellsM B).toArray)]).run Try.prog w = .ok (.slice (some ⟨w.heap.size, 0, none⟩) 1 1) (w.alloc (.cells (cellsM B).toArray 77)) := by
  obtain ⟨i0, hi, hz0, hz1, hz2⟩ := info_parts info_between
  exact run_buildSlice_one w _ _ i0 _ _ (by kernel_rfl) hi hz0 (by rw [hz1, cells_len]) (by rw [cells_len]; kernel_rfl) (by rw [cells_len]; omega) (by rw [cells_len]; omega)
attribute [local go_sem ↓] mk_b
attribute [local go_sem] run_mkB
theorem news_row (w : World) (t : TypeId) (cs : List Value) : ∀ (j : Nat) (u : Value), cs[j]? = some u → (w.alloc (.cells cs.toArray t)).cell? ((⟨w.heap.size, 0, none⟩ : Addr).add j) = some u := by
  intro j u h
  rw [Addr.add_mid, Nat.zero_add]
  exact ((Blok.new w t cs).cell j).trans h
/-- The blocks of the loop that collects: the box of the slice, and the row of the slice in it. -/
def ColG (s : Nat) : World → Nat → Prop := fun W b => b = s ∨ ∃ v, W.cell? ⟨s, 0, none⟩ = some v ∧ v.ownBlock = some b
def ColI (s : Nat) (l : List Mat) (W : World) : Prop := ∃ v, Blok W s 73 [v] ∧ W.ownsRow s 77 100 v l.length (l.flatMap cellsM)
theorem ColI.row {s s' n : Nat} {xs : List Value} {W : World} {u v : Value} (hb : Blok W s 73 [u]) (hv : W.ownsRow s' 77 100 v n xs) (k : Nat) (hk : v.ownBlock = some k) : k ≠ s ∧ k < W.heap.size := by
  rcases hv.2 with ⟨rfl, -⟩ | ⟨g, cap, cur, rfl, hg, hh, r⟩
  · simp [Value.ownBlock] at hk
  · obtain rfl : g = k := by simpa [Value.ownBlock] using hk
    refine ⟨fun e => ?_, (Array.getElem?_eq_some_iff.1 hh).1⟩
    subst e
    rw [Blok, hh] at hb
    injection hb with hb
    injection hb with h1 h2 h3
    exact absurd h2 (by decide)
theorem keeps_col (s c : Nat) : Keeps c (ColG s) (ColI s) := by
  refine ⟨fun l W W' ⟨v, hb, hv⟩ hi => ?_, fun l W b ⟨v, hb, hv⟩ hg => ?_⟩
  · have hc0 : W.cell? ⟨s, 0, none⟩ = some v := hb.cell 0
    have hs : W'.heap[s]? = W.heap[s]? := hi.kept s (.inl rfl)
    have hb' : Blok W' s 73 [v] := hs.trans hb
    have hc1 : W'.cell? ⟨s, 0, none⟩ = some v := hb'.cell 0
    refine ⟨⟨v, hb', hv.1, ?_⟩, fun b hg => ?_⟩
    · rcases hv.2 with h | ⟨g, cap, cur, hve, hg, hh, r⟩
      · exact .inl h
      · exact .inr ⟨g, cap, cur, hve, hg, (hi.kept g (.inr ⟨v, hc0, by rw [hve]; rfl⟩)).trans hh, r⟩
    · rcases hg with rfl | ⟨v', h1, h2⟩
      · exact .inl rfl
      · rw [hc1] at h1
        injection h1 with h1
        exact .inr ⟨v, hc0, by rw [h1]; exact h2⟩
  · rcases hg with rfl | ⟨v', h1, h2⟩
    · exact hb.size
    · have hc0 : W.cell? ⟨s, 0, none⟩ = some v := hb.cell 0
      rw [hc0] at h1
      injection h1 with h1
      exact (ColI.row hb hv b (by rw [h1]; exact h2)).2
def AppPost (l : List Mat) (n₀ : Nat) (w : World) (e : Ending) (w' : World) : Prop := ∃ v, e = .returned v ∧ w'.ownsRow w.heap.size 77 100 v l.length (l.flatMap cellsM) ∧ Below n₀ w w'
set_option maxRecDepth 100000 in
set_option maxHeartbeats 1000000 in
theorem appendSeq_any (gf : Nat) (lb : Array Value) (l : List Mat) (n₀ : Nat) (At : (World → Nat → Prop) → World → Prop) (hseq : ∀ n, Gives Fence.wide n Try.prog gf lb (fun M => #[.agg (cellsM M).toArray]) l n₀ At)
    (heg : ∀ args w, (callFunc gf args).run Try.prog w = .ok (.enter gf args) w) (hl : l.length ≤ 10000) (w : World) (hn : n₀ ≤ w.heap.size)
    (hAt : ∀ W' G', Below w.heap.size w W' → (∀ b, G' W' b → w.heap.size ≤ b) → At G' W') :
    Calls Try.prog 72 #[.slice none 0 0, .func (.func gf) #[] lb] w (AppPost l n₀ w) := by
  obtain ⟨i0, hi, hz0, hz1, hz2⟩ := info_parts info_between
  refine (callsIn_wide (n := 9)).1 ?_
  refine callsIn_of_wp_marks Try.func72 rfl trivial ?_ rfl
  simp only [Try.ntmps72, List.size_toArray, List.length_cons, List.length_nil, Nat.reduceAdd, Nat.reduceSub, Array.replicate_succ, Array.replicate_zero, List.push_toArray, List.append_toArray, List.nil_append, List.cons_append]
  gi_wp2_with fail
  obtain ⟨W1, hW1⟩ : ∃ W1, W1 = w.alloc (.cells #[.slice none 0 0] 73) := ⟨_, rfl⟩
  have b1 : Below w.heap.size w W1 := by rw [hW1]; exact (Below.refl _ w).alloc (Nat.le_refl _) _
  have k1 : Blok W1 w.heap.size 73 [.slice none 0 0] := by rw [hW1]; exact Blok.new w _ _
  have z1 : W1.heap.size = w.heap.size + 1 := by rw [hW1]; simp
  rw [← hW1]
  clear hW1
  have h00 : ColI w.heap.size [] W1 := ⟨_, k1, World.ownsRow_nil _ _ _ _⟩
  have hsub : ∀ b, ColG w.heap.size W1 b → w.heap.size ≤ b := by
    rintro b (rfl | ⟨v, h1, h2⟩)
    · exact Nat.le_refl _
    · have := k1.cell 0
      simp at this
      rw [this] at h1
      injection h1 with h1
      rw [← h1] at h2
      simp [Value.ownBlock] at h2
  refine range_any rfl (fun h => by cases h) (gf := gf) (lb := lb) rfl trivial heg (hseq _) (fun _ => rfl) (show n₀ ≤ W1.heap.size by omega)
    (ColG w.heap.size) (ColI w.heap.size) (fun _ _ _ => False) (keeps_col _ _) (fun _ => ⟨fun _ _ _ h => h.elim, fun _ _ _ h => h.elim⟩) h00
    (fun W' G' hb' hg' => hAt W' G' (b1.trans (hb'.mono (by omega))) (fun b hb => by
      rcases hg' b hb with h | h
      · exact hsub b h
      · omega))
    (fun M a' w' => ∃ B, Blok w' B 77 (cellsM M) ∧ a' = { tmps := #[.slice none 0 0, .func (.func gf) #[] lb, .pointer (some ⟨w.heap.size, 0, none⟩), undef, .slice none 0 0, .pointer (some ⟨B, 0, none⟩), .func (.func gf) #[] lb, .agg (cellsM M).toArray, undef, undef, undef, undef, undef], defers := [] })
    (fun M a' w' ll r r' ⟨B, hB, ha⟩ hl => ⟨B, hB.putObj hl _, ha⟩)
    ?assign ?body ?done ?stop
  case assign =>
    intro ll pre' M w' K hsz hi hK
    have hb' : Below w'.heap.size w' (w'.alloc (.cells (cellsM M).toArray 77)) := (Below.refl _ _).alloc (Nat.le_refl _) _
    obtain ⟨hi2, hr2⟩ := (keeps_col w.heap.size w'.heap.size).rnd (n₀ := n₀) hi (Nat.le_refl _) (by omega) hb'
    have hK2 := hK _ _ hr2 hi2 ⟨w'.heap.size, Blok.new w' _ _, rfl⟩
    have HK2 := Lib.hid hK2
    clear hK hK2 hi2 hr2
    gi_wp2_with fail
    exact HK2.out
  case body =>
    rintro ll pre' M a' Wb hszb hpre hrb ⟨v, hbox, hown⟩ ⟨B, hB, rfl⟩
    have hlen : pre'.length < 10000 := by
      have := hpre.length_le
      simp at this
      omega
    have hrow := ColI.row hbox hown
    have c2 := hbox.cell 0
    simp at c2
    have hld := run_ldB Wb B 0 M hB.range
    have hown1 := hown.alloc (.cells (cellsM M).toArray 77)
    have HB := Lib.hid hbox
    have HO := Lib.hid hown
    have HO1 := Lib.hid hown1
    have HR := Lib.hid hrow
    clear hbox hown hown1 hrow
    gi_wp2_with (gi_at_builtin; refine wpListIn_append_own_at _ rfl (.tmp 8) (.tmp 10) 73 rfl w.heap.size 77 i0 _ 100 800 Try.underlying73 hi hz0 hz1 hz2 rfl (by decide) v _ _ rfl HO1.out ⟨Wb.heap.size, 0, none⟩ 1 1 (cellsM M) rfl (by rw [cells_len]) (news_row _ _ _) (cells_one M) (by unfold maxLen; omega) (by omega) (by simp; omega) ?_; intro v6 w6 hown6 hgrow6 _ hat6; obtain ⟨g6, cap6, rfl⟩ := ownsRow_succ hown6; have hbox6 : Blok w6 w.heap.size 73 [v] := (hgrow6.block w.heap.size (by simp; omega) (fun e => (HR.out w.heap.size e.symm).1 rfl)).trans (HB.out.alloc _); have c6 := hbox6.cell 0; have f6 := hbox6.free 0; simp at c6; have HO6 := Lib.hid hown6; have HG6 := Lib.hid hgrow6; have HA6 := Lib.hid hat6; have HB6 := Lib.hid hbox6; clear hown6 hgrow6 hat6 hbox6)
    have hown6 := HO6.out
    have hgrow6 := HG6.out
    have hg6 := (ColI.row HB6.out hown6 g6 rfl).1
    have hbel : Below n₀ Wb (w6.setCell ⟨w.heap.size, 0, none⟩ (.slice (some ⟨g6, 0, none⟩) (pre'.length + 1) cap6)) :=
      (((Below.refl n₀ Wb).alloc (by omega) (.cells (cellsM M).toArray 77)).grown hgrow6 (by simp; omega) (fun k e => by have := own_blk HO.out k e; omega)).setCell (p := ⟨w.heap.size, 0, none⟩) hn _
    have hb7 : Blok (w6.setCell ⟨w.heap.size, 0, none⟩ (.slice (some ⟨g6, 0, none⟩) (pre'.length + 1) cap6)) w.heap.size 73 [.slice (some ⟨g6, 0, none⟩) (pre'.length + 1) cap6] := by
      have := HB6.out.put 0 (.slice (some ⟨g6, 0, none⟩) (pre'.length + 1) cap6)
      simpa using this
    refine ⟨⟨hbel, fun b hb hg => ?_, fun b hg => ?_⟩, ?_⟩
    · have h1 : b ≠ w.heap.size := fun e => hg (.inl e)
      have h2 : v.ownBlock ≠ some b := fun e => hg (.inr ⟨v, HB.out.cell 0, e⟩)
      refine (Below.heap_setCell _ _ _ _ (show b ≠ w.heap.size from h1)).trans ?_
      exact (hgrow6.block b (by simp; omega) (fun e => h2 e.symm)).trans (Below.heap_alloc _ _ _ hb)
    · rcases hg with rfl | ⟨v', h1, h2⟩
      · exact .inl (.inl rfl)
      · have h3 := hb7.cell 0
        rw [h3] at h1
        simp at h1
        subst h1
        rcases HA6.out with h4 | h4
        · rw [h4] at h2
          exact .inl (.inr ⟨v, HB.out.cell 0, h2⟩)
        · rw [h4] at h2
          injection h2 with h2
          exact .inr (by simp at h2; omega)
    · refine ⟨_, hb7, ?_⟩
      rw [List.length_append, List.flatMap_append]
      have := hown6.kept (grownBy_setCell' w6 w.heap.size (.slice (some ⟨g6, 0, none⟩) (pre'.length + 1) cap6)) (.inr (by simp [Value.ownBlock]; exact hg6))
      simpa using this
  case done =>
    rintro D W2 hD hgD hr2 ⟨v, hbox, hown⟩ hK
    have c2 := hbox.cell 0
    simp at c2
    have HP : Hid ((W2.putObj D (.deferred none)).ownsRow w.heap.size 77 100 v l.length (l.flatMap cellsM) ∧ Below n₀ w (W2.putObj D (.deferred none))) :=
      Lib.hid ⟨ownsRow_putObj hown _ hK rfl, ((b1.mono hn).trans hr2.below).grown (grownBy_putObj' _ D _) (by have := hr2.below.size; omega) (fun k e => by cases e; omega)⟩
    have HKD := Lib.hid hK
    clear hown hbox hK
    gi_wp2_with fail
    refine ⟨by simp, .inl ⟨_, _, rfl, run_takeDeferred HKD.out, ?_⟩⟩
    exact ⟨_, results_tmp rfl _ _ _, v, rfl, HP.out⟩
  case stop =>
    intro D cd pre' W2 hD hgD hpre hr2 hx hK
    exact hx.elim
end
end
end
section
open Go.RowKit Go.Shelf Dt

set_option maxRecDepth 100000 in
set_option maxHeartbeats 1000000 in
theorem collect_any (gf : Nat) (lb : Array Value) (l : List Mat) (n₀ : Nat) (At : (World → Nat → Prop) → World → Prop) (hseq : ∀ n, Gives Fence.wide n Try.prog gf lb (fun M => #[.agg (cellsM M).toArray]) l n₀ At)
    (heg : ∀ args w, (callFunc gf args).run Try.prog w = .ok (.enter gf args) w) (hl : l.length ≤ 10000) (w : World) (hn : n₀ ≤ w.heap.size)
    (hAt : ∀ W' G', Below w.heap.size w W' → (∀ b, G' W' b → w.heap.size ≤ b) → At G' W') :
    Calls Try.prog 61 #[.func (.func gf) #[] lb] w (AppPost l n₀ w) := by
  have HA := Lib.hid (appendSeq_any gf lb l n₀ At hseq heg hl w hn hAt)
  clear hseq hAt
  go_enter Try.func61, Try.ntmps61
  go_wp2_with (go_at_call 72; (with_reducible refine (HA.out).mono ?_); rintro e w1 hp; obtain ⟨v, rfl, hv1, hv2⟩ := hp; have HV := Lib.hid hv1; have HB := Lib.hid hv2; clear hv1 hv2)
  go_ret
  exact ⟨v, rfl, HV.out, HB.out⟩
theorem keptTo_zero (l : List Nt) : keptTo l 0 l.length = l := by
  have h : ∀ k, k ≤ l.length → keptTo l 0 k = l.take k := by
    intro k
    induction k with
    | zero => intro _; rfl
    | succ k ih =>
      intro hk
      have hx : l[k]? = some (l[k]'(by omega)) := List.getElem?_eq_getElem (by omega)
      rw [keptTo_no l 0 k (by simp) _ hx, ih (by omega), List.take_add_one, hx]
      rfl
  rw [h l.length (Nat.le_refl _), List.take_length]
theorem choose_len : ∀ (notes : List (List Dt.Way)) (B : Mat), (∀ l ∈ notes, l.length ≤ 3) → (Dt.choose notes B).length ≤ 3 ^ notes.length
  | [], _, _ => by simp [Dt.choose]
  | l :: ns, B, h => by
    have hl := h l (List.mem_cons_self ..)
    have hns : ∀ l' ∈ ns, l'.length ≤ 3 := fun l' hl' => h l' (List.mem_cons_of_mem _ hl')
    have hw : ∀ ws : List Dt.Way, (ws.flatMap fun w => match left B w with | none => [] | some M => Dt.choose ns M).length ≤ ws.length * 3 ^ ns.length := by
      intro ws
      induction ws with
      | nil => simp
      | cons w ws ih =>
        rw [List.flatMap_cons, List.length_append, List.length_cons, Nat.add_mul, Nat.one_mul]
        have h1 : (match left B w with | none => [] | some M => Dt.choose ns M).length ≤ 3 ^ ns.length := by
          cases left B w with
          | none => simp
          | some M => exact choose_len ns M hns
        omega
    have h2 := hw l
    simp only [Dt.choose, List.length_cons, Nat.pow_succ]
    refine Nat.le_trans h2 ?_
    rw [Nat.mul_comm]
    exact Nat.mul_le_mul_left _ hl
/-- A slice of matrices. -/
def MatsAt (w : World) (B : Nat) (v : Value) (l : List Mat) : Prop :=
  ∃ A c, v = .slice A l.length c ∧ l.length ≤ c ∧ (0 < l.length → ∃ g, A = some ⟨g, 0, none⟩ ∧ B ≤ g ∧ g < w.heap.size ∧ ∀ (k : Nat) (M : Mat), l[k]? = some M → w.rangeAt g (k * 100) (cellsM M))
theorem flat_at : ∀ (l : List Mat) (k j : Nat) (M : Mat) (u : Value), l[k]? = some M → (cellsM M)[j]? = some u → (l.flatMap cellsM)[k * 100 + j]? = some u
  | [], k, _, _, _, h, _ => by simp at h
  | N :: l, 0, j, M, u, h, hj => by
    simp at h
    subst h
    rw [List.flatMap_cons, Nat.zero_mul, Nat.zero_add, List.getElem?_append_left (by rw [cells_len]; have := (List.getElem?_eq_some_iff.1 hj).1; rwa [cells_len] at this)]
    exact hj
  | N :: l, k + 1, j, M, u, h, hj => by
    have ih := flat_at l k j M u (by simpa using h) hj
    rw [List.flatMap_cons, List.getElem?_append_right (by rw [cells_len]; omega), cells_len, show (k + 1) * 100 + j - 100 = k * 100 + j by omega]
    exact ih
theorem mats_of_own {w : World} {base : Nat} {v : Value} {l : List Mat} (h : w.ownsRow base 77 100 v l.length (l.flatMap cellsM)) : MatsAt w base v l := by
  obtain ⟨A1, c1, e1, e2⟩ := own_cap h
  obtain ⟨A2, c2, e3, e4⟩ := own_sl h h.1 (by omega)
  rw [e1] at e3
  injection e3 with e5 e6 e7
  subst e5 e7
  refine ⟨A1, c1, e1, e2, fun h0 => ?_⟩
  obtain ⟨b, o, h3, h4, rfl, h5, hc⟩ := e4 h0
  exact ⟨b, h3, h5, h4, fun k M hk j u hu => hc _ _ (flat_at l k j M u hk hu)⟩
theorem MatsAt.keep {w w' : World} {B : Nat} {v : Value} {l : List Mat} (h : MatsAt w B v l) (hb : Below w.heap.size w w') : MatsAt w' B v l := by
  obtain ⟨A, c, h1, h2, h3⟩ := h
  refine ⟨A, c, h1, h2, fun h0 => ?_⟩
  obtain ⟨g, h4, h5, h6, h7⟩ := h3 h0
  refine ⟨g, h4, h5, Nat.lt_of_lt_of_le h6 hb.size, fun k M hk j u hu => ?_⟩
  exact (hb.cell (p := ⟨g, _, none⟩) h6).trans (h7 k M hk j u hu)
theorem ways_len {d : Dat} {x : Nt} (h : x.Ok d) : x.ways.length ≤ 3 := by
  unfold Nt.ways
  split
  · rename_i hk
    rw [List.length_map]
    exact (h.years hk).2.2.2.2.1
  · split
    · simp
    · split <;> simp
theorem all_len {d : Dat} (hd : d.Ok) : d.all.length ≤ 10000 := by
  have h := choose_len (d.notes.map Nt.ways) d.unsaid (fun l hl => by
    obtain ⟨x, hx, rfl⟩ := List.mem_map.1 hl
    exact ways_len (hd.notes.2 x hx))
  rw [List.length_map] at h
  have h8 := hd.notes.1
  have : 3 ^ d.notes.length ≤ 3 ^ 8 := Nat.pow_le_pow_right (by omega) h8
  exact Nat.le_trans h (Nat.le_trans this (by decide))
def AllPost (d : Dat) (w : World) (e : Ending) (w' : World) : Prop := ∃ v, e = .returned v ∧ MatsAt w' w.heap.size v d.all ∧ Below w.heap.size w w'
set_option maxRecDepth 100000 in
set_option maxHeartbeats 1000000 in
theorem allOf_any (d : Dat) (hd : d.Ok) (v : Value) (B0 : Nat) (w : World) (hB0 : B0 ≤ w.heap.size) (hv : DatAt w B0 v d) :
    Calls Try.prog 41 #[v] w (AllPost d w) := by
  obtain ⟨ve, vn, rfl, hve, hvn⟩ := hv
  have hdat : DatAt w B0 (.agg #[.int .i64 d.stones, ve, vn]) d := ⟨ve, vn, rfl, hve, hvn⟩
  clear hve hvn
  go_enter Try.func41, Try.ntmps41
  go_wp2_with fail
  obtain ⟨W, hW⟩ : ∃ W, W = w.alloc (.cells #[.int .i64 d.stones, ve, vn] 28) := ⟨_, rfl⟩
  have b1 : Below w.heap.size w W := by rw [hW]; exact (Below.refl _ w).alloc (Nat.le_refl _) _
  have k1 : Blok W w.heap.size 28 [.int .i64 d.stones, ve, vn] := by rw [hW]; exact Blok.new w _ _
  have z1 : W.heap.size = w.heap.size + 1 := by rw [hW]; simp
  rw [← hW]
  clear hW
  have hdW := hdat.keep (Same.of_below (b1.mono hB0)) (Nat.le_refl _)
  have c0 := k1.cell 0
  have c1 := k1.cell 1
  have c2 := k1.cell 2
  simp at c0 c1 c2
  have HNO := Lib.hid (notesOf_any d hd 0 (by omega) (.agg #[.int .i64 d.stones, ve, vn]) B0 W.drew (show B0 ≤ W.heap.size by omega) (show DatAt W.drew B0 _ d from hdW))
  have HDW := Lib.hid hdW
  have HK1 := Lib.hid k1
  have HB1 := Lib.hid b1
  have hall : ∀ w2, Below W.heap.size W w2 → ∀ A c, IfNotes w2 w2.heap.size (.slice A d.notes.length c) d.notes →
      Calls Try.prog 61 #[.func (.func 73) #[] #[.pointer (some ⟨w2.heap.size, 0, none⟩), .pointer (some ⟨w2.heap.size + 1, 0, none⟩)]] ((w2.alloc (.cells #[.int .i64 d.stones, ve, vn] 28)).alloc (.cells #[.slice A d.notes.length c] 99))
        fun e w' => ∃ v, e = .returned v ∧ MatsAt w' w.heap.size v d.all ∧ Below w.heap.size w w' := by
    intro w2 hb2 A c hno
    have hb2' : Below w2.heap.size w2 ((w2.alloc (.cells #[.int .i64 d.stones, ve, vn] 28)).alloc (.cells #[.slice A d.notes.length c] 99)) := ((Below.refl _ w2).alloc (Nat.le_refl _) _).alloc (by simp) _
    have hd2 : DatAt w2 B0 (.agg #[.int .i64 d.stones, ve, vn]) d := hdW.keep (Same.of_below (hb2.mono (by omega))) (Nat.le_refl _)
    have hsz2 := hb2.size
    refine (collect_any 73 _ (chooseP 10 (d.notes.map Nt.ways) d.unsaid) w2.heap.size _ (fun n => gives_choices n d hd d.notes (fun x hx => hd.notes.2 x hx) w2.heap.size (w2.heap.size + 1) w2.heap.size)
      (enters_of Try.func73 (by kernel_rfl) rfl) (by rw [all_code hd]; exact all_len hd) _ (by simp; omega) (fun W' G' hb' hG' => ⟨?_, ve, vn, .slice A d.notes.length c, ?_, ?_, ?_, ?_⟩)).mono ?_
    · have := hb'.size
      simp at this
      omega
    · exact ((Blok.new w2 28 [.int .i64 d.stones, ve, vn]).alloc _).below hb' (by simp; omega)
    · exact (hd2.keep (Same.of_below (hb2'.mono (by omega))) (show B0 ≤ w2.heap.size by omega)).keep (Same.of_below (hb'.mono (by simp; omega))) (Nat.le_refl _)
    · have := (Blok.new (w2.alloc (.cells #[.int .i64 d.stones, ve, vn] 28)) 99 [.slice A d.notes.length c]).below hb' (by simp)
      simpa using this
    · refine ((hno.keep (Same.of_below hb2') (Nat.le_refl _)).keep (Same.of_below (hb'.mono (by simp; omega))) (Nat.le_refl _)).free (by have := hb'.size; simp at this; omega) (fun b hb hg => ?_)
      have := hG' b hg
      simp at this
      omega
    · rintro e w' ⟨v, rfl, hv1, hv2⟩
      rw [all_code hd] at hv1
      have hm := mats_of_own hv1
      obtain ⟨A', c', e1, e2, e3⟩ := hm
      refine ⟨v, rfl, ⟨A', c', e1, e2, fun h0 => ?_⟩, b1.trans ((hb2.mono (by omega)).trans ((hb2'.mono (by omega)).trans (hv2.mono (by omega))))⟩
      obtain ⟨g, h1, h2, h3, h4⟩ := e3 h0
      exact ⟨g, h1, by simp at h2; omega, h3, h4⟩
  have HALL := Lib.hid hall
  clear hdat hdW b1 k1 hall
  go_region_with (first
    | (go_at_call 63; refine HNO.out.mono ?_; rintro e w2 hp; obtain ⟨v2, rfl, hv2, hb2⟩ := hp; rw [keptTo_zero] at hv2; obtain ⟨A2, cc2, rfl, hle2, hr2⟩ := hv2; have HB2 := Lib.hid (show Below W.heap.size W w2 from ⟨hb2.os, hb2.tape, hb2.output, hb2.size, hb2.block⟩); have HN2 := Lib.hid (show IfNotes w2 w2.heap.size (.slice A2 d.notes.length cc2) d.notes from ⟨A2, cc2, rfl, hle2, hr2⟩); have k2 := HK1.out.below HB2.out HK1.out.size; have c0 := k2.cell 0; have c1 := k2.cell 1; have c2 := k2.cell 2; simp at c0 c1 c2; clear hb2 hr2 hle2 k2)
    | (go_at_call 62; refine (choices_any _ _ _ _ _ _ _).mono ?_; rintro e w3 ⟨rfl, rfl⟩)
    | (go_at_call 61; refine (HALL.out _ HB2.out _ _ HN2.out).mono ?_; rintro e w4 hp; obtain ⟨v4, rfl, hm4, hb4⟩ := hp; have HM4 := Lib.hid hm4; have HB4 := Lib.hid hb4; clear hm4 hb4))
  all_goals
    go_wp2_with fail
    go_ret
    exact ⟨v4, rfl, HM4.out, HB4.out⟩
end
end
end Go.Proofs.Ytcbdcdpoackplaa
