/- The letters of a set, in order. -/
import Derived.Test.YtcemefojpaicoaaDoorJ
import Derived.Test.YtcemefojpaicoaaDoorN
import Derived.Maps.RangeWalk
import Derived.Maps.Ext
import Derived.Laws.CopyOwn
namespace Go.Proofs.YtcemefojpaicoaaDoor
open Go.RowKit Go.Maps Go.Shelf

theorem plainElem_bool_inv {H : Type} {P : Program} {e : TypeId} (he : P.underlying e = some .bool) {v : Value} {z : DataW H × List MemPlace} (h : plainElem P e v = some z) : ∃ a, v = .bool a ∧ z = (.lit (.bool a), []) := by
  cases v <;> simp [plainElem, he] at h <;> exact ⟨_, rfl, h.symm⟩

/-- Letters in order, of those that have come. -/
def Came {H : Type} (D0 : DataW H) (left : Lit → Bool) (ys : List Nat) : Prop :=
  ys.Pairwise (· < ·) ∧ (∀ x ∈ ys, x < 256) ∧ ∀ x : Fin 256, x.val ∈ ys ↔ (has D0 (.int .u8 x.val) = true ∧ left (.int .u8 x.val) = false)
def OrderPost {H : Type} (D0 : DataW H) (w : World) (e : Ending) (w' : World) : Prop :=
  Below w.heap.size w w' ∧ ∃ ys : List Nat, e = .returned (.string ⟨(ys.map UInt8.ofNat).toArray⟩) ∧ Came D0 (fun _ => false) ys

theorem next_set {H : Type} {P : Program} (w : World) {ops : Array Oper} {rest : List Oper} {o : Oper} {a : Act} {Q : Exit → Act → World → Prop} (hg : o.guard = none) (it : Operand) (hop : o.op = Op.next it false) (k e : TypeId) (hk : P.underlying k = some (.int .u8)) (he : P.underlying e = some .bool) (b r n : Nat) (D : DataW H) (left : Lit → Bool) (cnt : Nat)
    (hit : a.eval it = .pointer (some ⟨r, 0, none⟩)) (h : w.ranges P k (plainElem (H := H) P e) b r n D left cnt)
    (hDone : cnt = 0 → (∀ kl, left kl = false) → wpList P ops Q rest (a.put o.dst (.tuple #[.bool false])) w)
    (hMore : ∀ (x : Nat) (v : Value) (w' : World) (cnt' : Nat), x < 256 → left (.int .u8 x) = true → has D (.int .u8 x) = true → w'.ranges P k (plainElem (H := H) P e) b r n D (fun z => left z && !z.sameKey (.int .u8 x)) cnt' → cnt' < cnt →
      w.grownBy w' (some r) → w'.heap.size = w.heap.size → (Instr.entry (.pointer (some ⟨r, 0, none⟩))).run P w' = .ok (.tuple #[.int .u8 x, v]) w' → wpList P ops Q rest (a.put o.dst (.tuple #[.bool true, .int .u8 x, v])) w') :
    wpList P ops Q (o :: rest) a w := by
  refine wpList_next_ranges w hg it hop k (Maps.int_keyed hk) (plainElem (H := H) P e) (Value.int .u8) Value.bool (fun key kl hkey => by obtain ⟨x, rfl, _⟩ := Maps.keyOf_int_inv hk hkey; exact ⟨x, rfl⟩) (fun v y hv => by obtain ⟨c, rfl, _⟩ := plainElem_bool_inv he hv; exact ⟨c, rfl⟩) b r n D left cnt hit h hDone ?_
  intro x c kl y w' cnt' hkey hlk hv hat hrg hlt hgr hsz hen
  obtain ⟨x', ex, rfl, hwx⟩ := Maps.keyOf_int_inv hk hkey
  cases ex
  have h2 : 0 ≤ x ∧ x < 256 := by
    have h3 : IntKind.u8.min ≤ x ∧ x ≤ IntKind.u8.max := by simpa [Lit.wf] using hwx
    have e1 : IntKind.u8.min = 0 := rfl
    have e2 : IntKind.u8.max = 255 := rfl
    omega
  obtain ⟨m, rfl⟩ : ∃ m : Nat, x = m := ⟨x.toNat, by omega⟩
  exact hMore m (.bool c) w' cnt' (by omega) hlk (Maps.has_true_of_atKey hat) hrg hlt hgr hsz hen
theorem row_ne_iter {H : Type} {P : Program} {k : TypeId} {R : Value → Option (DataW H × List MemPlace)} {w : World} {b r n : Nat} {D : DataW H} {left : Lit → Bool} {cnt base m cap size g : Nat} {e : TypeId} {xs : List Value} (h : w.ranges P k R b r n D left cnt) (ho : w.ownsRow base e size (.slice (some ⟨g, 0, none⟩) m cap) m xs) : g ≠ r := by
  obtain ⟨es, clock, since, seen, c0, _, _, _, _, hr, _⟩ := h
  rcases ho.2 with ⟨h', _⟩ | ⟨g', cap', cur, h', _, hg, _⟩
  · simp at h'
  · simp only [Value.slice.injEq, Option.some.injEq, Addr.mk.injEq, and_true, true_and] at h'
    obtain ⟨rfl, rfl⟩ := h'
    rintro rfl
    rw [hg] at hr
    cases hr

theorem row_open {w : World} {base m cap g : Nat} {e : TypeId} {xs : List Value} (ho : w.ownsRow base e 1 (.slice (some ⟨g, 0, none⟩) m cap) m xs) :
    base ≤ g ∧ ∃ cur : List Value, w.heap[g]? = some (.cells cur.toArray e (0, 0)) ∧ m ≤ cap ∧ cap ≤ maxLen ∧ cur.length = cap ∧ cur.take m = xs := by
  rcases ho.2 with ⟨h', _⟩ | ⟨g', cap', cur, h', hb, hg, h1, h2, h3, h4⟩
  · simp at h'
  · simp only [Value.slice.injEq, Option.some.injEq, Addr.mk.injEq, and_true, true_and] at h'
    obtain ⟨rfl, rfl⟩ := h'
    exact ⟨hb, cur.toList, by simpa using hg, h1, h2, by simpa using h3, by simpa using h4⟩

theorem step_copy_row {P : Program} {ops : Array Oper} {o : Oper} {a : Act} {w : World} {K : Act → World → Prop} {Q : Exit → Act → World → Prop} {E : Prop} (hgd : o.guard = none) (d s : Operand) (dT sT : TypeId)
    (ho : o.op = .call { callee := .builtin .copy, args := #[d, s], argTypes := #[dT, sT] }) (elem : TypeId) (hu : P.underlying dT = some (.slice elem)) (hsz : (P.info? elem).map (·.size) = some 1)
    (dp sp : Option Addr) (dLen dCap sLen sCap : Nat) (hd : a.eval d = .slice dp dLen dCap) (hs : a.eval s = .slice sp sLen sCap)
    (g off : Nat) (cur : List Value) (t : TypeId) (hg : w.heap[g]? = some (.cells cur.toArray t (0, 0))) (cs : List Value) (hn : cs.length = Nat.min sLen dLen)
    (hpos : 0 < cs.length → dp = some ⟨g, off, none⟩ ∧ ∃ ad, sp = some ad ∧ ∀ j v, cs[j]? = some v → w.cell? (ad.add j) = some v)
    (hfit : off + cs.length ≤ cur.length) (h1 : ∀ v ∈ cs, v.oneCell' = true)
    (h : ∀ w', Hid (w'.heap[g]? = some (.cells (splice cur off cs).toArray t (0, 0))) → w.grownBy w' (some g) → K (a.put o.dst (goInt cs.length)) w') :
    if Region.wanted o (yielded ops a.tmps) = true then Oper.wp P o a w K Q else E := by
  have hw : Region.wanted o (yielded ops a.tmps) = true := by simp [Region.wanted, hgd]
  rw [if_pos hw]
  by_cases h0 : cs.length = 0
  · obtain rfl : cs = [] := List.eq_nil_of_length_eq_zero h0
    have hrun := run_copy_none (P := P) w dT sT o.type elem dp sp dLen dCap sLen sCap hu hsz (by simpa using hn.symm)
    unfold Oper.wp
    simp [execOp, ho, resolve, invoke, builtin, hd, hs, hrun, Result.andThen]
    exact h w (show _ = _ by simpa [splice] using hg) ⟨rfl, rfl, rfl, Nat.le_refl _, fun _ _ _ => rfl⟩
  · obtain ⟨rfl, ad, rfl, hsrc⟩ := hpos (by omega)
    have hrun := run_copy_row (P := P) w dT sT o.type elem g off dLen dCap ad sLen sCap cur.toArray t cs hu hsz hg hn hsrc (by simpa using hfit) h1
    unfold Oper.wp
    simp [execOp, ho, resolve, invoke, builtin, hd, hs, hrun, Result.andThen]
    exact h _ (show _ = _ by simpa [splice] using setRow_heap w g _ _ t _ hg) ⟨rfl, rfl, rfl, by simp [World.setRow], fun k _ hk => setRow_other w g k _ (fun e => hk (by rw [e]))⟩
theorem came_start {H : Type} (D0 : DataW H) : Came D0 (has D0) [] := ⟨List.Pairwise.nil, by simp, fun x => by cases has D0 (.int .u8 x.val) <;> simp⟩
theorem rising_len (lo hi : Nat) (ys : List Nat) (h : ys.Pairwise (· < ·)) (hb : ∀ x ∈ ys, lo ≤ x ∧ x < hi) : ys.length ≤ hi - lo := by
  induction ys generalizing lo with
  | nil => simp
  | cons y ys ih =>
    obtain ⟨h1, h2⟩ := List.pairwise_cons.1 h
    have hy := hb y (by simp)
    have := ih (y + 1) h2 fun x hx => ⟨h1 x hx, (hb x (by simp [hx])).2⟩
    simp only [List.length_cons]
    omega
theorem row_shut {w : World} {base m cap g : Nat} {e : TypeId} {cur : List Value} (hb : base ≤ g) (hg : w.heap[g]? = some (.cells cur.toArray e (0, 0))) (h1 : m ≤ cap) (h2 : cap ≤ maxLen) (h3 : cur.length = cap) :
    w.ownsRow base e 1 (.slice (some ⟨g, 0, none⟩) m cap) m (cur.take m) :=
  ⟨by simp; omega, .inr ⟨g, cap, cur.toArray, rfl, hb, hg, h1, h2, by simpa using h3, by simp⟩⟩
theorem came_len {H : Type} {D0 : DataW H} {left : Lit → Bool} {ys : List Nat} (h : Came D0 left ys) : ys.length ≤ 256 := by
  exact rising_len 0 256 ys h.1 (fun x hx => ⟨Nat.zero_le _, h.2.1 x hx⟩)
def insertAt (ys : List Nat) (pos x : Nat) : List Nat := ys.take pos ++ x :: ys.drop pos
theorem insertAt_len (ys : List Nat) (pos x : Nat) : (insertAt ys pos x).length = ys.length + 1 := by
  simp [insertAt]
  omega
theorem mem_insertAt {ys : List Nat} {pos x y : Nat} : y ∈ insertAt ys pos x ↔ y = x ∨ y ∈ ys := by
  have h : y ∈ ys ↔ y ∈ ys.take pos ∨ y ∈ ys.drop pos := by rw [← List.mem_append, List.take_append_drop]
  simp only [insertAt, List.mem_append, List.mem_cons, h]
  constructor <;> (rintro (h | h | h) <;> simp [h])
theorem came_insert {H : Type} {D0 : DataW H} {left : Lit → Bool} {ys : List Nat} (h : Came D0 left ys) {x pos : Nat} (hx : x < 256) (hp : PlaceOf ys x pos) (hh : has D0 (.int .u8 x) = true) (hl : left (.int .u8 x) = true) :
    Came D0 (fun z => left z && !z.sameKey (.int .u8 x)) (insertAt ys pos x) := by
  have hno : x ∉ ys := fun hm => by
    have := ((h.2.2 ⟨x, hx⟩).1 hm).2
    simp [hl] at this
  refine ⟨?_, ?_, ?_⟩
  · unfold insertAt
    rw [List.pairwise_append]
    have a1 : ∀ v ∈ ys.take pos, v < x := fun v hv => by
      obtain ⟨a, ha⟩ := List.mem_iff_getElem?.1 hv
      rw [List.getElem?_take] at ha
      split at ha
      · exact hp.2.1 a v (by assumption) ha
      · cases ha
    have a2 : ∀ v ∈ ys.drop pos, x < v := fun v hv => by
      obtain ⟨a, ha⟩ := List.mem_iff_getElem?.1 hv
      rw [List.getElem?_drop] at ha
      have h1 := hp.2.2 (pos + a) v (by omega) ha
      have h2 : v ≠ x := fun e => hno (e ▸ List.mem_of_mem_drop hv)
      omega
    refine ⟨h.1.sublist (List.take_sublist _ _), List.pairwise_cons.2 ⟨a2, h.1.sublist (List.drop_sublist _ _)⟩, fun a ha b hb => ?_⟩
    rcases List.mem_cons.1 hb with rfl | hb
    · exact a1 a ha
    · exact Nat.lt_trans (a1 a ha) (a2 b hb)
  · intro y hy
    rcases mem_insertAt.1 hy with rfl | hy
    · exact hx
    · exact h.2.1 y hy
  · intro y
    rw [mem_insertAt, h.2.2 y]
    by_cases e : y.val = x
    · subst e
      simp [hh, Lit.sameKey]
    · have e' : (y.val : Int) ≠ (x : Int) := by omega
      simp [e, Lit.sameKey, e']
theorem insert_cells {β : Type} (f : Nat → β) (cur cs : List β) (ys : List Nat) (x pos : Nat) (hp : pos ≤ ys.length) (hc : cur.take (ys.length + 1) = ys.map f ++ [f x]) (hl : ys.length + 1 ≤ cur.length) (hcs : cs = (ys.drop pos).map f) :
    ((splice cur (pos + 1) cs).take (ys.length + 1)).set pos (f x) = (insertAt ys pos x).map f := by
  have hcl : cs.length = ys.length - pos := by rw [hcs]; simp
  have h1 : cur.take (pos + 1) = (ys.map f ++ [f x]).take (pos + 1) := by rw [← hc, List.take_take]; congr 1; omega
  have h2 : (splice cur (pos + 1) cs).take (ys.length + 1) = cur.take (pos + 1) ++ cs := by
    unfold splice
    rw [← List.append_assoc, List.take_append_of_le_length (by simp; omega), List.take_of_length_le (by simp; omega)]
  have h3 : (cur.take (pos + 1)).length = pos + 1 := by simp; omega
  have h4 : (cur.take (pos + 1)).take pos = (ys.take pos).map f := by
    rw [h1, List.take_take, show min pos (pos + 1) = pos by omega, List.take_append_of_le_length (by simpa using hp), List.map_take]
  have h5 : (cur.take (pos + 1)).set pos (f x) = (ys.take pos).map f ++ [f x] := by
    rw [← h4]
    apply List.ext_getElem?
    intro i
    rw [List.getElem?_set, List.getElem?_append]
    have hm : ((cur.take (pos + 1)).take pos).length = pos := by simp; omega
    by_cases e : pos = i
    · subst e
      simp [h3, hm]
    · by_cases e2 : i < pos
      · rw [if_neg e, if_pos (by omega), List.getElem?_take_of_lt e2]
      · rw [if_neg e, if_neg (by omega), List.getElem?_eq_none (by omega), List.getElem?_eq_none (by simp; omega)]
  rw [h2, List.set_append_left _ _ (by omega), h5, hcs]
  simp [insertAt]
def RI {H : Type} (w : World) (b n : Nat) (D0 : DataW H) (r : Nat) (v : Value) (wr : World) : Prop :=
  ∃ left cnt ys g cap, wr.ranges Tryd.prog 5 (plainElem (H := H) Tryd.prog 4) b r n D0 left cnt ∧ v = .slice (some ⟨g, 0, none⟩) ys.length cap ∧
    wr.ownsRow w.heap.size 5 1 v ys.length (ys.map (fun y : Nat => Value.int .u8 (y : Int))) ∧ Came D0 left ys ∧ Below w.heap.size w wr
theorem info_u8 : (Tryd.prog.info? 5).map (fun i => (i.zero, i.size, i.bytes)) = some (some (.int .u8 0), 1, 1) := by kernel_rfl

set_option maxHeartbeats 1000000 in
set_option maxRecDepth 100000 in
theorem inOrder_any {H : Type} (b n : Nat) (D0 : DataW H) (w : World) (hown : w.ownsMap Tryd.prog 5 (plainElem (H := H) Tryd.prog 4) b n D0) (hmax : Maps.size D0 ≤ 256) :
    Calls Tryd.prog 31 #[.map (some b)] w (OrderPost D0 w) := by
  have hbl := hown.lt
  have hn0 : (0 : Int) ≤ (Maps.size D0 : Nat) := by omega
  go_enter Tryd.func31, Tryd.ntmps31
  obtain ⟨i0, hi, hz0, hz1, hz2⟩ := info_parts info_u8
  go_wp2_with (first
    | (at_len; refine wpList_len_own _ rfl _ 87 rfl 5 4 Tryd.underlying87 _ b n D0 rfl hown ?_)
    | (at_make; refine wpList_make_own _ rfl _ _ 76 rfl w.heap.size 5 i0 (.int .u8 0) 1 Tryd.underlying76 hi hz0 hz1 .i64 .i64 _ (Maps.size D0) rfl rfl rfl (by rw [hz2]; omega) (by unfold maxLen; omega) (Nat.le_refl _) ?_; intro w1 hrow hg1)
    | (at_range; refine wpList_range_own _ rfl _ 87 rfl 5 4 (Maps.int_keyed Tryd.underlying5) Tryd.underlying87 _ b n _ rfl (hown.kept hg1 (by simp)) ?_; intro w2 hrg2 hg2 hs2)
    | go_in)
  go_frame
  have hb2 : Below w.heap.size w w2 := ((Below.refl _ _).grown hg1 (Nat.le_refl _) (fun j e => by cases e)).grown hg2 hg1.size (fun j e => by cases e)
  have hr0 : RI w b n D0 w1.heap.size (.slice (some ⟨w.heap.size, 0, none⟩) 0 (Maps.size D0)) w2 :=
    ⟨_, _, [], w.heap.size, _, hrg2, rfl, hrow.kept hg2 (.inr (by simp [Value.ownBlock])), came_start D0, hb2⟩
  have hr1 := hrow.lt
  have HB := Lib.hid hbl
  have HR1 : w.heap.size ≤ w1.heap.size := hg1.size
  have RR := Lib.hid hr0
  clear hb2 hr0 hrow hg1 hg2 hrg2 hs2 hown hr1
  go_loopw [3] (fun v wr => RI w b n D0 w1.heap.size v wr) (fun _ wr => wr.rangeLeft b w1.heap.size)
  case atStart => exact RR.out
  case round =>
    obtain ⟨left, cnt, ys, g, cap, hrg, rfl, hrow, hcame, hbw⟩ := hrel
    clear RR
    go_wp2_with (first
      | (at_next; refine next_set _ rfl _ rfl 5 4 Tryd.underlying5 Tryd.underlying4 b w1.heap.size n D0 left cnt rfl hrg ?_ ?_)
      | go_in)
    · intro hc0 hl0
      have hcell : ∀ i, i < ys.length → wr.cell? ⟨g, 0 + i, none⟩ = some (.int .u8 ((ys.map (fun y : Nat => (y : Int))).getD i 0)) := fun i hi => by
        rw [Nat.zero_add, hrow.cellAt i (by omega)]
        simp [List.getD, hi]
      have hconv := run_convert_bytes_arg (P := Tryd.prog) wr 76 5 Tryd.underlying76 Tryd.underlying5 g 0 ys.length cap (ys.map (fun y : Nat => (y : Int))) (by simp) hcell 9 Tryd.underlying9
      have hcame' : Came D0 (fun _ => false) ys := ⟨hcame.1, hcame.2.1, fun x => by rw [hcame.2.2 x]; simp [hl0]⟩
      have hfin : OrderPost D0 w (.returned (.string (strOfNums (ys.map (fun y : Nat => (y : Int)))))) wr := ⟨hbw, ys, by simp [strOfNums, Function.comp_def], hcame'⟩
      clear hcell hcame hcame' hrow
      go_wp2
      go_ret
      exact hfin
    · intro x v w3 cnt3 hx256 hlx hhx hrg3 hlt3 hg3 hs3 hen
      have hlen : ys.length ≤ 256 := came_len hcame
      have hgr : g ≠ w1.heap.size := row_ne_iter hrg hrow
      have hrow3 := hrow.kept hg3 (.inr (by simp [Value.ownBlock, hgr]))
      have hcells : ∀ (k v : Nat), ys[k]? = some v → w3.cell? ⟨g, k, none⟩ = some (.int .u8 v) := fun k v hk => by
        have hkl := (List.getElem?_eq_some_iff.1 hk).1
        rw [hrow3.cellAt k (by omega)]
        simp [hk]
      have BS := Lib.hid (bsearch_any g ys.length cap ys x w3 rfl hlen hcame.1 hcells)
      have HROW := Lib.hid hrow3
      have HCAME := Lib.hid hcame
      have hw3 : w.heap.size ≤ w3.heap.size := by rw [hs3]; exact hbw.size
      have HB3 := Lib.hid (hbw.grown hg3 hbw.size (fun j e => by cases e; exact HR1))
      clear hcells hrow3 hrow hcame hg3 hs3
      go_wp2_with (first
        | (go_at_call 38; refine BS.out.mono ?_; rintro e w4 ⟨⟨pos, fb, rfl, hpl⟩, rfl⟩; have HPL := Lib.hid hpl; clear hpl)
        | (at_builtin; refine wpList_append_own _ rfl _ _ 76 rfl w.heap.size 5 i0 (.int .u8 0) 1 1 Tryd.underlying76 hi hz0 hz1 hz2 rfl (by decide) _ _ _ rfl (HROW.out.alloc _) ⟨w3.heap.size, 0, none⟩ 1 1 [.int .u8 x] rfl rfl (cell_one_new _ _ _) (by simp [Value.oneCell']) (by unfold maxLen; omega) (by omega) (by simp; omega) ?_; intro v' w5 hown' hgrow hnil; obtain ⟨g2, cap2, rfl, hb2, hlt2⟩ := hown'.form (by omega); have HOWN := Lib.hid hown'; have HGROW := Lib.hid hgrow; clear hown' hgrow hnil))
      obtain ⟨cur, hcur, hmc, hcm, hcl, htk⟩ := (row_open HOWN.out).2
      have hpn : pos ≤ ys.length := HPL.out.1
      obtain ⟨cs, hcs⟩ : ∃ cs, cs = (ys.drop pos).map (fun y : Nat => Value.int .u8 (y : Int)) := ⟨_, rfl⟩
      have hcsl : cs.length = ys.length - pos := by rw [hcs]; simp
      have s1 : Hid (∀ v ∈ cs, v.oneCell' = true) := by
        intro u hu
        rw [hcs] at hu
        obtain ⟨x, _, rfl⟩ := List.mem_map.1 hu
        rfl
      have s2 : Hid (∀ j v, cs[j]? = some v → w5.cell? ((⟨g2, pos, none⟩ : Addr).add j) = some v) := by
        intro j v hj
        have hjl := (List.getElem?_eq_some_iff.1 hj).1
        have e : (⟨g2, pos, none⟩ : Addr).add j = ⟨g2, pos + j, none⟩ := by unfold Addr.add; split <;> simp_all
        rw [e, HOWN.out.cellAt (pos + j) (by omega), List.getElem?_append_left (by simp; omega), ← hj, hcs]
        simp
      have HCUR := Lib.hid hcur
      have HCS := Lib.hid hcs
      have HTK := Lib.hid htk
      have hwr : IntKind.i64.wrap ((pos : Int) + 1) = (pos : Int) + 1 := by rw [IntKind.wrap_i64]; omega
      have hp0 : (0 : Int) ≤ (pos : Int) + 1 := by omega
      have hp1 : (pos : Int) + 1 ≤ ((ys.length + 1 : Nat) : Int) := by omega
      have hp2 : ((pos : Int) + 1).toNat = pos + 1 := by omega
      have hp3 : (pos : Int) ≤ (ys.length : Int) + 1 := by omega
      have hq1 : ¬ cap2 = pos := by omega
      clear hcur hcs htk
      by_cases hpc : pos + 1 < cap2
      · have hq2 : ¬ cap2 = pos + 1 := by omega
        go_region_law (refine step_copy_row rfl (.tmp 29) (.tmp 32) 76 76 rfl 5 Tryd.underlying76 (by kernel_rfl) (some ⟨g2, pos + 1, none⟩) (some ⟨g2, pos, none⟩) (ys.length - pos) (cap2 - (pos + 1)) (ys.length + 1 - pos) (cap2 - pos) (by simp [Act.eval, Act.put]) (by simp [Act.eval, Act.put]) g2 (pos + 1) cur 5 HCUR.out cs (by rw [hcsl]; simp only [Nat.min_def]; split <;> omega) (fun _ => ⟨rfl, _, rfl, s2.out⟩) (by omega) s1.out ?_; intro w6 HG6 hgr6)
        have hown6 : w6.ownsRow w.heap.size 5 1 (.slice (some ⟨g2, 0, none⟩) (ys.length + 1) cap2) (ys.length + 1) ((splice cur (pos + 1) cs).take (ys.length + 1)) := row_shut hb2 HG6.out hmc hcm (by rw [length_splice _ _ _ (by omega)]; exact hcl)
        obtain ⟨v6, hv6⟩ : ∃ v, ((splice cur (pos + 1) cs).take (ys.length + 1))[pos]? = some v := ⟨_, List.getElem?_eq_getElem (by simp [length_splice _ _ _ (show pos + 1 + cs.length ≤ cur.length by omega)]; omega)⟩
        have c6 := (hown6.cellAt pos (by omega)).trans hv6
        have f6 := hown6.frozenAt pos
        have hst := hown6.stored pos (.int .u8 (x : Nat))
        rw [insert_cells (fun y => Value.int .u8 (y : Int)) cur cs ys x pos hpn HTK.out (by omega) HCS.out] at hst
        have HST := Lib.hid hst
        have HG2 := Lib.hid hgr6
        clear hown6 hv6 hst hgr6 HG6
        go_wp2
        have bg : w.heap.size ≤ g := (HROW.out.lt g rfl).1
        have hbn : b < w.heap.size := HB.out
        have hrg5 := (hrg3.alloc (.cells #[.int .u8 (x : Nat)] 5)).kept HGROW.out (fun e => by have e' : b = g := Option.some.inj e; omega) (fun e => hgr (Option.some.inj e).symm)
        have hg2r : g2 ≠ w1.heap.size := row_ne_iter hrg5 HOWN.out
        have hrg5' : w5.drew.ranges Tryd.prog 5 (plainElem (H := H) Tryd.prog 4) b w1.heap.size n D0 (fun z => left z && !z.sameKey (.int .u8 (x : Nat))) cnt3 := hrg5
        have hrgF := (hrg5'.kept HG2.out (by simp; omega) (by simp; omega)).kept HST.out.2 (by simp; omega) (by simp; omega)
        have hb5 := ((HB3.out.alloc hw3 (.cells #[.int .u8 (x : Nat)] 5)).grown HGROW.out (by simp; omega) (fun j e => by have e' : g = j := Option.some.inj e; omega)).drew
        have hb6 := hb5.grown HG2.out hb5.size (fun j e => by cases e; exact hb2)
        have hbF := hb6.grown HST.out.2 hb6.size (fun j e => by cases e; exact hb2)
        refine ⟨⟨_, cnt3, insertAt ys pos x, g2, cap2, hrgF, by rw [insertAt_len], ?_, came_insert HCAME.out hx256 HPL.out hhx hlx, hbF⟩, by rw [hrgF.left_eq, hrg.left_eq]; exact hlt3⟩
        rw [insertAt_len]
        exact HST.out.1
      · obtain rfl : cap2 = pos + 1 := by omega
        have hcs0 : cs.length = 0 := by omega
        go_region_law (refine step_copy_row rfl (.tmp 29) (.tmp 32) 76 76 rfl 5 Tryd.underlying76 (by kernel_rfl) (some ⟨g2, 0, none⟩) (some ⟨g2, pos, none⟩) 0 0 (ys.length + 1 - pos) (pos + 1 - pos) (by simp [Act.eval, Act.put]) (by simp [Act.eval, Act.put]) g2 (pos + 1) cur 5 HCUR.out cs (by rw [hcsl]; simp only [Nat.min_def]; split <;> omega) (fun h => by omega) (by omega) s1.out ?_; intro w6 HG6 hgr6)
        have hown6 : w6.ownsRow w.heap.size 5 1 (.slice (some ⟨g2, 0, none⟩) (ys.length + 1) (pos + 1)) (ys.length + 1) ((splice cur (pos + 1) cs).take (ys.length + 1)) := row_shut hb2 HG6.out hmc hcm (by rw [length_splice _ _ _ (by omega)]; exact hcl)
        obtain ⟨v6, hv6⟩ : ∃ v, ((splice cur (pos + 1) cs).take (ys.length + 1))[pos]? = some v := ⟨_, List.getElem?_eq_getElem (by simp [length_splice _ _ _ (show pos + 1 + cs.length ≤ cur.length by omega)]; omega)⟩
        have c6 := (hown6.cellAt pos (by omega)).trans hv6
        have f6 := hown6.frozenAt pos
        have hst := hown6.stored pos (.int .u8 (x : Nat))
        rw [insert_cells (fun y => Value.int .u8 (y : Int)) cur cs ys x pos hpn HTK.out (by omega) HCS.out] at hst
        have HST := Lib.hid hst
        have HG2 := Lib.hid hgr6
        clear hown6 hv6 hst hgr6 HG6
        go_wp2
        have bg : w.heap.size ≤ g := (HROW.out.lt g rfl).1
        have hbn : b < w.heap.size := HB.out
        have hrg5 := (hrg3.alloc (.cells #[.int .u8 (x : Nat)] 5)).kept HGROW.out (fun e => by have e' : b = g := Option.some.inj e; omega) (fun e => hgr (Option.some.inj e).symm)
        have hg2r : g2 ≠ w1.heap.size := row_ne_iter hrg5 HOWN.out
        have hrg5' : w5.drew.ranges Tryd.prog 5 (plainElem (H := H) Tryd.prog 4) b w1.heap.size n D0 (fun z => left z && !z.sameKey (.int .u8 (x : Nat))) cnt3 := hrg5
        have hrgF := (hrg5'.kept HG2.out (by simp; omega) (by simp; omega)).kept HST.out.2 (by simp; omega) (by simp; omega)
        have hb5 := ((HB3.out.alloc hw3 (.cells #[.int .u8 (x : Nat)] 5)).grown HGROW.out (by simp; omega) (fun j e => by have e' : g = j := Option.some.inj e; omega)).drew
        have hb6 := hb5.grown HG2.out hb5.size (fun j e => by cases e; exact hb2)
        have hbF := hb6.grown HST.out.2 hb6.size (fun j e => by cases e; exact hb2)
        refine ⟨⟨_, cnt3, insertAt ys pos x, g2, (pos + 1), hrgF, by rw [insertAt_len], ?_, came_insert HCAME.out hx256 HPL.out hhx hlx, hbF⟩, by rw [hrgF.left_eq, hrg.left_eq]; exact hlt3⟩
        rw [insertAt_len]
        exact HST.out.1
end Go.Proofs.YtcemefojpaicoaaDoor
