/- The years of points, and the first years of eras. -/
import Derived.Test.YtcbdcdpoackplaaLx
import Derived.Test.YtcbdcdpoackplaaLv
import Derived.Deep.LoopGhost
import Derived.Deep.Onto
namespace Go.Proofs.Ytcbdcdpoackplaa
open Go.RowKit Dt

theorem mats_nil {w : World} {B : Nat} {v : Value} (h : MatsAt w B v []) : ∃ A c, v = .slice A 0 c := by
  obtain ⟨A, c, h, -⟩ := h
  exact ⟨A, c, h⟩
theorem own_ne_blok {w : World} {s base size n : Nat} {t e : TypeId} {cs xs : List Value} {v : Value} (hb : Blok w s t cs) (hv : w.ownsRow base e size v n xs) (hte : t ≠ e) (k : Nat) (hk : v.ownBlock = some k) : k ≠ s := by
  rcases hv.2 with ⟨rfl, -⟩ | ⟨g, cap, cur, rfl, hg, hh, r⟩
  · simp [Value.ownBlock] at hk
  · obtain rfl : g = k := by simpa [Value.ownBlock] using hk
    intro e'
    subst e'
    rw [Blok, hh] at hb
    injection hb with hb
    injection hb with h1 h2 h3
    exact hte h2.symm
def NoSpans (w : World) (e : Ending) (w' : World) : Prop := e = .returned (.tuple #[.slice none 0 0, .int .i64 9]) ∧ Below w.heap.size w w'
set_option maxRecDepth 100000 in
set_option maxHeartbeats 1000000 in
theorem spans_no (d : Dat) (hd : d.Ok) (hno : d.all = []) (first many : Int) (v : Value) (B0 : Nat) (w : World) (hB0 : B0 ≤ w.heap.size) (hv : DatAt w B0 v d) :
    Calls Try.prog 37 #[v, .int .i64 first, .int .i64 many] w (NoSpans w) := by
  have HNO := Lib.hid hno
  clear hno
  have HCK := Lib.hid (fun w' (hb : Below w.heap.size w w') => check_ok d hd v B0 w' (Nat.le_trans hB0 hb.size) (hv.keep (Same.of_below (hb.mono hB0)) (Nat.le_refl _)))
  have HAL := Lib.hid (fun w' (hb : Below w.heap.size w w') => allOf_any d hd v B0 w' (Nat.le_trans hB0 hb.size) (hv.keep (Same.of_below (hb.mono hB0)) (Nat.le_refl _)))
  obtain ⟨ve, vn, rfl, -, -⟩ := hv
  go_enter Try.func37, Try.ntmps37
  go_wp2_with fail
  have b0 : Below w.heap.size w (w.alloc (.cells #[.int .i64 d.stones, ve, vn] 28)) := (Below.refl _ w).alloc (Nat.le_refl _) _
  refine (HCK.out _ b0).mono ?_
  rintro e w1 ⟨rfl, hb1⟩
  have b1 := b0.trans (hb1.mono b0.size)
  have k1 := (Blok.new w 28 [.int .i64 d.stones, ve, vn]).below hb1 (by simp)
  have c0 := k1.cell 0
  have c1 := k1.cell 1
  have c2 := k1.cell 2
  simp at c0 c1 c2
  have HB1 := Lib.hid b1
  clear b0 b1 hb1 k1
  go_wp2_with fail
  refine (HAL.out _ HB1.out).mono ?_
  rintro e w2 ⟨v9, rfl, hm, hb2⟩
  rw [HNO.out] at hm
  obtain ⟨A9, c9, rfl⟩ := mats_nil hm
  have HB2 := Lib.hid (HB1.out.trans (hb2.mono HB1.out.size))
  clear hm hb2 c0 c1 c2
  go_wp2_with fail
  go_ret2
  exact ⟨rfl, HB2.out⟩
theorem news_row2 (w : World) (t : TypeId) (cs : List Value) : ∀ (j : Nat) (u : Value), cs[j]? = some u → (w.alloc (.cells cs.toArray t)).cell? ((⟨w.heap.size, 0, none⟩ : Addr).add j) = some u := by
  intro j u h
  rw [Addr.add_mid, Nat.zero_add]
  exact ((Blok.new w t cs).cell j).trans h
def SpanListPost (l : List (Int × Int)) (w : World) (e : Ending) (w' : World) : Prop := ∃ v, e = .returned (.tuple #[v, .int .i64 0]) ∧ w'.ownsRow w.heap.size 39 2 v l.length (flatS l) ∧ Below w.heap.size w w'
/-- The spans of some points. -/
def spanList (d : Dat) (first many : Nat) : List (Int × Int) := (List.range many).map fun i => d.span (first + i)
theorem spanList_succ (d : Dat) (first k : Nat) : spanList d first (k + 1) = spanList d first k ++ [d.span (first + k)] := by simp [spanList, List.range_succ]
theorem flatS_snoc (l : List (Int × Int)) (x : Int × Int) : flatS (l ++ [x]) = flatS l ++ [.int .i64 x.1, .int .i64 x.2] := by simp [flatS]
theorem info_span : (Try.prog.info? 39).map (fun i => (i.zero, i.size, i.bytes)) = some (some (.agg #[.int .i64 0, .int .i64 0]), 2, 16) := by kernel_rfl
theorem choose_small : ∀ (notes : List (List Dt.Way)) (B : Mat), Small B → ∀ M ∈ Dt.choose notes B, Small M
  | [], B, h, M, hM => by
    simp [Dt.choose] at hM
    subst hM
    exact h
  | l :: ns, B, h, M, hM => by
    simp only [Dt.choose, List.mem_flatMap] at hM
    obtain ⟨w, hw, hM⟩ := hM
    cases hl : left B w with
    | none => simp [hl] at hM
    | some M' =>
      simp only [hl] at hM
      exact choose_small ns M' (left_small h hl) M hM
theorem all_fine {d : Dat} (hd : d.Ok) : ∀ M ∈ d.all, Closed 10 M ∧ Small M := by
  intro M hM
  refine ⟨choose_closed _ _ (fun l hl => ?_) (unsaid_closed hd) M hM, choose_small _ _ (unsaid_small hd) M hM⟩
  obtain ⟨x, hx, rfl⟩ := List.mem_map.1 hl
  exact ways_inn hd (hd.notes.2 x hx)
theorem flatS_at : ∀ (l : List (Int × Int)) (k : Nat) (x : Int × Int), l[k]? = some x → (flatS l)[k * 2]? = some (.int .i64 x.1) ∧ (flatS l)[k * 2 + 1]? = some (.int .i64 x.2)
  | [], k, x, h => by simp at h
  | y :: l, 0, x, h => by
    simp at h
    subst h
    simp [flatS]
  | y :: l, k + 1, x, h => by
    have ih := flatS_at l k x (by simpa using h)
    have e : flatS (y :: l) = .int .i64 y.1 :: .int .i64 y.2 :: flatS l := by simp [flatS]
    rw [e, show (k + 1) * 2 = k * 2 + 1 + 1 by omega, show k * 2 + 1 + 1 + 1 = (k * 2 + 1) + 1 + 1 by omega]
    simpa using ih
theorem spans_of_own {w : World} {base : Nat} {v : Value} {l : List (Int × Int)} (h : w.ownsRow base 39 2 v l.length (flatS l)) : Spans w w.heap.size v l :=
  (own_sl h h.1 (by omega)).mono (Nat.le_refl _) fun b o _ ⟨ho, _, hc⟩ k x hx => by
    subst ho
    obtain ⟨h1, h2⟩ := flatS_at l k x hx
    rw [Nat.zero_add]
    exact ⟨hc _ _ h1, hc _ _ h2⟩
set_option maxRecDepth 100000 in
set_option maxHeartbeats 1000000 in
theorem spans_yes (d : Dat) (hd : d.Ok) (hyes : d.all ≠ []) (first many : Nat) (hf : first + many ≤ 10) (v : Value) (B0 : Nat) (w : World) (hB0 : B0 ≤ w.heap.size) (hv : DatAt w B0 v d) :
    Calls Try.prog 37 #[v, .int .i64 first, .int .i64 many] w (SpanListPost (spanList d first many) w) := by
  obtain ⟨i0, hi, hz0, hz1, hz2⟩ := info_parts info_span
  have HYES := Lib.hid hyes
  have HD := Lib.hid hd
  clear hyes
  have HCK := Lib.hid (fun w' (hb : Below w.heap.size w w') => check_ok d hd v B0 w' (Nat.le_trans hB0 hb.size) (hv.keep (Same.of_below (hb.mono hB0)) (Nat.le_refl _)))
  have HAL := Lib.hid (fun w' (hb : Below w.heap.size w w') => allOf_any d hd v B0 w' (Nat.le_trans hB0 hb.size) (hv.keep (Same.of_below (hb.mono hB0)) (Nat.le_refl _)))
  obtain ⟨ve, vn, rfl, -, -⟩ := hv
  go_enter Try.func37, Try.ntmps37
  go_wp2_with fail
  have b0 : Below w.heap.size w (w.alloc (.cells #[.int .i64 d.stones, ve, vn] 28)) := (Below.refl _ w).alloc (Nat.le_refl _) _
  refine (HCK.out _ b0).mono ?_
  rintro e w1 ⟨rfl, hb1⟩
  have b1 := b0.trans (hb1.mono b0.size)
  have k1 := (Blok.new w 28 [.int .i64 d.stones, ve, vn]).below hb1 (by simp)
  have c0 := k1.cell 0
  have c1 := k1.cell 1
  have c2 := k1.cell 2
  simp at c0 c1 c2
  have HB1 := Lib.hid b1
  clear b0 b1 hb1 k1
  go_wp2_with fail
  refine (HAL.out _ HB1.out).mono ?_
  rintro e w2 ⟨v9, rfl, hm, hb2⟩
  obtain ⟨A9, c9, rfl, hle, hA⟩ := hm
  obtain ⟨n, hn⟩ : ∃ n, n = d.all.length := ⟨_, rfl⟩
  have n0 : 0 < n := by rw [hn]; exact List.length_pos_iff.2 HYES.out
  have HM : Hid (MatsAt w2 w1.heap.size (.slice A9 n c9) d.all) := Lib.hid ⟨A9, c9, by rw [hn], hle, hA⟩
  rw [← hn]
  have d21 : ((n : Int) == 0) = false := by simp; omega
  have HB2 := Lib.hid (HB1.out.trans (hb2.mono HB1.out.size))
  have HB12 := Lib.hid hb2
  clear hle hA hn hb2 c0 c1 c2
  have hf1 : (first : Int) ≤ 10 := by omega
  have hm1 : (many : Int) ≤ 10 := by omega
  go_wp2_with fail
  go_loopg [10, 11] many (fun g u p wr => ∃ (k pb : Nat), k + g = many ∧ p = .pointer (some ⟨pb, 0, none⟩) ∧ Blok wr pb 3 [.int .i64 ((first : Int) + (k : Int))] ∧ w2.heap.size ≤ pb ∧ Below w2.heap.size w2 wr ∧ wr.ownsRow w2.heap.size 39 2 u k (flatS (spanList d first k)))
  case atStart => exact ⟨0, w2.heap.size, by omega, rfl, by simpa using Blok.new w2 3 [.int .i64 (first : Int)], Nat.le_refl _, (Below.refl _ w2).alloc (Nat.le_refl _) _, ⟨rfl, .inl ⟨rfl, rfl⟩⟩⟩
  case round =>
    obtain ⟨k, pb, hkg, rfl, hpb, hpz, hb, hown⟩ := hrel
    have p0 := hpb.cell 0
    simp at p0
    cases gk with
    | zero =>
      obtain rfl : k = many := by omega
      have HB := Lib.hid hb
      have HO := Lib.hid hown
      clear hpb hb hown
      go_wp2_with fail
      go_ret2
      have hlen : (spanList d first k).length = k := by simp [spanList]
      refine ⟨u10, rfl, by rw [hlen]; exact HO.out.mono HB2.out.size, HB2.out.trans (HB.out.mono HB2.out.size)⟩
    | succ g =>
      have hlt : ((first : Int) + (k : Int)) < (first : Int) + (many : Int) := by omega
      obtain ⟨q, hq⟩ : ∃ q, q = d.span (first + k) := ⟨_, rfl⟩
      have hj := joined_any 57 #[.pointer (some ⟨pb, 0, none⟩)] (spanIn 0 (first + k)) d.all HYES.out (all_len HD.out) (enters_of Try.func57 (by kernel_rfl) rfl) w1.heap.size (.slice A9 n c9) wr (HM.out.keep hb)
        (fun M hM w' hb' => tells_spans M (all_fine HD.out M hM).1 (all_fine HD.out M hM).2 (first + k) (by omega) pb w' (by
          have := hpb.below hb' hpb.size
          rwa [show ((first : Int) + (k : Int)) = ((first + k : Nat) : Int) by omega] at this))
      rw [show joined (spanIn 0 (first + k)) d.all = q from hq.symm] at hj
      have HJ : Hid (Calls Try.prog 46 #[.slice A9 n c9, .func (.func 57) #[] #[.pointer (some ⟨pb, 0, none⟩)]] wr fun e w' => e = .returned (.agg #[.int .i64 q.1, .int .i64 q.2]) ∧ Below wr.heap.size wr w') := Lib.hid hj
      have HQ := Lib.hid hq
      have HB := Lib.hid hb
      have HO := Lib.hid hown
      have HPB := Lib.hid hpb
      clear hj hq hb hown hpb
      go_wp2_with (first
        | (go_at_call 46; refine HJ.out.mono ?_; rintro e w3 ⟨rfl, hb3⟩; have hown3 := (own_below HO.out hb3 (Nat.le_refl _)).alloc (.cells #[.int .i64 q.1, .int .i64 q.2] 39); have hpb3 := (HPB.out.below hb3 HPB.out.size).alloc (.cells #[.int .i64 q.1, .int .i64 q.2] 39); have hbA := (HB.out.trans (hb3.mono HB.out.size)).alloc (by have := HB.out.size; have := hb3.size; omega) (.cells #[.int .i64 q.1, .int .i64 q.2] 39); have HO3 := Lib.hid hown3; have HP3 := Lib.hid hpb3; have HBA := Lib.hid hbA; have hz3 : w2.heap.size ≤ w3.heap.size := Nat.le_trans HB.out.size hb3.size; clear hb3 hown3 hpb3 hbA p0)
        | (at_builtin; refine wpList_append_own _ rfl (.tmp 30) (.tmp 34) 25 rfl w2.heap.size 39 i0 _ 2 16 Try.underlying25 hi hz0 hz1 hz2 rfl (by decide) _ _ _ rfl HO3.out ⟨w3.heap.size, 0, none⟩ 1 1 [.int .i64 q.1, .int .i64 q.2] rfl rfl (news_row2 _ _ _) (by simp [Value.oneCell']) (by unfold maxLen; omega) (by omega) (by simp; omega) ?_; intro u6 w6 hown6 hgrow6 _; obtain ⟨g6, cap6, rfl⟩ := ownsRow_succ hown6; have hpb6 : Blok w6 pb 3 _ := (hgrow6.block pb HP3.out.size (fun e => own_ne_blok HP3.out HO3.out (by decide) pb e.symm rfl)).trans HP3.out; have p6 := hpb6.cell 0; simp at p6; have HO6 := Lib.hid hown6; have HG6 := Lib.hid hgrow6; clear hown6 hgrow6 hpb6))
      have hbB : Below w2.heap.size w2 w6 := HBA.out.grown HG6.out (by simp; omega) (own_blk HO3.out)
      go_roundg g
      case measure => omega
      case rel =>
        refine ⟨k + 1, w6.heap.size, by omega, rfl, ?_, hbB.size, hbB.alloc hbB.size _, ?_⟩
        · rw [show (first : Int) + ((k + 1 : Nat) : Int) = (first : Int) + (k : Int) + 1 by omega]
          exact Blok.new w6 _ _
        · rw [spanList_succ, flatS_snoc, ← HQ.out]
          exact HO6.out.alloc _
end Go.Proofs.Ytcbdcdpoackplaa
