/- Notes behind an interface; sets of notes have notes. -/
import Derived.Test.YtcbdcdpoackplaaLi
import Derived.OwnWalk
import Derived.Laws.AppendOwn
namespace Go.Proofs.Ytcbdcdpoackplaa
open Go.RowKit Dt

def noteT (x : Nt) : TypeId := if x.kind = 1 then 120 else if x.kind = 2 then 121 else if x.kind = 3 then 122 else 123
def ifV (x : Nt) (vy : Value) : Value := .iface (noteT x) (.agg (ntL x vy).toArray)
set_option maxRecDepth 100000 in
set_option maxHeartbeats 1000000 in
theorem noteOf_any (x : Nt) (vy : Value) (w : World) :
    Calls Try.prog 71 #[.agg (ntL x vy).toArray] w fun e w' => e = .returned (ifV x vy) ∧ w' = w.alloc (.cells (ntL x vy).toArray 51) := by
  by_cases h1 : x.kind = 1
  · have hT : noteT x = 120 := by simp [noteT, h1]
    unfold ifV
    rw [hT]
    unfold ntL
    rw [h1]
    clear h1 hT
    go_enter Try.func71, Try.ntmps71
    go_wp2_with fail
    go_ret
    exact ⟨rfl, rfl⟩
  · by_cases h2 : x.kind = 2
    · have hT : noteT x = 121 := by simp [noteT, h2]
      unfold ifV
      rw [hT]
      unfold ntL
      rw [h2]
      clear h1 h2 hT
      go_enter Try.func71, Try.ntmps71
      go_wp2_with fail
      go_ret
      exact ⟨rfl, rfl⟩
    · by_cases h3 : x.kind = 3
      · have hT : noteT x = 122 := by simp [noteT, h3]
        unfold ifV
        rw [hT]
        unfold ntL
        rw [h3]
        clear h1 h2 h3 hT
        go_enter Try.func71, Try.ntmps71
        go_wp2_with fail
        go_ret
        exact ⟨rfl, rfl⟩
      · have hT : noteT x = 123 := by simp [noteT, h1, h2, h3]
        unfold ifV
        rw [hT]
        unfold ntL
        have e1 : ((x.kind : Int) == 1) = false := by simp; omega
        have e2 : ((x.kind : Int) == 2) = false := by simp; omega
        have e3 : ((x.kind : Int) == 3) = false := by simp; omega
        clear h1 h2 h3 hT
        go_enter Try.func71, Try.ntmps71
        go_wp2_with fail
        go_ret
        exact ⟨rfl, rfl⟩
set_option maxRecDepth 100000 in
theorem has_bits : ∀ s : Nat, s < 256 → ∀ i : Nat, i < 8 → (Go.bits BinOp.and IntKind.u64 ((s : Int) / 2 ^ i) 1 == 1) = s.testBit i := by decide +kernel
set_option maxRecDepth 100000 in
set_option maxHeartbeats 1000000 in
theorem has_any (s : Nat) (i : Nat) (hs : s < 256) (hi : i < 8) (w : World) :
    Calls Try.prog 69 #[.int .u64 s, .int .i64 i] w fun e w' => e = .returned (.bool (s.testBit i)) ∧ w = w' := by
  go_enter Try.func69, Try.ntmps69
  go_wp2_with fail
  go_ret
  exact ⟨ret_bool (has_bits s hs i hi), rfl⟩
theorem news_one (w : World) (g : Nat) (hg : g = w.heap.size) (t : TypeId) (u : Value) : ∀ (j : Nat) (v : Value), [u][j]? = some v → (w.alloc (.cells #[u] t)).cell? ((⟨g, 0, none⟩ : Addr).add j) = some v := by
  subst hg
  intro j v h
  rw [Addr.add_mid, Nat.zero_add]
  exact ((Blok.new w t [u]).cell j).trans h
/-- The notes below the k-th one that are not in the set s. -/
def keptTo (l : List Nt) (s k : Nat) : List Nt := (List.range k).filterMap fun i => if s.testBit i then none else l[i]?
theorem keptTo_yes (l : List Nt) (s k : Nat) (h : s.testBit k = true) : keptTo l s (k + 1) = keptTo l s k := by
  simp [keptTo, List.range_succ, h]
theorem keptTo_no (l : List Nt) (s k : Nat) (h : s.testBit k = false) (x : Nt) (hx : l[k]? = some x) : keptTo l s (k + 1) = keptTo l s k ++ [x] := by
  simp [keptTo, List.range_succ, h, hx]
theorem keptTo_len (l : List Nt) (s k : Nat) : (keptTo l s k).length ≤ k := by
  have := List.length_filterMap_le (fun i => if s.testBit i then none else l[i]?) (List.range k)
  simpa [keptTo] using this
/-- A row of notes behind interfaces. -/
def IfRow (w : World) (B : Nat) (l : List Nt) (xs : List Value) : Prop := xs.length = l.length ∧ ∀ (j : Nat) (x : Nt), l[j]? = some x → ∃ vy, xs[j]? = some (ifV x vy) ∧ Ints w B vy x.years
theorem IfRow.snoc {w : World} {B : Nat} {l : List Nt} {xs : List Value} (h : IfRow w B l xs) (x : Nt) (vy : Value) (hy : Ints w B vy x.years) : IfRow w B (l ++ [x]) (xs ++ [ifV x vy]) := by
  refine ⟨by simp [h.1], fun j y hj => ?_⟩
  by_cases hlt : j < l.length
  · rw [List.getElem?_append_left hlt] at hj
    obtain ⟨v, h1, h2⟩ := h.2 j y hj
    exact ⟨v, by rw [List.getElem?_append_left (by rw [h.1]; exact hlt)]; exact h1, h2⟩
  · have hj2 : j = l.length := by
      have := (List.getElem?_eq_some_iff.1 hj).1
      simp at this
      omega
    subst hj2
    rw [List.getElem?_append_right (Nat.le_refl _), Nat.sub_self] at hj
    simp at hj
    subst hj
    exact ⟨vy, by rw [List.getElem?_append_right (by rw [h.1]; exact Nat.le_refl _), h.1, Nat.sub_self]; rfl, hy⟩
/-- Notes behind interfaces as a slice; B: below it lie they and all that they name. -/
def IfNotes (w : World) (B : Nat) (v : Value) (l : List Nt) : Prop :=
  ∃ A c, v = .slice A l.length c ∧ l.length ≤ c ∧ (0 < l.length → ∃ b o, A = some ⟨b, o, none⟩ ∧ b < B ∧ ∀ (k : Nat) (x : Nt), l[k]? = some x → ∃ vy, w.cell? ⟨b, o + k, none⟩ = some (ifV x vy) ∧ Ints w B vy x.years)
theorem IfNotes.keep {w w' : World} {B B' : Nat} {v : Value} {l : List Nt} (h : IfNotes w B v l) (hs : Same B w w') (hB : B ≤ B') : IfNotes w' B' v l := by
  obtain ⟨A, c, h1, h2, h3⟩ := h
  refine ⟨A, c, h1, h2, fun h0 => ?_⟩
  obtain ⟨b, o, h4, h5, h6⟩ := h3 h0
  refine ⟨b, o, h4, by omega, fun k x hx => ?_⟩
  obtain ⟨vy, h7, h8⟩ := h6 k x hx
  exact ⟨vy, (hs _ _ h5).trans h7, h8.keep hs hB⟩
theorem info_note : (Try.prog.info? 109).map (fun i => (i.zero, i.size, i.bytes)) = some (some .nilIface, 1, 16) := by kernel_rfl
theorem own_blk {w : World} {base : Nat} {e : TypeId} {size n : Nat} {v : Value} {xs : List Value} (h : w.ownsRow base e size v n xs) (k : Nat) (hk : v.ownBlock = some k) : base ≤ k := by
  rcases h.2 with ⟨rfl, -⟩ | ⟨g, cap, cur, rfl, hg, -⟩
  · simp [Value.ownBlock] at hk
  · simp [Value.ownBlock] at hk
    omega
theorem own_cap {w : World} {base : Nat} {e : TypeId} {size n : Nat} {v : Value} {xs : List Value} (h : w.ownsRow base e size v n xs) : ∃ A c, v = .slice A n c ∧ n ≤ c := by
  rcases h.2 with ⟨rfl, h0⟩ | ⟨g, cap, cur, rfl, hg, hh, hc, r⟩
  · exact ⟨none, 0, by rw [h0], by omega⟩
  · exact ⟨_, _, rfl, hc⟩
/-- A slice that owns its row, read as its cells. -/
theorem own_sl {w : World} {base : Nat} {e : TypeId} {size n : Nat} {v : Value} {xs : List Value} (h : w.ownsRow base e size v n xs) (hl : xs.length = n * size) (_ : 0 < size) :
    Sl w.heap.size v n fun b o => o = 0 ∧ base ≤ b ∧ ∀ j u, xs[j]? = some u → w.cell? ⟨b, j, none⟩ = some u := by
  rcases h.2 with ⟨rfl, h0⟩ | ⟨g, cap, cur, rfl, hg, hh, r⟩
  · have : n = 0 := h0
    subst this
    exact ⟨none, 0, rfl, fun h => absurd h (by omega)⟩
  · refine ⟨_, _, rfl, fun _ => ⟨g, 0, rfl, (Array.getElem?_eq_some_iff.1 hh).1, rfl, hg, fun j u hj => ?_⟩⟩
    rw [cell_of_row w g j _ _ _ hh, ← Array.getElem?_toList]
    rw [← r.2.2.2, List.getElem?_take] at hj
    split at hj
    · exact hj
    · cases hj
def NotesPost (d : Dat) (s : Nat) (w : World) (e : Ending) (w' : World) : Prop := ∃ v, e = .returned v ∧ IfNotes w' w'.heap.size v (keptTo d.notes s d.notes.length) ∧ Below w.heap.size w w'
/-- The same, told to the end: the row is new, the years lie where the dating's do. -/
def NotesLow (d : Dat) (s B0 : Nat) (w : World) (e : Ending) (w' : World) : Prop := ∃ v A c, e = .returned v ∧ v = .slice A (keptTo d.notes s d.notes.length).length c ∧ (keptTo d.notes s d.notes.length).length ≤ c ∧
  (0 < (keptTo d.notes s d.notes.length).length → ∃ b, A = some ⟨b, 0, none⟩ ∧ w.heap.size ≤ b ∧ b < w'.heap.size ∧ ∀ (k : Nat) (x : Nt), (keptTo d.notes s d.notes.length)[k]? = some x → ∃ vy, w'.cell? ⟨b, 0 + k, none⟩ = some (ifV x vy) ∧ Ints w' B0 vy x.years) ∧ Below w.heap.size w w'
set_option maxRecDepth 100000 in
set_option maxHeartbeats 1000000 in
theorem notesOf_low (d : Dat) (hd : d.Ok) (s : Nat) (hs : s < 256) (v : Value) (B0 : Nat) (w : World) (hB0 : B0 ≤ w.heap.size) (hv : DatAt w B0 v d) :
    Calls Try.prog 63 #[v, .int .u64 s] w (NotesLow d s B0 w) := by
  obtain ⟨ve, vn, rfl, -, hvn⟩ := hv
  obtain ⟨A, c, rfl, hA⟩ := hvn
  obtain ⟨n, hn⟩ : ∃ n, n = d.notes.length := ⟨_, rfl⟩
  have n8 : n ≤ 8 := by rw [hn]; exact hd.notes.1
  rw [← hn] at hA ⊢
  have HN := Lib.hid hn
  have HD := Lib.hid hd
  obtain ⟨i0, hi, hz0, hz1, hz2⟩ := info_parts info_note
  clear hn hd
  go_enter Try.func63, Try.ntmps63
  go_wp2_with fail
  go_loopw [5, 11] (fun u i wr => ∃ (k : Nat) (xs : List Value), k ≤ n ∧ i = .int .i64 k ∧ Below (w.heap.size + 1) (w.alloc (.cells #[.int .i64 d.stones, ve, .slice A n c] 28)) wr ∧ wr.ownsRow (w.heap.size + 1) 109 1 u (keptTo d.notes s k).length xs ∧ IfRow w B0 (keptTo d.notes s k) xs) (fun _ i _ => n - (intOf i).toNat)
  case atStart => exact ⟨0, [], by omega, rfl, Below.refl _ _, ⟨rfl, .inl ⟨rfl, rfl⟩⟩, rfl, fun j x h => by simp [keptTo] at h⟩
  case round =>
    obtain ⟨k, xs, hk, rfl, hb, hown, hrow⟩ := hrel
    by_cases hlt : k < n
    · obtain ⟨b, o, rfl, hbB, hR⟩ := hA (by omega)
      obtain ⟨x, hx⟩ : ∃ x, d.notes[k]? = some x := ⟨_, List.getElem?_eq_getElem (by rw [← HN.out]; exact hlt)⟩
      obtain ⟨q0, q1, q2, ⟨vy, q3, hy⟩, q4, q5⟩ := hR k x hx
      have low : ∀ (o : Nat) (u : Value), w.cell? ⟨b, o, none⟩ = some u → wr.cell? ⟨b, o, none⟩ = some u := fun o u h => by
        refine bcell hb (by omega) ?_
        exact bcell ((Below.refl w.heap.size w).alloc (Nat.le_refl _) _) (by omega) h
      have c0 := low _ _ q0
      have c1 := low _ _ q1
      have c2 := low _ _ q2
      have c3 := low _ _ q3
      have c4 := low _ _ q4
      have c5 := low _ _ q5
      have HX := Lib.hid hx
      have HY := Lib.hid hy
      obtain ⟨Ay, cy, rfl, -⟩ := hy
      have HR := Lib.hid hrow
      have HO := Lib.hid hown
      have HBL := Lib.hid hb
      have hzz : w.heap.size + 1 ≤ wr.heap.size := by have := hb.size; simpa using this
      have HZZ := Lib.hid hzz
      have HH := Lib.hid (fun w => has_any s k hs (by omega) w)
      have HNO : Hid (∀ w, Calls Try.prog 71 #[.agg #[.int .i64 x.kind, .int .i64 x.stone, .int .i64 x.other, .slice Ay x.years.length cy, .int .i64 x.lo, .int .i64 x.hi]] w fun e w' => e = .returned (.iface (noteT x) (.agg (ntL x (.slice Ay x.years.length cy)).toArray)) ∧ w' = w.alloc (.cells (ntL x (.slice Ay x.years.length cy)).toArray 51)) := Lib.hid fun w => noteOf_any x _ w
      clear low q0 q1 q2 q3 q4 q5 hx hrow hown hb hzz hR
      cases hsb : s.testBit k
      · rw [hsb] at HH
        have HSB := Lib.hid hsb
        clear hsb
        have hown1 := ((HO.out.alloc (.cells (ntL x (.slice Ay x.years.length cy)).toArray 51)).alloc (.cells (ntL x (.slice Ay x.years.length cy)).toArray 51)).alloc (.cells #[.iface (noteT x) (.agg (ntL x (.slice Ay x.years.length cy)).toArray)] 109)
        have hl8 := keptTo_len d.notes s k
        have hb1 := ((HBL.out.alloc HZZ.out (.cells (ntL x (.slice Ay x.years.length cy)).toArray 51)).alloc (by simp; have := HZZ.out; omega) (.cells (ntL x (.slice Ay x.years.length cy)).toArray 51)).alloc (by simp; have := HZZ.out; omega) (.cells #[ifV x (.slice Ay x.years.length cy)] 109)
        have HO1 := Lib.hid hown1
        have HB1 := Lib.hid hb1
        have HL8 := Lib.hid hl8
        clear hown1 hb1 hl8
        go_wp2_with (first
          | (go_at_call 69; (with_reducible refine (HH.out _).mono ?_); rintro e w1 ⟨rfl, rfl⟩)
          | (go_at_call 71; (with_reducible refine (HNO.out _).mono ?_); rintro e w1 ⟨rfl, rfl⟩)
          | (at_builtin; refine wpList_append_own _ rfl (.tmp 20) (.tmp 23) 99 rfl (w.heap.size + 1) 109 i0 _ 1 16 Try.underlying99 hi hz0 hz1 hz2 rfl (by decide) u5 _ xs rfl HO1.out ⟨wr.heap.size + 1 + 1, 0, none⟩ 1 1 [.iface (noteT x) (.agg (ntL x (.slice Ay x.years.length cy)).toArray)] rfl rfl (news_one _ _ (by simp) _ _) (by simp [Value.oneCell']) (by have := HL8.out; unfold maxLen; omega) (by have := HL8.out; omega) (by simp; have := HZZ.out; omega) ?_; intro u6 w6 hown6 hgrow6 _; have HO6 := Lib.hid hown6; have HG6 := Lib.hid hgrow6; clear hown6 hgrow6))
        go_roundw
        case rel =>
          refine ⟨k + 1, xs ++ [.iface (noteT x) (.agg (ntL x (.slice Ay x.years.length cy)).toArray)], by omega, by go_num, HB1.out.grown HG6.out (by simp; have := HZZ.out; omega) (own_blk HO.out), ?_, ?_⟩
          · rw [keptTo_no _ _ _ HSB.out x HX.out, List.length_append]
            exact HO6.out
          · rw [keptTo_no _ _ _ HSB.out x HX.out]
            exact HR.out.snoc x _ HY.out
        case measure => simp [intOf]; omega
      · rw [hsb] at HH
        have HSB := Lib.hid hsb
        clear hsb
        go_wp2_with (go_at_call 69; (with_reducible refine (HH.out _).mono ?_); rintro e w1 ⟨rfl, rfl⟩)
        go_roundw
        case rel => exact ⟨k + 1, xs, by omega, by go_num, HBL.out.alloc HZZ.out _, by rw [keptTo_yes _ _ _ HSB.out]; exact HO.out.alloc _, by rw [keptTo_yes _ _ _ HSB.out]; exact HR.out⟩
        case measure => simp [intOf]; omega
    · obtain rfl : k = n := by omega
      have hb2 := ((Below.refl w.heap.size w).alloc (Nat.le_refl _) (.cells #[.int .i64 d.stones, ve, .slice A k c] 28)).trans (hb.mono (Nat.le_succ _))
      have HB2 := Lib.hid hb2
      have HO := Lib.hid hown
      have HR := Lib.hid hrow
      clear hb hb2 hown hrow
      go_wp2_with fail
      go_ret
      obtain ⟨A1, c1, e1, e2⟩ := own_cap HO.out
      obtain ⟨A2, c2, e3, e4⟩ := own_sl HO.out (by rw [HR.out.1, Nat.mul_one]) (by omega)
      rw [e1] at e3
      injection e3 with e5 e6 e7
      subst e5 e7
      rw [NotesLow, ← HN.out]
      refine ⟨u5, A1, c1, rfl, e1, e2, fun h0 => ?_, HB2.out⟩
      obtain ⟨b, o, h3, h4, rfl, h5, hc⟩ := e4 h0
      refine ⟨b, h3, by omega, h4, fun j x hj => ?_⟩
      obtain ⟨vy, h1, h2⟩ := HR.out.2 j x hj
      exact ⟨vy, by rw [Nat.zero_add]; exact hc j _ h1, h2.keep (Same.of_below (HB2.out.mono hB0)) (Nat.le_refl _)⟩
theorem notesOf_any (d : Dat) (hd : d.Ok) (s : Nat) (hs : s < 256) (v : Value) (B0 : Nat) (w : World) (hB0 : B0 ≤ w.heap.size) (hv : DatAt w B0 v d) :
    Calls Try.prog 63 #[v, .int .u64 s] w (NotesPost d s w) := by
  refine (notesOf_low d hd s hs v B0 w hB0 hv).mono ?_
  rintro e w' ⟨v', A, c, rfl, h1, h2, h3, hb⟩
  refine ⟨v', rfl, ⟨A, c, h1, h2, fun h0 => ?_⟩, hb⟩
  obtain ⟨b, h4, -, h5, h6⟩ := h3 h0
  refine ⟨b, 0, h4, h5, fun k x hx => ?_⟩
  obtain ⟨vy, h7, h8⟩ := h6 k x hx
  exact ⟨vy, h7, h8.keep (Same.refl _ _) (Nat.le_trans hB0 hb.size)⟩
end Go.Proofs.Ytcbdcdpoackplaa
