/- The reference's letters. · The reference's letters are those that fit. -/
import Derived.Test.YthhajbgddifenaaRf
import Derived.Test.YthhajbgddifenaaCp
import Derived.Test.YthhajbgddifenaaLk
namespace Go.Proofs.Ythhajbgddifenaa
section
open Go.RowKit Go.Shelf

def ndCells (ns : List (Nat × Nat)) : List Value := ns.flatMap fun x => [.int .i64 (x.1 : Nat), .int .u8 (x.2 : Nat)]
theorem ndCells_len (ns : List (Nat × Nat)) (n : Nat) (h : n = ns.length) : (ndCells ns).length = n * 2 := by
  subst h
  induction ns with
  | nil => rfl
  | cons x l ih => simp only [ndCells, List.flatMap_cons, List.length_append, List.length_cons, List.length_nil] at ih ⊢; omega
theorem ndCells_one (ns : List (Nat × Nat)) : ∀ u ∈ ndCells ns, u.oneCell' = true := by
  intro u hu
  simp only [ndCells, List.mem_flatMap, List.mem_cons, List.not_mem_nil, or_false] at hu
  obtain ⟨x, _, h | h⟩ := hu <;> subst h <;> rfl
theorem ndCells_snoc (ns : List (Nat × Nat)) (x : Nat × Nat) : ndCells (ns ++ [x]) = ndCells ns ++ [.int .i64 (x.1 : Nat), .int .u8 (x.2 : Nat)] := by simp [ndCells]
theorem ndCells_get : ∀ (S : List (Nat × Nat)) (k : Nat) (x : Nat × Nat), S[k]? = some x → (ndCells S)[k * 2]? = some (.int .i64 (x.1 : Nat)) ∧ (ndCells S)[k * 2 + 1]? = some (.int .u8 (x.2 : Nat)) := by
  intro S
  induction S with
  | nil => intro k x h; simp at h
  | cons y S ih =>
    intro k x h
    cases k with
    | zero => simp at h; subst h; exact ⟨rfl, rfl⟩
    | succ k =>
      have h' : S[k]? = some x := by simpa using h
      obtain ⟨h1, h2⟩ := ih k x h'
      have e : ndCells (y :: S) = .int .i64 (y.1 : Nat) :: .int .u8 (y.2 : Nat) :: ndCells S := rfl
      rw [e, show (k + 1) * 2 = k * 2 + 1 + 1 by omega]
      simp only [List.getElem?_cons_succ]
      exact ⟨h1, h2⟩
theorem RNeeds.src {w w' : World} {B : Nat} {v : Value} {S : List (Nat × Nat)} (h : RNeeds w B v S) (hk : ∀ x : Addr, x.block < B → w'.cell? x = w.cell? x) : Src w' v S.length (ndCells S) := by
  rcases h with ⟨rfl, h0⟩ | ⟨x, c, rfl, h⟩
  · exact .inl ⟨rfl, h0, by rw [List.length_eq_zero_iff.1 h0]; rfl⟩
  · refine .inr ⟨x, c, rfl, pairs_cell (n := S.length) (ndCells_len S _ rfl) fun k hk2 => ?_⟩
    obtain ⟨hb, hR⟩ := h (by omega)
    obtain ⟨g1, g2⟩ := ndCells_get S k S[k] (List.getElem?_eq_getElem hk2)
    obtain ⟨c1, c2⟩ := hR k S[k] (List.getElem?_eq_getElem hk2)
    rw [g1, g2]
    exact ⟨(hk _ (by rw [Addr.add_block]; exact hb)).trans c1, (hk _ (by rw [Addr.add_block]; exact hb)).trans c2⟩
theorem RNeeds.of_own {w : World} {base : Nat} {v : Value} {S : List (Nat × Nat)} {n : Nat} {cs : List Value} (h : w.ownsRow base 131 2 v n cs) (hn : n = S.length) (hc : cs = ndCells S) : RNeeds w w.heap.size v S := by
  subst hn hc
  rcases own_cells h with ⟨rfl, h0⟩ | ⟨g, c, rfl, hg, _, hcell⟩
  · exact .inl ⟨rfl, h0⟩
  · refine .inr ⟨_, _, rfl, fun _ => ⟨hg, fun k y hy => ?_⟩⟩
    have hk : k < S.length := (List.getElem?_eq_some_iff.1 hy).1
    obtain ⟨g1, g2⟩ := ndCells_get S k y hy
    rw [addr0, addr0]
    exact ⟨hcell _ _ (by omega) g1, hcell _ _ (by omega) g2⟩
theorem info_need : (Try.prog.info? 131).map (fun i => (i.zero, i.size, i.bytes)) = some (some (.agg #[.int .i64 0, .int .u8 0]), 2, 16) := by kernel_rfl
/-- The letters up to number j that fit a square if some are known. -/
def rtext (L : Line) (ns : List (Nat × Nat)) (q : Nat) : Nat → ByteArray
  | 0 => ⟨#[]⟩
  | j + 1 => if rfits L (ns ++ [(q, 65 + j)]) = true then rtext L ns q j ++ strOfNums [(65 + (j : Int))] else rtext L ns q j
theorem rtext_size (L : Line) (ns : List (Nat × Nat)) (q j : Nat) : (rtext L ns q j).size ≤ j := by
  induction j with
  | zero => simp [rtext, ByteArray.size]
  | succ j ih =>
    rw [rtext]
    split
    · rw [ByteArray.size_append, strOfNums_size]
      simp
      omega
    · omega
theorem rtext_list (L : Line) (ns : List (Nat × Nat)) (q j : Nat) : (rtext L ns q j).data.toList = ((List.range j).filter fun j => rfits L (ns ++ [(q, 65 + j)])).map fun j => UInt8.ofNat (65 + j) := by
  induction j with
  | zero => rfl
  | succ j ih =>
    rw [rtext, List.range_succ, List.filter_append, List.map_append]
    by_cases h : rfits L (ns ++ [(q, 65 + j)]) = true
    · have e : [j].filter (fun j => rfits L (ns ++ [(q, 65 + j)])) = [j] := by simp [h]
      rw [if_pos h, ByteArray.data_append, Array.toList_append, ih, strOfNums_data, e]
      show _ ++ [UInt8.ofNat (65 + (j : Int)).toNat] = _ ++ [UInt8.ofNat (65 + j)]
      rw [show (65 + (j : Int)).toNat = 65 + j by omega]
    · rw [if_neg h, ih]
      simp [h]
theorem val_u8 {a b : Int} (h : a = b) : Value.int .u8 a = .int .u8 b := by rw [h]
theorem apart_snoc {ns : List (Nat × Nat)} (ha : Apart ns) {q c : Nat} (h : ∀ x ∈ ns, x.1 ≠ q) : Apart (ns ++ [(q, c)]) := by
  unfold Apart at ha ⊢
  rw [List.pairwise_append]
  refine ⟨ha, List.pairwise_singleton _ _, fun a ha b hb => ?_⟩
  rw [List.mem_singleton] at hb
  subst hb
  exact h a ha

set_option maxRecDepth 100000 in
set_option maxHeartbeats 4000000 in
theorem letters_refc (v : Value) (L : Line) (w : World) (hL : L.ok) (hv : RLineAt w w.heap.size v L.raw) (ns : List (Nat × Nat)) (nv : Value) (hn : RNeeds w w.heap.size nv ns) (ha : Apart ns) (hn1 : ns.length ≤ 1) (hsq : ∀ x ∈ ns, x.1 < L.squares.length)
    (q : Nat) (hq : q < L.squares.length) (hqn : ∀ x ∈ ns, x.1 ≠ q) :
    Calls Try.prog 59 #[v, .int .i64 q, nv] w fun e w' => e = .returned (.string (rtext L ns q 26)) ∧ Below w.heap.size w w' := by
  have HV := Lib.hid hv
  have HL := Lib.hid hL
  obtain ⟨vh, vs, rfl, hh, hsq0⟩ := hv
  obtain ⟨AH, ch, rfl, -⟩ := RSl.form hh
  obtain ⟨AQ, cq, rfl, -⟩ := RSl.form hsq0
  obtain ⟨An, cn, rfl, -⟩ := RSl.form hn
  have HOKN := Lib.hid (fun (c : Nat) => show NeedsOk L (ns ++ [(q, c)]) from ⟨apart_snoc ha hqn, by simp; omega, fun x hx => by
    rcases List.mem_append.1 hx with h | h
    · exact hsq x h
    · rw [List.mem_singleton] at h; subst h; exact hq⟩)
  have HFIT0 := Lib.hid (fun (W : World) (hW : Below w.heap.size w W) (c g cc base : Nat) (hown : W.ownsRow base 131 2 (.slice (some ⟨g, 0, none⟩) (ns.length + 1) cc) (ns.length + 1) (ndCells ns ++ [.int .i64 q, .int .u8 (c : Nat)])) =>
    fits_refc _ L W HL.out (HV.out.keep (SameA.of_below hW) hW.size) (ns ++ [(q, c)]) _ (RNeeds.of_own hown (by simp) (ndCells_snoc ns (q, c)).symm) (HOKN.out c))
  have HSRC0 := Lib.hid (fun (W : World) (hW : Below w.heap.size w W) => hn.src fun x hx => hW.cell (p := x) hx)
  obtain ⟨i0, hi0, hi1, hi2, hi3⟩ := info_parts info_need
  have HI0 := Lib.hid hi0
  have HI1 := Lib.hid hi1
  have HI2 := Lib.hid hi2
  have HI3 := Lib.hid hi3
  obtain ⟨wn, hwn⟩ : ∃ wn, wn = L.raw.worn := ⟨_, rfl⟩
  obtain ⟨sc, hsc⟩ : ∃ sc, sc = L.raw.scr := ⟨_, rfl⟩
  obtain ⟨T, hTe⟩ : ∃ T, T = L.raw.total := ⟨_, rfl⟩
  obtain ⟨n, hn0⟩ : ∃ n, n = L.raw.hands.length := ⟨_, rfl⟩
  obtain ⟨m, hm⟩ : ∃ m, m = L.raw.squares.length := ⟨_, rfl⟩
  obtain ⟨nl, hnl⟩ : ∃ nl, nl = ns.length := ⟨_, rfl⟩
  rw [← hwn, ← hsc, ← hTe, ← hn0, ← hm, ← hnl] at HFIT0
  rw [← hnl] at HSRC0 hn1
  rw [← hwn, ← hsc, ← hTe, ← hn0, ← hm, ← hnl]
  have HNL := Lib.hid hnl
  clear hL HV hh hsq0 hn ha hsq hq hqn hi0 hi1 hi2 hi3 hwn hsc hTe hn0 hm hnl HOKN
  go_enter Try.func59, Try.ntmps59
  go_wp2_with fail
  obtain ⟨W0, hW0⟩ : ∃ W0, W0 = w.alloc (.cells #[.slice AH n ch, .int .i64 wn, .int .i64 sc, .int .i64 T, .slice AQ m cq] 25) := ⟨_, rfl⟩
  have HB0 := Lib.hid (show BoxL w W0 [.slice AH n ch, .int .i64 wn, .int .i64 sc, .int .i64 T, .slice AQ m cq] by rw [hW0]; exact BoxL.start _ _)
  rw [← hW0]
  clear hW0
  go_loopw [7, 8] (fun ss sc8 wr => ∃ j : Nat, j ≤ 26 ∧ sc8 = .int .u8 (65 + (j : Int)) ∧ ss = .string (rtext L ns q j) ∧ Hid (BoxL w wr [.slice AH n ch, .int .i64 wn, .int .i64 sc, .int .i64 T, .slice AQ m cq])) (fun _ sc8 _ => 91 - (intOf sc8).toNat)
  case atStart => exact ⟨0, by omega, rfl, rfl, HB0⟩
  case round =>
    clear HB0
    obtain ⟨j, hj, rfl, rfl, HI⟩ := hrel
    have z1 := HI.out.one.size
    have z0 := HI.out.bel.size
    have hts := rtext_size L ns q j
    obtain ⟨s, hs⟩ : ∃ s, s = rtext L ns q j := ⟨_, rfl⟩
    rw [← hs] at hts ⊢
    have HSE := Lib.hid hs
    clear hs
    by_cases hj26 : j < 26
    · have a0 : wr.cell? ⟨w.heap.size, 0, none⟩ = some (.slice AH n ch) := HI.out.one.cell 0
      have a1 : wr.cell? ⟨w.heap.size, 1, none⟩ = some (.int .i64 wn) := HI.out.one.cell 1
      have a2 : wr.cell? ⟨w.heap.size, 2, none⟩ = some (.int .i64 sc) := HI.out.one.cell 2
      have a3 : wr.cell? ⟨w.heap.size, 3, none⟩ = some (.int .i64 T) := HI.out.one.cell 3
      have a4 : wr.cell? ⟨w.heap.size, 4, none⟩ = some (.slice AQ m cq) := HI.out.one.cell 4
      obtain ⟨fb, hfb⟩ : ∃ fb, fb = rfits L (ns ++ [(q, 65 + j)]) := ⟨_, rfl⟩
      have HFIT := Lib.hid (fun (W : World) (hW : Below wr.heap.size wr W) (g cc base : Nat) (hown : W.ownsRow base 131 2 (.slice (some ⟨g, 0, none⟩) (nl + 1) cc) (nl + 1) (ndCells ns ++ [.int .i64 q, .int .u8 (65 + (j : Int))])) (_ : g < W.heap.size) =>
        show Calls Try.prog 80 #[.agg #[.slice AH n ch, .int .i64 wn, .int .i64 sc, .int .i64 T, .slice AQ m cq], .slice (some ⟨g, 0, none⟩) (nl + 1) cc] W (fun e w' => e = .returned (.bool fb) ∧ Below W.heap.size W w') by
          rw [hfb]
          rw [show (65 + (j : Int)) = ((65 + j : Nat) : Int) by omega] at hown
          exact HFIT0.out W (HI.out.bel.trans (hW.mono z0)) (65 + j) g cc base hown)
      have HSRC := Lib.hid (fun (W : World) (hW : Below w.heap.size wr W) => HSRC0.out W (HI.out.bel.trans hW))
      obtain ⟨tb, htb⟩ : ∃ tb, tb = strOfNums [(65 + (j : Int))] := ⟨_, rfl⟩
      have htb1 : tb.size ≤ 1 := by rw [htb, strOfNums_size]; simp
      have HTB := Lib.hid htb
      have HTBE := Lib.hid (show strOfNums [(65 + (j : Int))] = tb from htb.symm)
      have HFB := Lib.hid (show rfits L (ns ++ [(q, 65 + j)]) = fb from hfb.symm)
      clear hfb htb
      go_wp2_with fail
      have hS : (fun W' => W'.cell? ⟨w.heap.size, 0, none⟩ = some (.slice AH n ch) ∧ W'.cell? ⟨w.heap.size, 1, none⟩ = some (.int .i64 wn) ∧ W'.cell? ⟨w.heap.size, 2, none⟩ = some (.int .i64 sc) ∧ W'.cell? ⟨w.heap.size, 3, none⟩ = some (.int .i64 T) ∧ W'.cell? ⟨w.heap.size, 4, none⟩ = some (.slice AQ m cq)) wr.drew := ⟨a0, a1, a2, a3, a4⟩
      refine wp_region_t (fun W' => W'.cell? ⟨w.heap.size, 0, none⟩ = some (.slice AH n ch) ∧ W'.cell? ⟨w.heap.size, 1, none⟩ = some (.int .i64 wn) ∧ W'.cell? ⟨w.heap.size, 2, none⟩ = some (.int .i64 sc) ∧ W'.cell? ⟨w.heap.size, 3, none⟩ = some (.int .i64 T) ∧ W'.cell? ⟨w.heap.size, 4, none⟩ = some (.slice AQ m cq)) (fun _ => false) (by kernel_rfl) ?_
      refine wpAnyT_take (i := 0) (v := ?_) (by simp only [List.getElem?_toArray, List.getElem?_cons_zero]; rfl) (by kernel_rfl) (by kernel_rfl) (by kernel_rfl) (by kernel_rfl) (by exact fun _ _ _ h => h) (Or.inl ⟨by rfl, ?hyt0⟩) hS ?restt0
      case hyt0 => (intro W' hSW; obtain ⟨x1, x2, x3, x4, x5⟩ := hSW; go_simp; try with_reducible rfl)
      try simp only [Act.put, List.setIfInBounds_toArray, List.set_cons_zero, List.set_cons_succ]
      refine wpAnyT_take (i := 2) (v := ?_) (by simp only [List.getElem?_toArray, List.getElem?_cons_zero, List.getElem?_cons_succ]; rfl) (by kernel_rfl) (by kernel_rfl) (by kernel_rfl) (by kernel_rfl) (by exact fun _ _ _ h => h) (Or.inl ⟨by rfl, ?hyt2⟩) hS ?restt2
      case hyt2 => (intro W' hSW; obtain ⟨x1, x2, x3, x4, x5⟩ := hSW; go_simp; try with_reducible rfl)
      try simp only [Act.put, List.setIfInBounds_toArray, List.set_cons_zero, List.set_cons_succ]
      refine wpAnyT_take (i := 4) (v := ?_) (by simp only [List.getElem?_toArray, List.getElem?_cons_zero, List.getElem?_cons_succ]; rfl) (by kernel_rfl) (by kernel_rfl) (by kernel_rfl) (by kernel_rfl) (by exact fun _ _ _ h => h) (Or.inl ⟨by rfl, ?hyt4⟩) hS ?restt4
      case hyt4 => (intro W' hSW; obtain ⟨x1, x2, x3, x4, x5⟩ := hSW; go_simp; try with_reducible rfl)
      try simp only [Act.put, List.setIfInBounds_toArray, List.set_cons_zero, List.set_cons_succ]
      refine wpAnyT_take (i := 5) (v := ?_) (by simp only [List.getElem?_toArray, List.getElem?_cons_zero, List.getElem?_cons_succ]; rfl) (by kernel_rfl) (by kernel_rfl) (by kernel_rfl) (by kernel_rfl) (by exact fun _ _ _ h => h) (Or.inl ⟨by rfl, ?hyt5⟩) hS ?restt5
      case hyt5 => (intro W' hSW; obtain ⟨x1, x2, x3, x4, x5⟩ := hSW; go_simp; try with_reducible rfl)
      try simp only [Act.put, List.setIfInBounds_toArray, List.set_cons_zero, List.set_cons_succ]
      refine wpAnyT_take (i := 6) (v := ?_) (by simp only [List.getElem?_toArray, List.getElem?_cons_zero, List.getElem?_cons_succ]; rfl) (by kernel_rfl) (by kernel_rfl) (by kernel_rfl) (by kernel_rfl) (by exact fun _ _ _ h => h) (Or.inl ⟨by rfl, ?hyt6⟩) hS ?restt6
      case hyt6 => (intro W' hSW; obtain ⟨x1, x2, x3, x4, x5⟩ := hSW; go_simp; try with_reducible rfl)
      try simp only [Act.put, List.setIfInBounds_toArray, List.set_cons_zero, List.set_cons_succ]
      refine wpAnyT_ready (rs := [1, 7]) (by kernel_rfl) (by simp) ?_
      refine AllReadyT.cons (by simp only [List.getElem?_toArray, List.getElem?_cons_zero, List.getElem?_cons_succ]; rfl) (fun K hK => ?_) (AllReadyT.cons (by simp only [List.getElem?_toArray, List.getElem?_cons_zero, List.getElem?_cons_succ]; rfl) (fun K hK => ?_) AllReadyT.nil)
      · go_simp
        refine hK.out _ _ (fun _ => ⟨bcell (((Below.refl wr.heap.size wr).drew).alloc (Nat.le_refl _) (.cells #[] 131)) z1 a0, bcell (((Below.refl wr.heap.size wr).drew).alloc (Nat.le_refl _) (.cells #[] 131)) z1 a1, bcell (((Below.refl wr.heap.size wr).drew).alloc (Nat.le_refl _) (.cells #[] 131)) z1 a2, bcell (((Below.refl wr.heap.size wr).drew).alloc (Nat.le_refl _) (.cells #[] 131)) z1 a3, bcell (((Below.refl wr.heap.size wr).drew).alloc (Nat.le_refl _) (.cells #[] 131)) z1 a4⟩) ?_
        clear hK K
        try simp only [Act.put, List.setIfInBounds_toArray, List.set_cons_zero, List.set_cons_succ]
        refine wpAnyT_ready (rs := [3, 7]) (by kernel_rfl) (by simp) ?_
        refine AllReadyT.cons (by simp only [List.getElem?_toArray, List.getElem?_cons_zero, List.getElem?_cons_succ]; rfl) (fun K hK => ?_) (AllReadyT.cons (by simp only [List.getElem?_toArray, List.getElem?_cons_zero, List.getElem?_cons_succ]; rfl) (fun K hK => ?_) AllReadyT.nil)
        · refine step_append_src rfl _ _ 128 (by rfl) _ 131 i0 _ 2 16 Try.underlying128 HI0.out HI1.out HI2.out HI3.out rfl (by decide) _ 0 [] (by rfl) (own_lit1 _ _ _) _ nl (ndCells ns) (by rfl) (HSRC.out _ ((((Below.refl wr.heap.size wr).drew).alloc (Nat.le_refl _) (.cells #[] 131)).mono z0)) (ndCells_len _ _ HNL.out) (ndCells_one _) (by unfold maxLen; omega) (by omega) (by first | omega | (simp; done) | (simp; omega)) _ rfl ?_
          intro A5 c5 w5 hown5 hgrow5 hat5
          rw [Nat.zero_add] at hown5 hat5 ⊢
          have hz5 := hgrow5.size
          simp at hz5
          have hb5 : Below wr.heap.size wr w5 := (((Below.refl wr.heap.size wr).drew).alloc (Nat.le_refl _) (.cells #[] 131)).grown hgrow5 (by first | omega | (simp; done) | (simp; omega)) (fun k e => by simp [Value.ownBlock] at e; omega)
          refine hK.out _ _ (fun _ => ⟨bcell hb5 z1 a0, bcell hb5 z1 a1, bcell hb5 z1 a2, bcell hb5 z1 a3, bcell hb5 z1 a4⟩) ?_
          clear hK K
          try simp only [Act.put, List.setIfInBounds_toArray, List.set_cons_zero, List.set_cons_succ]
          refine wpAnyT_ready (rs := [7]) (by kernel_rfl) (by simp) ?_
          refine AllReadyT.cons (by simp only [List.getElem?_toArray, List.getElem?_cons_zero, List.getElem?_cons_succ]; rfl) (fun K hK => ?_) AllReadyT.nil
          go_simp
          refine hK.out _ _ (fun _ => ⟨bcell (hb5.alloc hb5.size (.cells #[.int .i64 q, .int .u8 (65 + (j : Int))] 131)) z1 a0, bcell (hb5.alloc hb5.size (.cells #[.int .i64 q, .int .u8 (65 + (j : Int))] 131)) z1 a1, bcell (hb5.alloc hb5.size (.cells #[.int .i64 q, .int .u8 (65 + (j : Int))] 131)) z1 a2, bcell (hb5.alloc hb5.size (.cells #[.int .i64 q, .int .u8 (65 + (j : Int))] 131)) z1 a3, bcell (hb5.alloc hb5.size (.cells #[.int .i64 q, .int .u8 (65 + (j : Int))] 131)) z1 a4⟩) ?_
          clear hK K
          try simp only [Act.put, List.setIfInBounds_toArray, List.set_cons_zero, List.set_cons_succ]
          refine wpAnyT_ready (rs := [8]) (by kernel_rfl) (by simp) ?_
          refine AllReadyT.cons (by simp only [List.getElem?_toArray, List.getElem?_cons_zero, List.getElem?_cons_succ]; rfl) (fun K hK => ?_) AllReadyT.nil
          refine step_append_lies _ (by rfl) _ _ 128 (by rfl) _ 131 i0 _ 2 16 Try.underlying128 HI0.out HI1.out HI2.out HI3.out rfl (by decide) _ nl (ndCells ns) (by rfl) (hown5.alloc _) ⟨w5.heap.size, 0, none⟩ 1 1 [.int .i64 q, .int .u8 (65 + (j : Int))] (by rfl) (by rfl) (World.news_of_block (heap_alloc_new w5 (.cells #[.int .i64 q, .int .u8 (65 + (j : Int))] 131))) (by simp [Value.oneCell']) (by omega) (by unfold maxLen; omega) (by omega) (by first | omega | (simp; done) | (simp; omega)) _ rfl ?_
          intro g8 c8 w8 hown8 hgrow8 hat8 hlt8
          have hb8 : Below wr.heap.size wr w8 := (hb5.alloc hb5.size (.cells #[.int .i64 q, .int .u8 (65 + (j : Int))] 131)).grown hgrow8 (by first | omega | (simp; done) | (simp; omega)) (fun k e => Nat.le_trans (by simp) (hown5.lt k e).1)
          refine hK.out _ _ (fun _ => ⟨bcell hb8 z1 a0, bcell hb8 z1 a1, bcell hb8 z1 a2, bcell hb8 z1 a3, bcell hb8 z1 a4⟩) ?_
          clear hK K
          try simp only [Act.put, List.setIfInBounds_toArray, List.set_cons_zero, List.set_cons_succ]
          refine wpAnyT_ready (rs := [9]) (by kernel_rfl) (by simp) ?_
          refine AllReadyT.cons (by simp only [List.getElem?_toArray, List.getElem?_cons_zero, List.getElem?_cons_succ]; rfl) (fun K hK => ?_) AllReadyT.nil
          go_simp
          go_at_call 80
          refine (HFIT.out w8 hb8 g8 c8 _ hown8 hlt8).mono ?_
          rintro e w9 ⟨rfl, hb9⟩
          have HB9 := Lib.hid (hb8.trans (hb9.mono hb8.size))
          refine hK.out _ _ (fun _ => ⟨bcell HB9.out z1 a0, bcell HB9.out z1 a1, bcell HB9.out z1 a2, bcell HB9.out z1 a3, bcell HB9.out z1 a4⟩) ?_
          clear hK K hS hown8 hgrow8 hat8 hb8 hb9 hown5 hgrow5 hat5 hb5 hz5
          try simp only [Act.put, List.setIfInBounds_toArray, List.set_cons_zero, List.set_cons_succ]
          refine wpAnyT_done (by kernel_rfl) ?_ _
          have HI9 := Lib.hid (show BoxL w w9 [.slice AH n ch, .int .i64 wn, .int .i64 sc, .int .i64 T, .slice AQ m cq] from HI.out.below HB9.out)
          clear a0 a1 a2 a3 a4 HB9
          by_cases hfit : fb = true
          · subst hfit
            have hconv := run_convert_bytes_arg (P := Try.prog) (w9.alloc (.cells #[.int .u8 (65 + (j : Int))] 5)) 88 5 Try.underlying88 Try.underlying5 w9.heap.size 0 1 1 [(65 + (j : Int))] rfl (fun i hi => by
              obtain rfl : i = 0 := by omega
              exact (Blok.new w9 5 [.int .u8 (65 + (j : Int))]).cell 0) 9 Try.underlying9
            rw [← HTB.out] at hconv
            have HE := Lib.hid (show rtext L ns q (j + 1) = s ++ tb by rw [rtext, HFB.out, if_pos rfl, ← HSE.out, HTBE.out])
            go_wp2_with fail
            exact ⟨⟨j + 1, by omega, val_u8 (by omega), by rw [HE.out], Lib.hid (HI9.out.below ((Below.refl _ _).alloc (Nat.le_refl _) _))⟩, by simp [intOf]; omega⟩
          · obtain rfl : fb = false := by simpa using hfit
            have HE := Lib.hid (show rtext L ns q (j + 1) = s by rw [rtext, HFB.out, if_neg Bool.false_ne_true, ← HSE.out])
            clear hfit
            go_wp2_with fail
            exact ⟨⟨j + 1, by omega, val_u8 (by omega), by rw [HE.out], HI9⟩, by simp [intOf]; omega⟩
        · go_simp
          refine hK.out _ _ (fun _ => ⟨bcell ((((Below.refl wr.heap.size wr).drew).alloc (Nat.le_refl _) (.cells #[] 131)).alloc (by simp) (.cells #[.int .i64 q, .int .u8 (65 + (j : Int))] 131)) z1 a0, bcell ((((Below.refl wr.heap.size wr).drew).alloc (Nat.le_refl _) (.cells #[] 131)).alloc (by simp) (.cells #[.int .i64 q, .int .u8 (65 + (j : Int))] 131)) z1 a1, bcell ((((Below.refl wr.heap.size wr).drew).alloc (Nat.le_refl _) (.cells #[] 131)).alloc (by simp) (.cells #[.int .i64 q, .int .u8 (65 + (j : Int))] 131)) z1 a2, bcell ((((Below.refl wr.heap.size wr).drew).alloc (Nat.le_refl _) (.cells #[] 131)).alloc (by simp) (.cells #[.int .i64 q, .int .u8 (65 + (j : Int))] 131)) z1 a3, bcell ((((Below.refl wr.heap.size wr).drew).alloc (Nat.le_refl _) (.cells #[] 131)).alloc (by simp) (.cells #[.int .i64 q, .int .u8 (65 + (j : Int))] 131)) z1 a4⟩) ?_
          clear hK K
          try simp only [Act.put, List.setIfInBounds_toArray, List.set_cons_zero, List.set_cons_succ]
          refine wpAnyT_ready (rs := [3]) (by kernel_rfl) (by simp) ?_
          refine AllReadyT.cons (by simp only [List.getElem?_toArray, List.getElem?_cons_zero, List.getElem?_cons_succ]; rfl) (fun K hK => ?_) AllReadyT.nil
          have hbn := Blok.new (wr.drew.alloc (.cells #[] 131)) 131 [.int .i64 q, .int .u8 (65 + (j : Int))]
          rw [World.size_alloc] at hbn
          refine step_append_src rfl _ _ 128 (by rfl) _ 131 i0 _ 2 16 Try.underlying128 HI0.out HI1.out HI2.out HI3.out rfl (by decide) _ 0 [] (by rfl) ((own_lit1 _ _ _).alloc _) _ nl (ndCells ns) (by rfl) (HSRC.out _ (((((Below.refl wr.heap.size wr).drew).alloc (Nat.le_refl _) (.cells #[] 131)).alloc (by simp) (.cells #[.int .i64 q, .int .u8 (65 + (j : Int))] 131)).mono z0)) (ndCells_len _ _ HNL.out) (ndCells_one _) (by unfold maxLen; omega) (by omega) (by first | omega | (simp; done) | (simp; omega)) _ rfl ?_
          intro A5 c5 w5 hown5 hgrow5 hat5
          rw [Nat.zero_add] at hown5 hat5 ⊢
          have hz5 := hgrow5.size
          simp at hz5
          have hb5 : Below wr.heap.size wr w5 := ((((Below.refl wr.heap.size wr).drew).alloc (Nat.le_refl _) (.cells #[] 131)).alloc (by simp) (.cells #[.int .i64 q, .int .u8 (65 + (j : Int))] 131)).grown hgrow5 (by first | omega | (simp; done) | (simp; omega)) (fun k e => by simp [Value.ownBlock] at e; omega)
          have hbn5 := Lib.hid (hbn.grown hgrow5 (by simp [Value.ownBlock]))
          clear hbn
          refine hK.out _ _ (fun _ => ⟨bcell hb5 z1 a0, bcell hb5 z1 a1, bcell hb5 z1 a2, bcell hb5 z1 a3, bcell hb5 z1 a4⟩) ?_
          clear hK K
          try simp only [Act.put, List.setIfInBounds_toArray, List.set_cons_zero, List.set_cons_succ]
          refine wpAnyT_ready (rs := [8]) (by kernel_rfl) (by simp) ?_
          refine AllReadyT.cons (by simp only [List.getElem?_toArray, List.getElem?_cons_zero, List.getElem?_cons_succ]; rfl) (fun K hK => ?_) AllReadyT.nil
          refine step_append_lies _ (by rfl) _ _ 128 (by rfl) _ 131 i0 _ 2 16 Try.underlying128 HI0.out HI1.out HI2.out HI3.out rfl (by decide) _ nl (ndCells ns) (by rfl) hown5 ⟨wr.heap.size + 1, 0, none⟩ 1 1 [.int .i64 q, .int .u8 (65 + (j : Int))] (by rfl) (by rfl) (World.news_of_block hbn5.out) (by simp [Value.oneCell']) (by omega) (by unfold maxLen; omega) (by omega) (by first | omega | (simp; done) | (simp; omega)) _ rfl ?_
          intro g8 c8 w8 hown8 hgrow8 hat8 hlt8
          have hb8 : Below wr.heap.size wr w8 := hb5.grown hgrow8 (by first | omega | (simp; done) | (simp; omega)) (fun k e => Nat.le_trans (by simp) (hown5.lt k e).1)
          refine hK.out _ _ (fun _ => ⟨bcell hb8 z1 a0, bcell hb8 z1 a1, bcell hb8 z1 a2, bcell hb8 z1 a3, bcell hb8 z1 a4⟩) ?_
          clear hK K
          try simp only [Act.put, List.setIfInBounds_toArray, List.set_cons_zero, List.set_cons_succ]
          refine wpAnyT_ready (rs := [9]) (by kernel_rfl) (by simp) ?_
          refine AllReadyT.cons (by simp only [List.getElem?_toArray, List.getElem?_cons_zero, List.getElem?_cons_succ]; rfl) (fun K hK => ?_) AllReadyT.nil
          go_simp
          go_at_call 80
          refine (HFIT.out w8 hb8 g8 c8 _ hown8 hlt8).mono ?_
          rintro e w9 ⟨rfl, hb9⟩
          have HB9 := Lib.hid (hb8.trans (hb9.mono hb8.size))
          refine hK.out _ _ (fun _ => ⟨bcell HB9.out z1 a0, bcell HB9.out z1 a1, bcell HB9.out z1 a2, bcell HB9.out z1 a3, bcell HB9.out z1 a4⟩) ?_
          clear hK K hS hown8 hgrow8 hat8 hb8 hb9 hown5 hgrow5 hat5 hb5 hz5
          try simp only [Act.put, List.setIfInBounds_toArray, List.set_cons_zero, List.set_cons_succ]
          refine wpAnyT_done (by kernel_rfl) ?_ _
          have HI9 := Lib.hid (show BoxL w w9 [.slice AH n ch, .int .i64 wn, .int .i64 sc, .int .i64 T, .slice AQ m cq] from HI.out.below HB9.out)
          clear a0 a1 a2 a3 a4 HB9
          by_cases hfit : fb = true
          · subst hfit
            have hconv := run_convert_bytes_arg (P := Try.prog) (w9.alloc (.cells #[.int .u8 (65 + (j : Int))] 5)) 88 5 Try.underlying88 Try.underlying5 w9.heap.size 0 1 1 [(65 + (j : Int))] rfl (fun i hi => by
              obtain rfl : i = 0 := by omega
              exact (Blok.new w9 5 [.int .u8 (65 + (j : Int))]).cell 0) 9 Try.underlying9
            rw [← HTB.out] at hconv
            have HE := Lib.hid (show rtext L ns q (j + 1) = s ++ tb by rw [rtext, HFB.out, if_pos rfl, ← HSE.out, HTBE.out])
            go_wp2_with fail
            exact ⟨⟨j + 1, by omega, val_u8 (by omega), by rw [HE.out], Lib.hid (HI9.out.below ((Below.refl _ _).alloc (Nat.le_refl _) _))⟩, by simp [intOf]; omega⟩
          · obtain rfl : fb = false := by simpa using hfit
            have HE := Lib.hid (show rtext L ns q (j + 1) = s by rw [rtext, HFB.out, if_neg Bool.false_ne_true, ← HSE.out])
            clear hfit
            go_wp2_with fail
            exact ⟨⟨j + 1, by omega, val_u8 (by omega), by rw [HE.out], HI9⟩, by simp [intOf]; omega⟩
      · go_simp
        refine hK.out _ _ (fun _ => ⟨bcell (((Below.refl wr.heap.size wr).drew).alloc (Nat.le_refl _) (.cells #[.int .i64 q, .int .u8 (65 + (j : Int))] 131)) z1 a0, bcell (((Below.refl wr.heap.size wr).drew).alloc (Nat.le_refl _) (.cells #[.int .i64 q, .int .u8 (65 + (j : Int))] 131)) z1 a1, bcell (((Below.refl wr.heap.size wr).drew).alloc (Nat.le_refl _) (.cells #[.int .i64 q, .int .u8 (65 + (j : Int))] 131)) z1 a2, bcell (((Below.refl wr.heap.size wr).drew).alloc (Nat.le_refl _) (.cells #[.int .i64 q, .int .u8 (65 + (j : Int))] 131)) z1 a3, bcell (((Below.refl wr.heap.size wr).drew).alloc (Nat.le_refl _) (.cells #[.int .i64 q, .int .u8 (65 + (j : Int))] 131)) z1 a4⟩) ?_
        clear hK K
        try simp only [Act.put, List.setIfInBounds_toArray, List.set_cons_zero, List.set_cons_succ]
        refine wpAnyT_ready (rs := [1]) (by kernel_rfl) (by simp) ?_
        refine AllReadyT.cons (by simp only [List.getElem?_toArray, List.getElem?_cons_zero, List.getElem?_cons_succ]; rfl) (fun K hK => ?_) AllReadyT.nil
        go_simp
        refine hK.out _ _ (fun _ => ⟨bcell ((((Below.refl wr.heap.size wr).drew).alloc (Nat.le_refl _) (.cells #[.int .i64 q, .int .u8 (65 + (j : Int))] 131)).alloc (by simp) (.cells #[] 131)) z1 a0, bcell ((((Below.refl wr.heap.size wr).drew).alloc (Nat.le_refl _) (.cells #[.int .i64 q, .int .u8 (65 + (j : Int))] 131)).alloc (by simp) (.cells #[] 131)) z1 a1, bcell ((((Below.refl wr.heap.size wr).drew).alloc (Nat.le_refl _) (.cells #[.int .i64 q, .int .u8 (65 + (j : Int))] 131)).alloc (by simp) (.cells #[] 131)) z1 a2, bcell ((((Below.refl wr.heap.size wr).drew).alloc (Nat.le_refl _) (.cells #[.int .i64 q, .int .u8 (65 + (j : Int))] 131)).alloc (by simp) (.cells #[] 131)) z1 a3, bcell ((((Below.refl wr.heap.size wr).drew).alloc (Nat.le_refl _) (.cells #[.int .i64 q, .int .u8 (65 + (j : Int))] 131)).alloc (by simp) (.cells #[] 131)) z1 a4⟩) ?_
        clear hK K
        try simp only [Act.put, List.setIfInBounds_toArray, List.set_cons_zero, List.set_cons_succ]
        refine wpAnyT_ready (rs := [3]) (by kernel_rfl) (by simp) ?_
        refine AllReadyT.cons (by simp only [List.getElem?_toArray, List.getElem?_cons_zero, List.getElem?_cons_succ]; rfl) (fun K hK => ?_) AllReadyT.nil
        have hbn := (Blok.new wr.drew 131 [.int .i64 q, .int .u8 (65 + (j : Int))]).alloc (.cells #[] 131)
        refine step_append_src rfl _ _ 128 (by rfl) _ 131 i0 _ 2 16 Try.underlying128 HI0.out HI1.out HI2.out HI3.out rfl (by decide) _ 0 [] (by rfl) (own_lit0 wr.drew _ _ _) _ nl (ndCells ns) (by rfl) (HSRC.out _ (((((Below.refl wr.heap.size wr).drew).alloc (Nat.le_refl _) (.cells #[.int .i64 q, .int .u8 (65 + (j : Int))] 131)).alloc (by simp) (.cells #[] 131)).mono z0)) (ndCells_len _ _ HNL.out) (ndCells_one _) (by unfold maxLen; omega) (by omega) (by first | omega | (simp; done) | (simp; omega)) _ rfl ?_
        intro A5 c5 w5 hown5 hgrow5 hat5
        rw [Nat.zero_add] at hown5 hat5 ⊢
        have hz5 := hgrow5.size
        simp at hz5
        have hb5 : Below wr.heap.size wr w5 := ((((Below.refl wr.heap.size wr).drew).alloc (Nat.le_refl _) (.cells #[.int .i64 q, .int .u8 (65 + (j : Int))] 131)).alloc (by simp) (.cells #[] 131)).grown hgrow5 (by first | omega | (simp; done) | (simp; omega)) (fun k e => by simp [Value.ownBlock] at e; omega)
        have hbn5 := Lib.hid (hbn.grown hgrow5 (by simp [Value.ownBlock]))
        clear hbn
        refine hK.out _ _ (fun _ => ⟨bcell hb5 z1 a0, bcell hb5 z1 a1, bcell hb5 z1 a2, bcell hb5 z1 a3, bcell hb5 z1 a4⟩) ?_
        clear hK K
        try simp only [Act.put, List.setIfInBounds_toArray, List.set_cons_zero, List.set_cons_succ]
        refine wpAnyT_ready (rs := [8]) (by kernel_rfl) (by simp) ?_
        refine AllReadyT.cons (by simp only [List.getElem?_toArray, List.getElem?_cons_zero, List.getElem?_cons_succ]; rfl) (fun K hK => ?_) AllReadyT.nil
        refine step_append_lies _ (by rfl) _ _ 128 (by rfl) _ 131 i0 _ 2 16 Try.underlying128 HI0.out HI1.out HI2.out HI3.out rfl (by decide) _ nl (ndCells ns) (by rfl) hown5 ⟨wr.heap.size, 0, none⟩ 1 1 [.int .i64 q, .int .u8 (65 + (j : Int))] (by rfl) (by rfl) (World.news_of_block hbn5.out) (by simp [Value.oneCell']) (by omega) (by unfold maxLen; omega) (by omega) (by first | omega | (simp; done) | (simp; omega)) _ rfl ?_
        intro g8 c8 w8 hown8 hgrow8 hat8 hlt8
        have hb8 : Below wr.heap.size wr w8 := hb5.grown hgrow8 (by first | omega | (simp; done) | (simp; omega)) (fun k e => Nat.le_trans (by simp) (hown5.lt k e).1)
        refine hK.out _ _ (fun _ => ⟨bcell hb8 z1 a0, bcell hb8 z1 a1, bcell hb8 z1 a2, bcell hb8 z1 a3, bcell hb8 z1 a4⟩) ?_
        clear hK K
        try simp only [Act.put, List.setIfInBounds_toArray, List.set_cons_zero, List.set_cons_succ]
        refine wpAnyT_ready (rs := [9]) (by kernel_rfl) (by simp) ?_
        refine AllReadyT.cons (by simp only [List.getElem?_toArray, List.getElem?_cons_zero, List.getElem?_cons_succ]; rfl) (fun K hK => ?_) AllReadyT.nil
        go_simp
        go_at_call 80
        refine (HFIT.out w8 hb8 g8 c8 _ hown8 hlt8).mono ?_
        rintro e w9 ⟨rfl, hb9⟩
        have HB9 := Lib.hid (hb8.trans (hb9.mono hb8.size))
        refine hK.out _ _ (fun _ => ⟨bcell HB9.out z1 a0, bcell HB9.out z1 a1, bcell HB9.out z1 a2, bcell HB9.out z1 a3, bcell HB9.out z1 a4⟩) ?_
        clear hK K hS hown8 hgrow8 hat8 hb8 hb9 hown5 hgrow5 hat5 hb5 hz5
        try simp only [Act.put, List.setIfInBounds_toArray, List.set_cons_zero, List.set_cons_succ]
        refine wpAnyT_done (by kernel_rfl) ?_ _
        have HI9 := Lib.hid (show BoxL w w9 [.slice AH n ch, .int .i64 wn, .int .i64 sc, .int .i64 T, .slice AQ m cq] from HI.out.below HB9.out)
        clear a0 a1 a2 a3 a4 HB9
        by_cases hfit : fb = true
        · subst hfit
          have hconv := run_convert_bytes_arg (P := Try.prog) (w9.alloc (.cells #[.int .u8 (65 + (j : Int))] 5)) 88 5 Try.underlying88 Try.underlying5 w9.heap.size 0 1 1 [(65 + (j : Int))] rfl (fun i hi => by
            obtain rfl : i = 0 := by omega
            exact (Blok.new w9 5 [.int .u8 (65 + (j : Int))]).cell 0) 9 Try.underlying9
          rw [← HTB.out] at hconv
          have HE := Lib.hid (show rtext L ns q (j + 1) = s ++ tb by rw [rtext, HFB.out, if_pos rfl, ← HSE.out, HTBE.out])
          go_wp2_with fail
          exact ⟨⟨j + 1, by omega, val_u8 (by omega), by rw [HE.out], Lib.hid (HI9.out.below ((Below.refl _ _).alloc (Nat.le_refl _) _))⟩, by simp [intOf]; omega⟩
        · obtain rfl : fb = false := by simpa using hfit
          have HE := Lib.hid (show rtext L ns q (j + 1) = s by rw [rtext, HFB.out, if_neg Bool.false_ne_true, ← HSE.out])
          clear hfit
          go_wp2_with fail
          exact ⟨⟨j + 1, by omega, val_u8 (by omega), by rw [HE.out], HI9⟩, by simp [intOf]; omega⟩
    · obtain rfl : j = 26 := by omega
      go_wp2_with fail
      go_ret
      exact ⟨by rw [HSE.out]; rfl, HI.out.bel⟩
end
section
open Go.RowKit Go.Shelf

theorem range_cut (p : Nat → Bool) (h : ∀ x, p x = true → 65 ≤ x ∧ x ≤ 90) : (List.range 256).filter p = ((List.range 26).filter fun j => p (65 + j)).map fun j => 65 + j := by
  have e : List.range 256 = List.range 65 ++ (List.range 26).map (fun j => 65 + j) ++ (List.range 165).map (fun j => 91 + j) := by decide +kernel
  have h1 : (List.range 65).filter p = [] := by
    rw [List.filter_eq_nil_iff]
    intro x hx hp
    have := h x hp
    have := List.mem_range.1 hx
    omega
  have h2 : ((List.range 165).map (fun j => 91 + j)).filter p = [] := by
    rw [List.filter_eq_nil_iff]
    intro x hx hp
    obtain ⟨j, _, rfl⟩ := List.mem_map.1 hx
    have := h _ hp
    omega
  rw [e, List.filter_append, List.filter_append, h1, h2, List.nil_append, List.append_nil, List.filter_map]
  rfl
/-- The cutters if some letters are known. -/
def knowsAll (L : Line) (ns : List (Nat × Nat)) : List Cutter := (cuttersOf L).map (knowsC ns)
theorem rfits_iff {L : Line} (hL : L.ok) {ns : List (Nat × Nat)} {q c : Nat} (hq : q < L.squares.length) :
    rfits L (ns ++ [(q, c)]) = true ↔ ∃ (k : Nat) (C : Cutter) (i : Nat), (knowsAll L ns)[k]? = some C ∧ C.sum L.squares.length ≤ L.total ∧ i < C.shapes.length ∧ C.need q i ≤ C.fewest q + (L.total - C.sum L.squares.length) ∧ (C.shapes.getD i ⟨0, 0⟩).letter = c := by
  have hT : L.total ≤ 40 := hL.2.2.2.2.2.1
  unfold rfits
  rw [List.any_eq_true]
  have key : ∀ H ∈ L.hands, handKnows L (ns ++ [(q, c)]) H = true ↔ ((knowsC ns (cutterOf L H.shapes)).sum L.squares.length ≤ L.total ∧ ∃ i, i < (knowsC ns (cutterOf L H.shapes)).shapes.length ∧ ((knowsC ns (cutterOf L H.shapes)).shapes.getD i ⟨0, 0⟩).letter = c ∧ (knowsC ns (cutterOf L H.shapes)).need q i ≤ (knowsC ns (cutterOf L H.shapes)).fewest q + (L.total - (knowsC ns (cutterOf L H.shapes)).sum L.squares.length)) := by
    intro H hH
    unfold handKnows
    rw [decide_eq_true_iff, knowsC_snoc]
    refine known_fits ?_ (fun i => knowsC_le ns _ (fun q i => need_le L hL H.shapes q i) q i) hq (by omega)
    unfold Cutter.rising
    rw [knowsC_shapes]
    exact Hand.ok.rising (L := L) (hL.2.2.1 H hH)
  constructor
  · rintro ⟨H, hH, h⟩
    obtain ⟨h1, i, h2, h3, h4⟩ := (key H hH).1 h
    obtain ⟨k, hk, e⟩ := List.getElem_of_mem hH
    refine ⟨k, _, i, ?_, h1, h2, h4, h3⟩
    unfold knowsAll cuttersOf
    rw [List.getElem?_map, List.getElem?_map, List.getElem?_eq_getElem hk, e]
    rfl
  · rintro ⟨k, C, i, hk, h1, h2, h4, h3⟩
    unfold knowsAll at hk
    rw [List.getElem?_map, Option.map_eq_some_iff] at hk
    obtain ⟨C0, hk0, rfl⟩ := hk
    obtain ⟨H, hH, rfl⟩ := cutters_of hk0
    have hm := List.mem_of_getElem? hH
    exact ⟨H, hm, (key H hm).2 ⟨h1, i, h2, h3, h4⟩⟩
theorem rtext_eq {L : Line} (hL : L.ok) {ns : List (Nat × Nat)} {q : Nat} (hq : q < L.squares.length) : rtext L ns q 26 = orderText (lettersG (knowsAll L ns) L.squares.length L.total q) := by
  apply ByteArray.ext
  apply Array.toList_inj.1
  rw [rtext_list]
  have hlet : ∀ (k : Nat) (C : Cutter) (i : Nat), (knowsAll L ns)[k]? = some C → i < C.shapes.length → 65 ≤ (C.shapes.getD i ⟨0, 0⟩).letter ∧ (C.shapes.getD i ⟨0, 0⟩).letter ≤ 90 := by
    intro k C i hk hi
    unfold knowsAll at hk
    rw [List.getElem?_map, Option.map_eq_some_iff] at hk
    obtain ⟨C0, hk0, rfl⟩ := hk
    obtain ⟨H, hH, rfl⟩ := cutters_of hk0
    have hm := List.mem_of_getElem? hH
    rw [knowsC_shapes] at hi ⊢
    have hi' : i < H.shapes.length := hi
    have e : (cutterOf L H.shapes).shapes.getD i ⟨0, 0⟩ = H.shapes[i] := by
      show H.shapes.getD i ⟨0, 0⟩ = _
      simp [List.getD, hi']
    rw [e]
    have := (hL.2.2.1 H hm).2.2.2.2.2.1 _ (List.getElem_mem hi')
    exact ⟨this.1, this.2.1⟩
  have e1 : (List.range 256).filter (fun x => (lettersG (knowsAll L ns) L.squares.length L.total q).any fun z => z.val == x) = (List.range 256).filter fun x => decide (65 ≤ x ∧ x ≤ 90) && rfits L (ns ++ [(q, x)]) := by
    apply List.filter_congr
    intro x hx
    have hx := List.mem_range.1 hx
    rw [Bool.eq_iff_iff, List.any_eq_true, Bool.and_eq_true, decide_eq_true_iff, rfits_iff hL hq]
    constructor
    · rintro ⟨z, hz, e⟩
      rw [beq_iff_eq] at e
      obtain ⟨k, C, i, hk, h1, h2, h3, rfl⟩ := mem_lettersG.1 hz
      have h4 := hlet k C i hk h2
      rw [letF_lt _ (by omega)] at e
      simp only at e
      rw [e] at h4
      exact ⟨h4, k, C, i, hk, h1, h2, h3, e⟩
    · rintro ⟨_, k, C, i, hk, h1, h2, h3, h4⟩
      refine ⟨letF x, mem_lettersG.2 ⟨k, C, i, hk, h1, h2, h3, by rw [h4]⟩, ?_⟩
      rw [letF_lt _ hx]
      simp
  show _ = (((orderOf (lettersG (knowsAll L ns) L.squares.length L.total q)).map UInt8.ofNat).toArray).toList
  rw [List.toList_toArray]
  unfold orderOf
  rw [e1, range_cut _ (fun x h => by rw [Bool.and_eq_true, decide_eq_true_iff] at h; exact h.1), List.map_map]
  have e2 : ((List.range 26).filter fun j => decide (65 ≤ 65 + j ∧ 65 + j ≤ 90) && rfits L (ns ++ [(q, 65 + j)])) = (List.range 26).filter fun j => rfits L (ns ++ [(q, 65 + j)]) := by
    apply List.filter_congr
    intro j hj
    have hj := List.mem_range.1 hj
    rw [decide_eq_true (by omega), Bool.true_and]
  rw [e2]
  rfl
theorem rtext_none {L : Line} (hL : L.ok) {q : Nat} (hq : q < L.squares.length) : rtext L [] q 26 = orderText (allLetters L q) := by
  rw [rtext_eq hL hq]
  have e : knowsAll L [] = cuttersOf L := by
    unfold knowsAll
    exact List.map_id _
  rw [e]
  rfl
theorem rtext_one {L : Line} (hL : L.ok) {p q c : Nat} (hq : q < L.squares.length) : rtext L [(p, c)] q 26 = orderText (lettersG ((cuttersOf L).map (knownC p c)) L.squares.length L.total q) := rtext_eq hL hq
end
end Go.Proofs.Ythhajbgddifenaa
