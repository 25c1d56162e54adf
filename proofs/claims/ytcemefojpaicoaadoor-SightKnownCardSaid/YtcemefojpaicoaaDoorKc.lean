/- sight.known: the cutters if a letter is known. -/
import Derived.Test.YtcemefojpaicoaaDoorI
namespace Go.Proofs.YtcemefojpaicoaaDoor
open Go.RowKit Go.Shelf
attribute [local go_sem ↓] ld_cut st_cut mk_cutter
attribute [local go_sem] run_mk_cutter

/-- What a cutter needs if the letter of a square is known. -/
def knownC (q z : Nat) (c : Cutter) : Cutter := ⟨c.shapes, fun p i => if p = q ∧ (c.shapes.getD i ⟨0, 0⟩).letter ≠ z then 81 else c.need p i⟩
theorem knownC_ok (q z : Nat) {c : Cutter} (h : c.ok) : (knownC q z c).ok :=
  ⟨h.1, h.2.1, h.2.2.1, fun p i => by
    show (if p = q ∧ (c.shapes.getD i ⟨0, 0⟩).letter ≠ z then 81 else c.need p i) ≤ 81
    have := h.2.2.2 p i
    split <;> omega⟩
/-- So far: the letters below j. -/
def KnTo (c : Cutter) (m q z j : Nat) (N : List Value) : Prop :=
  N.length = 64 ∧ (∀ u ∈ N, u.oneCell' = true) ∧ ∀ p i : Nat, p < m → i < c.shapes.length → N[p * 8 + i]? = some (.int .i64 ((if p = q ∧ i < j ∧ (c.shapes.getD i ⟨0, 0⟩).letter ≠ z then 81 else c.need p i : Nat) : Int))
theorem KnTo.start {c : Cutter} {m q z : Nat} {N : List Value} (h : NeedCells c m N) : KnTo c m q z 0 N :=
  ⟨h.1, h.2.1, fun p i hp hi => by rw [if_neg (by omega)]; exact h.2.2 p i hp hi⟩
theorem KnTo.same {c : Cutter} {m q z j : Nat} {N : List Value} (h : KnTo c m q z j N) (hz : (c.shapes.getD j ⟨0, 0⟩).letter = z) : KnTo c m q z (j + 1) N :=
  ⟨h.1, h.2.1, fun p i hp hi => by
    rw [h.2.2 p i hp hi]
    by_cases e : i = j
    · subst e
      rw [if_neg (fun g => g.2.2 hz), if_neg (fun g => g.2.2 hz)]
    · by_cases e2 : p = q ∧ i < j ∧ (c.shapes.getD i ⟨0, 0⟩).letter ≠ z
      · rw [if_pos e2, if_pos ⟨e2.1, by omega, e2.2.2⟩]
      · rw [if_neg e2, if_neg (fun g => e2 ⟨g.1, by omega, g.2.2⟩)]⟩
theorem KnTo.put {c : Cutter} {m q z j : Nat} {N : List Value} (h : KnTo c m q z j N) (hm : m ≤ 8) (hc : c.shapes.length ≤ 8) (hq : q < m) (hj : j < c.shapes.length) (hz : (c.shapes.getD j ⟨0, 0⟩).letter ≠ z) : KnTo c m q z (j + 1) (N.set (q * 8 + j) (.int .i64 81)) := by
  refine ⟨by simpa using h.1, fun u hu => ?_, fun p i hp hi => ?_⟩
  · rcases List.mem_or_eq_of_mem_set hu with hu | rfl
    · exact h.2.1 u hu
    · rfl
  · by_cases e : p = q ∧ i = j
    · obtain ⟨rfl, rfl⟩ := e
      rw [List.getElem?_set_self (by rw [h.1]; omega), if_pos ⟨rfl, by omega, hz⟩]
      rfl
    · rw [List.getElem?_set_ne (by omega), h.2.2 p i hp hi]
      by_cases e2 : p = q ∧ i < j ∧ (c.shapes.getD i ⟨0, 0⟩).letter ≠ z
      · rw [if_pos e2, if_pos ⟨e2.1, by omega, e2.2.2⟩]
      · rw [if_neg e2, if_neg (fun g => e2 ⟨g.1, by have := g.2.1; have : i ≠ j := fun hij => e ⟨g.1, hij⟩; omega, g.2.2⟩)]
theorem KnTo.done {c : Cutter} {m q z : Nat} {N : List Value} (h : KnTo c m q z c.shapes.length N) : NeedCells (knownC q z c) m N :=
  ⟨h.1, h.2.1, fun p i hp hi => by
    have hi' : i < c.shapes.length := hi
    rw [h.2.2 p i hp hi']
    by_cases e2 : p = q ∧ (c.shapes.getD i ⟨0, 0⟩).letter ≠ z
    · rw [if_pos ⟨e2.1, hi', e2.2⟩]
      simp only [knownC, if_pos e2]
    · rw [if_neg (fun g => e2 ⟨g.1, g.2.2⟩)]
      simp only [knownC, if_neg e2]⟩
theorem SlP.toSl {P : Nat → Prop} {B : Nat} {v : Value} {n : Nat} {R : Nat → Nat → Prop} (h : SlP P v n R) (hP : ∀ b, P b → b < B) : Sl B v n R := by
  obtain ⟨A, c, rfl, h⟩ := h
  exact ⟨A, c, rfl, fun hn => by obtain ⟨b, o, rfl, hb, hr⟩ := h hn; exact ⟨b, o, rfl, hP b hb, hr⟩⟩
def KnownPost (m : Nat) (cs : List Cutter) (w : World) (e : Ending) (w' : World) : Prop := ∃ v, e = .returned v ∧ Cuts w' (fun k => k < w'.heap.size) m v cs ∧ Below w.heap.size w w'

theorem own_slice' {w : World} {base n size : Nat} {e : TypeId} {v : Value} {xs : List Value} (h : w.ownsRow base e size v n xs) : ∃ A c, v = .slice A n c := by
  rcases h.2 with ⟨rfl, h0⟩ | ⟨g, cap, cur, hv, _⟩
  · exact ⟨none, 0, by rw [h0]⟩
  · exact ⟨_, _, hv⟩
theorem setCell_le' {w : World} {p : Addr} {u : Value} {n : Nat} (h : n ≤ w.heap.size) : n ≤ (w.setCell p u).heap.size := by simp [World.setCell]; exact h
set_option maxRecDepth 100000 in
set_option maxHeartbeats 2000000 in
theorem known_any (cv : Value) (cs : List Cutter) (hok : ∀ c ∈ cs, c.ok) (hcl : cs.length ≤ 4) (P : Nat → Prop) (w : World) (hP : ∀ k, P k → k < w.heap.size) (m : Nat) (hm : m ≤ 8) (hc : Cuts w P m cv cs) (q : Nat) (hq : q < m) (z : Nat) :
    Calls Tryd.prog 34 #[cv, .int .i64 q, .int .u8 z] w (KnownPost m (cs.map (knownC q z)) w) := by
  obtain ⟨Ac, cc, rfl, hA⟩ := hc
  obtain ⟨n, hn⟩ : ∃ n, n = cs.length := ⟨_, rfl⟩
  rw [← hn] at hA hcl ⊢
  have HN := Lib.hid hn
  have HA := Lib.hid hA
  have HOK := Lib.hid hok
  have HP := Lib.hid hP
  obtain ⟨i0, hi, hz0, hz1, hz2⟩ := info_parts info_cutter
  have HI := Lib.hid hi
  have HZ0 := Lib.hid hz0
  have HZ1 := Lib.hid hz1
  have HZ2 := Lib.hid hz2
  clear hn hA hok hP hi hz0 hz1 hz2
  go_enter Tryd.func34, Tryd.ntmps34
  go_wp2_with fail
  go_loopw [7, 14] (fun v i wr => ∃ k : Nat, k ≤ n ∧ i = .int .i64 k ∧ Below w.heap.size w wr ∧ ∃ xs, wr.ownsRow w.heap.size 72 65 v k xs ∧ CutCells wr w.heap.size m ((cs.map (knownC q z)).take k) xs) (fun _ i _ => n - (intOf i).toNat)
  case atStart => exact ⟨0, by omega, rfl, Below.refl _ _, [], World.ownsRow_nil _ _ _ _, CutCells.nil _ _ _⟩
  case round =>
    obtain ⟨k, hk, rfl, hb, xs, hown, hcut⟩ := hrel
    obtain ⟨Av, cv', rfl⟩ := own_slice' hown
    have HB := Lib.hid hb
    have HO := Lib.hid hown
    have HC := Lib.hid hcut
    have hz := hb.size
    clear hb hown hcut
    by_cases hlt : k < n
    · have hkl : k < cs.length := by rw [← HN.out]; exact hlt
      obtain ⟨c, hcu⟩ : ∃ c, cs[k]? = some c := ⟨_, List.getElem?_eq_getElem hkl⟩
      have hco := HOK.out c (List.mem_of_getElem? hcu)
      obtain ⟨b, o, rfl, hPb, hR⟩ := HA.out (by omega)
      obtain ⟨sv, N, r1, r2, r3, r4⟩ := hR k c hcu
      have HSH := Lib.hid (show Shapes w w.heap.size sv c.shapes from SlP.toSl r3 HP.out)
      obtain ⟨As, cps, rfl, hS⟩ := r3
      obtain ⟨bs, os, rfl, hPs, hsr⟩ := hS hco.1
      have hbw := HP.out b hPb
      have hbsw := HP.out bs hPs
      have h65 : (Value.slice (some ⟨bs, os, none⟩) c.shapes.length cps :: N).length = 65 := by simp [r4.1]
      have hone := one_cons (v := .slice (some ⟨bs, os, none⟩) c.shapes.length cps) r2 r4.2.1
      have hld := run_ldCut wr b (o + k * 65) _ (fun i u hu => (HB.out.cell (p := ⟨b, _, none⟩) hbw).trans (r1 i u hu)) h65
      have hst := run_stCut wr _ h65 hone
      have hx8 := hco.2.1
      obtain ⟨nS, hnS⟩ : ∃ nS, nS = c.shapes.length := ⟨_, rfl⟩
      rw [← hnS] at hld hst hx8 h65
      have HNS := Lib.hid hnS
      have HR4 := Lib.hid r4
      have HCU := Lib.hid hcu
      have HSR := Lib.hid hsr
      have HCO := Lib.hid hco
      clear hR r1 r2 r4 hS hsr hcu hco hone h65 hnS hPb hPs
      have k0 : (0 : Int) ≤ (k : Int) := by omega
      have k1 : (k : Int) < (n : Int) := by omega
      go_wp2_with fail
      obtain ⟨wo, hwo⟩ : ∃ wo : World, wo = wr := ⟨_, rfl⟩
      subst hwo
      go_loopw [21] (fun i wx => ∃ (j : Nat) (N' : List Value), j ≤ nS ∧ i = .int .i64 j ∧ Blok wx wo.heap.size 72 (.slice (some ⟨bs, os, none⟩) nS cps :: N') ∧ KnTo c m q z j N' ∧ Below wo.heap.size wo wx) (fun i _ => nS - (intOf i).toNat)
      case atStart => exact ⟨0, N, by omega, rfl, Blok.new wo _ _, KnTo.start HR4.out, (Below.refl _ _).alloc (Nat.le_refl _) _⟩
      case round =>
        clear hld hst
        obtain ⟨j, N', hj, rfl, hbx, hkn, hbel⟩ := hrel
        have zx := hbx.size
        have h64 := hkn.1
        have HBX := Lib.hid hbx
        have HKN := Lib.hid hkn
        have HBEL := Lib.hid hbel
        have zw := hbel.size
        by_cases hjn : j < nS
        · have hjl : j < c.shapes.length := by rw [← HNS.out]; exact hjn
          obtain ⟨x, hx⟩ : ∃ x, c.shapes[j]? = some x := ⟨_, List.getElem?_eq_getElem hjl⟩
          obtain ⟨s0, s1⟩ := HSR.out j x hx
          have e0 : wr.cell? ⟨bs, os + j * 2, none⟩ = some (.int .u8 x.letter) := bcell hbel (by omega) (bcell HB.out hbsw s0)
          have e1 : wr.cell? ⟨bs, os + j * 2 + 1, none⟩ = some (.int .i64 x.strokes) := bcell hbel (by omega) (bcell HB.out hbsw s1)
          have zb : bs < wr.heap.size := by omega
          have hxd : c.shapes.getD j ⟨0, 0⟩ = x := by simp [List.getD, hx]
          have j0 : (0 : Int) ≤ (j : Int) := by omega
          have j1 : (j : Int) < (nS : Int) := by omega
          have j2 : (j : Int) < 8 := by omega
          have q0 : (0 : Int) ≤ (q : Int) := by omega
          have q1 : (q : Int) < 8 := by omega
          have HXD := Lib.hid hxd
          clear s0 s1 hx hxd hbx hkn hbel
          by_cases hze : x.letter = z
          · have t1 : ((x.letter : Int) != z) = false := by simp [hze]
            have HZE := Lib.hid hze
            clear hze
            go_wp2
            go_roundw
            case rel => exact ⟨j + 1, N', by omega, by go_num, HBX.out.alloc _, HKN.out.same (by rw [HXD.out]; exact HZE.out), HBEL.out.alloc HBEL.out.size _⟩
            case measure => simp [intOf]; omega
          · have t1 : ((x.letter : Int) != z) = true := by simp; omega
            have HZE := Lib.hid hze
            have cN : wr.cell? ⟨wo.heap.size, 1 + q * 8 + j, none⟩ = some (.int .i64 (c.need q j : Nat)) := by
              rw [HBX.out.cell, show 1 + q * 8 + j = (q * 8 + j) + 1 by omega, List.getElem?_cons_succ, HKN.out.2.2 q j hq hjl, if_neg (by omega)]
            have fN := HBX.out.free (1 + q * 8 + j)
            clear hze
            go_wp2
            go_roundw
            case rel =>
              have hb2 := (HBX.out.put (1 + q * 8 + j) (.int .i64 81)).alloc (.cells #[.int .u8 x.letter, .int .i64 x.strokes] 31)
              rw [show (Value.slice (some ⟨bs, os, none⟩) nS cps :: N').set (1 + q * 8 + j) (.int .i64 81) = .slice (some ⟨bs, os, none⟩) nS cps :: N'.set (q * 8 + j) (.int .i64 81) by rw [show 1 + q * 8 + j = (q * 8 + j) + 1 by omega]; rfl] at hb2
              exact ⟨j + 1, N'.set (q * 8 + j) (.int .i64 81), by omega, by go_num, hb2, HKN.out.put hm (by rw [← HNS.out]; exact hx8) hq hjl (by rw [HXD.out]; exact HZE.out), (HBEL.out.setCell (p := ⟨wo.heap.size, 1 + q * 8 + j, none⟩) (Nat.le_refl _) _).alloc (setCell_le' HBEL.out.size) _⟩
            case measure => simp [intOf]; omega
        · obtain rfl : j = nS := by omega
          have hdone := (show KnTo c m q z c.shapes.length N' by rw [← HNS.out]; exact hkn).done
          have h65' : (Value.slice (some ⟨bs, os, none⟩) j cps :: N').length = 65 := by simp [h64]
          have hone' := one_cons (v := .slice (some ⟨bs, os, none⟩) j cps) rfl hkn.2.1
          have hld := run_ldCut wr wo.heap.size 0 (.slice (some ⟨bs, os, none⟩) j cps :: N') (fun i u hu => by rw [Nat.zero_add, hbx.cell]; exact hu) h65'
          have HDONE := Lib.hid hdone
          have H65 := Lib.hid h65'
          have HONE := Lib.hid hone'
          have HO2 := Lib.hid ((own_below HO.out hbel (Nat.le_refl _)).alloc (.cells (.slice (some ⟨bs, os, none⟩) j cps :: N').toArray 72))
          have HN7 := Lib.hid (World.news_of_block (heap_alloc_new wr (.cells (.slice (some ⟨bs, os, none⟩) j cps :: N').toArray 72)))
          clear hdone h65' hone' hbx hkn hbel
          go_wp2_with (at_builtin; refine wpList_append_lies _ rfl _ _ 65 rfl w.heap.size 72 i0 _ 65 536 Tryd.underlying65 HI.out HZ0.out HZ1.out HZ2.out (by rfl) (by decide) (.slice Av k cv') k xs (by rfl) HO2.out ⟨wr.heap.size, 0, none⟩ 1 1 (.slice (some ⟨bs, os, none⟩) j cps :: N') (by rfl) (by rw [H65.out]) HN7.out HONE.out (by decide) (by unfold maxLen; omega) (by omega) (by simp; omega) _ rfl ?_; intro g8 c8 w8 hown8 hgrow8 hat8 hlt8; have HO8 := Lib.hid hown8; have HG8 := Lib.hid hgrow8; clear hown8 hgrow8 hat8)
          go_roundw
          case rel =>
            have hbw := HB.out.trans (HBEL.out.mono hz)
            have hb8 := (hbw.alloc (by omega) (.cells (.slice (some ⟨bs, os, none⟩) j cps :: N').toArray 72)).grown HG8.out (by simp; omega) (fun jj e => (HO.out.lt jj e).1)
            have htk : (cs.map (knownC q z)).take (k + 1) = (cs.map (knownC q z)).take k ++ [knownC q z c] := by
              rw [List.take_succ_eq_append_getElem (by simpa using hkl)]
              have := (List.getElem?_eq_some_iff.1 HCU.out).2
              simp [this]
            refine ⟨k + 1, by omega, by go_num, hb8, _, HO8.out, ?_⟩
            rw [htk]
            have hsh8 := HSH.out.keep (Same.of_below hb8) (Nat.le_refl _)
            rw [← HNS.out] at hsh8
            exact (HC.out.keep (Same.of_two HB.out hb8) (Nat.le_refl _)).snoc (c := knownC q z c) rfl hsh8 HDONE.out
          case measure => simp [intOf]; omega
    · obtain rfl : k = n := by omega
      have htk : (cs.map (knownC q z)).take k = cs.map (knownC q z) := List.take_of_length_le (by simp; rw [← HN.out]; exact Nat.le_refl _)
      have hcut := HC.out
      have hown := HO.out
      rw [htk] at hcut
      have hlen : k = (cs.map (knownC q z)).length := by simp [HN.out]
      go_wp2_with fail
      go_ret
      refine ⟨_, rfl, ?_, HB.out⟩
      have h1 : wr.ownsRow w.heap.size 72 65 (.slice Av k cv') (cs.map (knownC q z)).length xs := by rw [← hlen]; exact hown
      exact SlP.mono (Cuts.of_own h1 hcut) (fun b hb => by rcases hb with hb | hb <;> omega) fun b o hb hr => fun kk cc hcc => by
        obtain ⟨sv, N, g1, g2, g3, g4⟩ := hr kk cc hcc
        exact ⟨sv, N, g1, g2, g3.keep (fun _ _ _ => rfl) (fun b hb => by rcases hb with hb | hb <;> omega), g4⟩
end Go.Proofs.YtcemefojpaicoaaDoor
