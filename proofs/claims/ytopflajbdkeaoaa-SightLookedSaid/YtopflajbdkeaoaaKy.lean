/- SightLooked's walk. -/
import Derived.Test.YtopflajbdkeaoaaKw
namespace Go.Proofs.Ytopflajbdkeaoaa
open Go.RowKit Go.Shelf

theorem knows_of {L : Line} {H : Hand} {q : Nat} {u : UInt8} (hok : L.ok) (hh : L.hands = [H]) (hq : q < L.squares.length) (hu : u ∈ (orderText (allLetters L q)).data.toList) : ∃ i n, Knows L H q i u.toNat n := by
  obtain ⟨z, hz, rfl⟩ := mem_orderText.1 hu
  obtain ⟨k, H', i, hk, hf, rfl⟩ := mem_letters.1 hz
  rw [hh] at hk
  rcases k with _ | k
  · obtain rfl : H = H' := by simpa using hk
    have hs := (hok.2.2.1 H (by rw [hh]; simp)).2.2.2.2.2.1 _ (List.getElem_mem hf.2.1)
    have e : H.shapes.getD i ⟨0, 0⟩ = H.shapes[i]'hf.2.1 := by simp [List.getD, hf.2.1]
    refine ⟨i, _, hh, hok, hq, hf, ?_, rfl⟩
    rw [e, letF_lt _ (by have := hs.2.1; omega)]
    have h90 := hs.2.1
    show _ = (UInt8.ofNat _).toNat
    rw [UInt8.toNat_ofNat']
    exact (Nat.mod_eq_of_lt (by omega)).symm
  · simp at hk
set_option maxRecDepth 100000 in
set_option maxHeartbeats 4000000 in
theorem looked_walk (a0 : Option Addr) (len0 cap0 : Nat) (w : World) (hr : NumRow w a0 len0) : Calls Try.prog 12 #[.slice a0 len0 cap0] w (EnoughPost w) := by
  go_enter Try.func12, Try.ntmps12
  go_wp2_with fail
  refine (newUrn_any _ _ _ _ hr).mono ?_
  rintro e w1 ⟨rfl, hu1, hb1⟩
  have HB1 := Lib.hid hb1
  have HU1 := Lib.hid hu1
  clear hu1 hb1 hr
  go_wp2_with fail
  refine (lineOf_any _ 1 5 4 _ (by omega) (by omega) (by omega) (by omega) (by omega) (by omega) HU1.out).mono ?_
  rintro e w2 ⟨L, lv, vv, hand, ks, vis, lts, H, rfl, hlb, hok, hl1, -, -, htr, hH, hmk, -, hvv, hnew, hu2, hk2⟩
  obtain ⟨vh, vs, rfl, hhb, hsb⟩ := hlb
  obtain ⟨hb, hc, hcur, hsvs, rfl, -⟩ := id hhb
  obtain ⟨sb, sc, scur, slvs, rfl, -⟩ := id hsb
  obtain ⟨vb, vc, vcur, rfl, -⟩ := hvv
  have hcap : L.squares.length ≤ sc := (hnew sb _ _ _ _ _ _ rfl).2
  have hg2 : w.heap.size < w2.heap.size := by have := HU1.out.size; have := hk2.size; omega
  have hne : handsOf L ≠ [] := List.ne_nil_of_mem (truth_hand htr H hH hmk)
  have hone : L.hands = [H] := by
    have h1 := hok.1
    have h2 := (List.getElem?_eq_some_iff.1 hH).1
    cases hl : L.hands with
    | nil => rw [hl] at h1; simp at h1
    | cons x r =>
      rw [hl] at hl1 hH h2
      have hr0 : r = [] := by simpa using hl1
      subst hr0
      have : hand = 0 := by simp at h2; omega
      subst this
      obtain rfl : x = H := by simpa using hH
      rfl
  have HB2 := Lib.hid (HB1.out.trans (hk2.below HB1.out.size (Nat.le_refl _)))
  have HOK := Lib.hid hok
  have HNE := Lib.hid hne
  have HONE := Lib.hid hone
  have HHB := Lib.hid hhb
  have HSB := Lib.hid hsb
  clear hhb hsb hu2 hk2 HB1 HU1 htr hH hmk hne hone hnew hl1
  obtain ⟨m, hm⟩ : ∃ m, m = L.squares.length := ⟨_, rfl⟩
  have hm1 : 1 ≤ m := by rw [hm]; exact hok.2.2.2.2.2.2.1
  have hm8 : m ≤ 8 := by rw [hm]; exact hok.2.2.2.2.2.2.2.1
  have HM := Lib.hid hm
  rw [← hm] at hcap
  rw [← hm]
  clear hm hok
  have hkl : KL w ((w2.alloc (.cells #[.slice (some ⟨hb, 0, none⟩) L.hands.length hc, .int .i64 L.worn, .int .i64 L.scr, .int .i64 L.total, .slice (some ⟨sb, 0, none⟩) m sc] 25)).alloc (.cells #[.int .i64 hand, .string lts, .slice (some ⟨vb, 0, none⟩) vis.length vc] 32)) w2.heap.size hb hc sb sc L := by
    have hbel := ((Below.refl w2.heap.size w2).alloc (Nat.le_refl _) (.cells #[.slice (some ⟨hb, 0, none⟩) L.hands.length hc, .int .i64 L.worn, .int .i64 L.scr, .int .i64 L.total, .slice (some ⟨sb, 0, none⟩) m sc] 25)).alloc (by simp) (.cells #[.int .i64 hand, .string lts, .slice (some ⟨vb, 0, none⟩) vis.length vc] 32)
    have bl := (Blok.new w2 25 [.slice (some ⟨hb, 0, none⟩) L.hands.length hc, .int .i64 L.worn, .int .i64 L.scr, .int .i64 L.total, .slice (some ⟨sb, 0, none⟩) m sc]).alloc (.cells #[.int .i64 hand, .string lts, .slice (some ⟨vb, 0, none⟩) vis.length vc] 32)
    exact ⟨by rw [← HM.out]; exact bl, HHB.out.below hbel, HSB.out.below hbel, HB2.out.trans (hbel.mono (by omega))⟩
  have HKL := Lib.hid hkl
  clear hkl HHB HSB HB2
  have HLOOK := Lib.hid (fun (W : World) (h : KL w W w2.heap.size hb hc sb sc L) => show Calls Try.prog 34 #[.agg #[.slice (some ⟨hb, 0, none⟩) L.hands.length hc, .int .i64 L.worn, .int .i64 L.scr, .int .i64 L.total, .slice (some ⟨sb, 0, none⟩) m sc]] W (fun e w' => ∃ a b : Nat, LookRes L (L.squares.length - 1) a b ∧ e = .returned (.tuple #[.int .i64 a, .int .i64 b, .int .i64 0]) ∧ Below W.heap.size W w') by
    have hl := h.line
    rw [← HM.out] at hl
    exact look_some _ L W HOK.out hl HNE.out)
  have HLET := Lib.hid (fun (W : World) (h : KL w W w2.heap.size hb hc sb sc L) => show Calls Try.prog 21 #[.agg #[.slice (some ⟨hb, 0, none⟩) L.hands.length hc, .int .i64 L.worn, .int .i64 L.scr, .int .i64 L.total, .slice (some ⟨sb, 0, none⟩) m sc]] W (fun e w' => ∃ u, e = .returned (.tuple #[u, .int .i64 0]) ∧ w'.ownsRow W.heap.size 9 1 u m ((lettersOf L).map Value.string) ∧ Below W.heap.size W w') by
    have hl := h.line
    rw [← HM.out] at hl
    have h4 := letters_some Unit _ L W HOK.out hl HNE.out
    rw [← HM.out] at h4
    exact h4)
  go_wp2_with fail
  refine (HLOOK.out _ HKL.out).mono ?_
  rintro e w3 ⟨a, b, hres, rfl, hb3⟩
  have HRES := Lib.hid hres
  have HKL3 := Lib.hid (HKL.out.below hb3)
  clear hb3 hres HKL HLOOK
  have c0 : w3.cell? ⟨w2.heap.size, 0, none⟩ = some (.slice (some ⟨hb, 0, none⟩) L.hands.length hc) := HKL3.out.box.cell 0
  have c1 : w3.cell? ⟨w2.heap.size, 1, none⟩ = some (.int .i64 L.worn) := HKL3.out.box.cell 1
  have c2 : w3.cell? ⟨w2.heap.size, 2, none⟩ = some (.int .i64 L.scr) := HKL3.out.box.cell 2
  have c3 : w3.cell? ⟨w2.heap.size, 3, none⟩ = some (.int .i64 L.total) := HKL3.out.box.cell 3
  have c4 : w3.cell? ⟨w2.heap.size, 4, none⟩ = some (.slice (some ⟨sb, 0, none⟩) m sc) := by rw [HKL3.out.box.cell, HM.out]; rfl
  go_wp2_with fail
  refine (HLET.out _ HKL3.out).mono ?_
  rintro e w4 ⟨u, rfl, hu, hb4⟩
  have HKL4 := Lib.hid (HKL3.out.below hb4)
  have hu' : w4.ownsRow w3.heap.size 9 1 u L.squares.length ((lettersOf L).map Value.string) := by rw [← HM.out]; exact hu
  obtain ⟨Au, cu, rfl⟩ := own_form hu
  have hu'' : w4.ownsRow w3.heap.size 9 1 (.slice Au L.squares.length cu) L.squares.length ((lettersOf L).map Value.string) := by rw [← HM.out]; exact hu
  obtain ⟨g, rfl, hg0, hg1, hcs⟩ := letters_cell hu'' (by rw [← HM.out]; exact hm1)
  have HCS := Lib.hid hcs
  have z3 : w2.heap.size < w4.heap.size := HKL4.out.box.size
  clear hb4 hu hu' hu'' hcs HKL3 HLET c0 c1 c2 c3 c4
  obtain ⟨p1, p2, p3, p4⟩ := lookAt_spec (restL L) (L.squares.length - 1)
  obtain ⟨ra, rb⟩ := HRES.out
  rw [← rb] at p2 p3 p4
  rw [← ra] at p1 p2 p3
  have ham : a < m := by have := HM.out; omega
  have P2 := Lib.hid p2
  have P3 := Lib.hid p3
  have P4 := Lib.hid p4
  have c4 : w4.cell? ⟨w2.heap.size, 4, none⟩ = some (.slice (some ⟨sb, 0, none⟩) m sc) := by rw [HKL4.out.box.cell, HM.out]; rfl
  have t1 : (a : Int) < (m : Int) := by omega
  have t2 : ¬ ((a : Int) < 0) := by omega
  have t3 : ¬ m ≤ a := by omega
  have t4 : decide (m ≤ a) = false := by simp; omega
  have t5 : decide ((a : Int) < 0) = false := by simp
  have t6 : decide ((m : Int) ≤ (a : Int)) = false := by simp; omega
  clear p1 p2 p3 p4 ra rb HRES
  go_wp2
  go_loopw [2, 10] (fun s2 si wr => ∃ i : Nat, i ≤ m ∧ s2 = .bool false ∧ si = .int .i64 i ∧ Below w4.heap.size w4 wr) (fun _ si _ => m - (intOf si).toNat)
  case atStart => exact ⟨0, by omega, rfl, rfl, Below.refl _ _⟩
  case round =>
    clear c4
    obtain ⟨i, hi, rfl, rfl, hb⟩ := hrel
    have HB := Lib.hid hb
    clear hb
    by_cases him : i < m
    · have hiL : i < L.squares.length := by rw [← HM.out]; exact him
      obtain ⟨x, hx⟩ : ∃ x, x = orderText (allLetters L i) := ⟨_, rfl⟩
      have hx256 : x.size ≤ 256 := by rw [hx]; exact orderText_le _
      have l5 : wr.cell? ⟨g, i, none⟩ = some (.string x) := by rw [hx]; exact bcell HB.out hg1 (HCS.out i hiL)
      have HX := Lib.hid hx
      have HIL := Lib.hid hiL
      have i0 : (0 : Int) ≤ (i : Int) := by omega
      have i1 : (i : Int) < (m : Int) := by omega
      clear hx hiL
      go_wp2_with fail
      obtain ⟨wo, rfl⟩ : ∃ wo : World, wo = wr := ⟨_, rfl⟩
      clear l5
      go_loopw [2, 11, 12] (fun s2 sr sk wr => ∃ k : Nat, k ≤ x.size ∧ s2 = .bool false ∧ sk = .int .i64 k ∧ sr = .int .i64 (restOf (cuttersOf L) L.squares.length L.total i (x.data.toList.take k)) ∧ Below w4.heap.size w4 wr) (fun _ _ sk _ => x.size - (intOf sk).toNat)
      case atStart => exact ⟨0, by omega, rfl, rfl, rfl, HB.out⟩
      case round =>
        obtain ⟨k, hk, rfl, rfl, rfl, hb⟩ := hrel
        have HB' := Lib.hid hb
        have hrl := restOf_le (cuttersOf L) L.squares.length L.total i (x.data.toList.take k) (by have := HM.out; omega)
        clear hb
        have l5 : wr.cell? ⟨g, i, none⟩ = some (.string x) := by rw [HX.out]; exact bcell HB'.out hg1 (HCS.out i HIL.out)
        by_cases hkx : k < x.size
        · have hu : x[k] ∈ (orderText (allLetters L i)).data.toList := by
            rw [← HX.out, ByteArray.getElem_eq_getElem_data]
            exact Array.getElem_mem_toList _
          obtain ⟨j, n, hkn⟩ := knows_of HOK.out HONE.out HIL.out hu
          have hsn := restOf_snoc (cuttersOf L) L.squares.length L.total i (x.data.toList.take k) x[k]
          rw [hkn.rest] at hsn
          have htk : x.data.toList.take (k + 1) = x.data.toList.take k ++ [x[k]] := by
            rw [List.take_succ_eq_append_getElem (by simpa using hkx)]; rfl
          rw [← htk] at hsn
          obtain ⟨v, hv⟩ : ∃ v, v = manyOf (lettersOf (L.without i n)) := ⟨_, rfl⟩
          rw [← hv] at hsn
          have hkl := HKL4.out.below HB'.out
          have HKN := Lib.hid (show Calls Try.prog 47 #[.agg #[.slice (some ⟨hb, 0, none⟩) L.hands.length hc, .int .i64 L.worn, .int .i64 L.scr, .int .i64 L.total, .slice (some ⟨sb, 0, none⟩) m sc], .int .i64 i, .int .u8 x[k].toNat] wr.drew (fun e w' => e = .returned (.tuple #[.int .i64 v, .bool true]) ∧ Below wr.drew.heap.size wr.drew w') by
            have hbd := (Below.refl wr.heap.size wr).drew
            have h6 := knownLaw L H i j x[k].toNat n hb hc sb sc wr.drew hkn (hkl.hands.below hbd) (hkl.squares.below hbd) (by rw [← HM.out]; exact hcap)
            rw [← HM.out, ← hv] at h6
            exact h6)
          have HSN := Lib.hid hsn
          have c0 : wr.cell? ⟨w2.heap.size, 0, none⟩ = some (.slice (some ⟨hb, 0, none⟩) L.hands.length hc) := hkl.box.cell 0
          have c1 : wr.cell? ⟨w2.heap.size, 1, none⟩ = some (.int .i64 L.worn) := hkl.box.cell 1
          have c2 : wr.cell? ⟨w2.heap.size, 2, none⟩ = some (.int .i64 L.scr) := hkl.box.cell 2
          have c3 : wr.cell? ⟨w2.heap.size, 3, none⟩ = some (.int .i64 L.total) := hkl.box.cell 3
          have c4 : wr.cell? ⟨w2.heap.size, 4, none⟩ = some (.slice (some ⟨sb, 0, none⟩) m sc) := by rw [hkl.box.cell, HM.out]; rfl
          have zr : w2.heap.size < wr.heap.size := hkl.box.size
          have zg : g < wr.heap.size := by have := HB'.out.size; omega
          have k0 : (0 : Int) ≤ (k : Int) := by omega
          have k1 : (k : Int) < (x.size : Int) := by omega
          obtain ⟨r, hr⟩ : ∃ r, r = restOf (cuttersOf L) L.squares.length L.total i (x.data.toList.take k) := ⟨_, rfl⟩
          rw [← hr] at HSN hrl ⊢
          clear hkl hsn htk hv hkn hu hr
          go_wp2_with fail
          go_region_held3 (fun w' => w'.cell? ⟨w2.heap.size, 0, none⟩ = some (.slice (some ⟨hb, 0, none⟩) L.hands.length hc) ∧ w'.cell? ⟨w2.heap.size, 1, none⟩ = some (.int .i64 L.worn) ∧ w'.cell? ⟨w2.heap.size, 2, none⟩ = some (.int .i64 L.scr) ∧ w'.cell? ⟨w2.heap.size, 3, none⟩ = some (.int .i64 L.total) ∧ w'.cell? ⟨w2.heap.size, 4, none⟩ = some (.slice (some ⟨sb, 0, none⟩) m sc) ∧ w'.cell? ⟨g, i, none⟩ = some (.string x))
            (first
              | exact ⟨c0, c1, c2, c3, c4, l5⟩
              | exact ⟨bcell hb5 zr c0, bcell hb5 zr c1, bcell hb5 zr c2, bcell hb5 zr c3, bcell hb5 zr c4, bcell hb5 zg l5⟩)
            (first
              | (go_at_call 47; refine HKN.out.mono ?_; rintro e w5 ⟨rfl, hb5⟩))
          have HB5 := Lib.hid (HB'.out.drew.trans (hb5.mono HB'.out.size))
          clear c0 c1 c2 c3 c4 l5 hb5 HKN
          by_cases hrv : r < v
          · have HSV := Lib.hid (show restOf (cuttersOf L) L.squares.length L.total i (x.data.toList.take (k + 1)) = v by rw [HSN.out, Nat.max_eq_right (by omega)])
            go_wp2_with fail
            go_roundw
            case rel => exact ⟨k + 1, by omega, rfl, by go_num, by rw [HSV.out], HB5.out⟩
            case measure => simp [intOf]; omega
          · have HSV := Lib.hid (show restOf (cuttersOf L) L.squares.length L.total i (x.data.toList.take (k + 1)) = r by rw [HSN.out, Nat.max_eq_left (by omega)])
            go_wp2_with fail
            go_roundw
            case rel => exact ⟨k + 1, by omega, rfl, by go_num, by rw [HSV.out], HB5.out⟩
            case measure => simp [intOf]; omega
        · obtain rfl : k = x.size := by omega
          have e1 : x.data.toList.take x.size = x.data.toList := List.take_of_length_le (by rw [Array.length_toList]; exact Nat.le_refl _)
          have e2 : restOf (cuttersOf L) L.squares.length L.total i (x.data.toList.take x.size) = restL L i := by rw [e1, HX.out]; rfl
          obtain ⟨r, hr⟩ : ∃ r, r = restL L i := ⟨_, rfl⟩
          rw [e2, ← hr]
          have g2 : restL L a = b := P2.out
          have g3 := P3.out i
          have g4 := P4.out i (by have := HM.out; omega)
          rw [← hr] at g3 g4
          have HR := Lib.hid hr
          have G2 := Lib.hid g2
          clear e1 e2 hrl hr g2
          rcases Nat.lt_trichotomy i a with hia | hia | hia
          · have g5 := g3 hia
            have g6 : ¬ r ≤ b := by omega
            have g7 : ((i : Int) == (a : Int)) = false := by rw [beq_eq_false_iff_ne]; omega
            have g8 : ¬ a < i := by omega
            clear g3
            go_wp2_with fail
            exact ⟨⟨i + 1, by omega, rfl, by go_num, HB'.out⟩, by simp [intOf]; omega⟩
          · have g5 : r = b := by rw [HR.out, hia]; exact G2.out
            subst hia g5
            clear g3 g4
            go_wp2_with fail
            exact ⟨⟨i + 1, by omega, rfl, by go_num, HB'.out⟩, by simp [intOf]; omega⟩
          · have g5 : ¬ r < b := by omega
            have g6 : ¬ i < a := by omega
            have g7 : ((i : Int) == (a : Int)) = false := by rw [beq_eq_false_iff_ne]; omega
            clear g3
            go_wp2_with fail
            exact ⟨⟨i + 1, by omega, rfl, by go_num, HB'.out⟩, by simp [intOf]; omega⟩
    · obtain rfl : i = m := by omega
      go_wp2_with (go_at_call 14; refine (ready_any Unit _).mono ?_; rintro e w8 ⟨rfl, hb8⟩; have HB8 := Lib.hid hb8; clear hb8)
      go_ret
      exact ⟨rfl, HKL4.out.bel.trans ((HB.out.trans (HB8.out.mono HB.out.size)).mono HKL4.out.bel.size)⟩
end Go.Proofs.Ytopflajbdkeaoaa
