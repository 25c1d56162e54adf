/- SightTrue's walk. -/
import Derived.Test.YtmoohefoilaigaaTp
import Derived.Test.YtmoohefoilaigaaHs
import Derived.Test.YtmoohefoilaigaaSp
import Derived.Deep.DeepCutAuto
import Derived.Deep.QuietTactic
import Derived.BigQuiet
namespace Go.Proofs.Ytmoohefoilaigaa
open Go.RowKit Go.Shelf

set_option maxRecDepth 100000 in
set_option maxHeartbeats 4000000 in
theorem true_walk (a0 : Option Addr) (len0 cap0 : Nat) (w : World) (hr : NumRow w a0 len0) : Calls Try.prog 6 #[.slice a0 len0 cap0] w (EnoughPost w) := by
  go_enter Try.func6, Try.ntmps6
  go_wp2_with fail
  refine (newUrn_any _ _ _ _ hr).mono ?_
  rintro e w1 ⟨rfl, hu1, hb1⟩
  have HB1 := Lib.hid hb1
  have HU1 := Lib.hid hu1
  clear hu1 hb1 hr
  go_wp2_with fail
  refine (lineOf_any _ 4 6 8 _ (by omega) (by omega) (by omega) (by omega) (by omega) (by omega) HU1.out).mono ?_
  rintro e w2 ⟨L, lv, vv, hand, ks, vis, lts, H, rfl, hlb, hok, -, -, -, htr, hH, hmk, hlts, hvv, -, hu2, hk2⟩
  obtain ⟨vh, vs, rfl, hhb, hsb⟩ := hlb
  obtain ⟨hb, hc, hcur, hsvs, rfl, -⟩ := id hhb
  obtain ⟨sb, sc, scur, slvs, rfl, -⟩ := id hsb
  obtain ⟨vb, vc, vcur, rfl, -⟩ := hvv
  have HHND := Lib.hid (truth_hand htr H hH hmk)
  have HNE := Lib.hid (List.ne_nil_of_mem HHND.out)
  have HBY := Lib.hid (fun i hi => true_byte hok htr H hH hmk i hi lts hlts)
  have hlt : hand < L.hands.length := htr.hand_lt
  have hz4 : L.hands.length ≤ 4 := hok.2.1
  obtain ⟨y1, y2⟩ := years_hand HHND.out
  rw [low_at hH] at y1
  rw [high_at hH] at y2
  have hho := hok.2.2.1 H (List.mem_of_getElem? hH)
  have o1 := hho.1
  have o2 := hho.2.1
  have o3 := hho.2.2.1
  have hltz : lts.size = L.squares.length := by
    have : lts.data.toList.length = lts.size := by rw [Array.length_toList]; rfl
    rw [← this, hlts, ← htr.len]
    simp [lettersAt]
  have HLZ := Lib.hid hltz
  have HI := Lib.hid (TrueI.make (w := w) (vv := .slice (some ⟨vb, 0, none⟩) vis.length vc) (hand := hand) (lts := lts) hhb hsb hu2 (HB1.out.trans (hk2.below HB1.out.size (Nat.le_refl _))))
  have HOK := Lib.hid hok
  have HHH := Lib.hid hH
  have hg2 : w.heap.size < w2.heap.size := by have := HU1.out.size; have := hk2.size; omega
  clear hhb hsb hu2 hk2 hok HB1 HU1 htr hH hmk hlts hho hltz
  go_wp2_with fail
  refine (hands_list _ L _ HOK.out (show LineAt _ _ _ L from HI.out.1.line) HNE.out).mono ?_
  rintro e w3 ⟨va, rfl, hia, hb3⟩
  obtain ⟨Aa, ca, rfl, hAa⟩ := hia
  have HI3 := Lib.hid (HI.out.below hb3)
  have HA3 := Lib.hid (show Ints w3 w3.heap.size (.slice Aa (handsOf L).length ca) (handsOf L) from ⟨Aa, ca, rfl, hAa⟩)
  clear hAa hb3 HI
  have l0 : w3.cell? ⟨w2.heap.size, 0, none⟩ = some (.slice (some ⟨hb, 0, none⟩) L.hands.length hc) := HI3.out.1.1.cell 0
  have l1 : w3.cell? ⟨w2.heap.size, 1, none⟩ = some (.int .i64 L.worn) := HI3.out.1.1.cell 1
  have l2 : w3.cell? ⟨w2.heap.size, 2, none⟩ = some (.int .i64 L.scr) := HI3.out.1.1.cell 2
  have l3 : w3.cell? ⟨w2.heap.size, 3, none⟩ = some (.int .i64 L.total) := HI3.out.1.1.cell 3
  have l4 : w3.cell? ⟨w2.heap.size, 4, none⟩ = some (.slice (some ⟨sb, 0, none⟩) L.squares.length sc) := HI3.out.1.1.cell 4
  go_wp2_with fail
  refine (letters_some Unit _ L _ HOK.out (show LineAt _ _ _ L from HI3.out.1.line) HNE.out).mono ?_
  rintro e w4 ⟨ub, rfl, hu, hb4⟩
  obtain ⟨Ab, cb, rfl⟩ := own_slice hu
  have HI4 := Lib.hid (HI3.out.below hb4)
  have HA4 := Lib.hid (HA3.out.keep (Same.of_below hb4) hb4.size)
  have HU := Lib.hid hu
  clear hu hb4 HA3 l0 l1 l2 l3 l4
  have l0 : w4.cell? ⟨w2.heap.size, 0, none⟩ = some (.slice (some ⟨hb, 0, none⟩) L.hands.length hc) := HI4.out.1.1.cell 0
  have l1 : w4.cell? ⟨w2.heap.size, 1, none⟩ = some (.int .i64 L.worn) := HI4.out.1.1.cell 1
  have l2 : w4.cell? ⟨w2.heap.size, 2, none⟩ = some (.int .i64 L.scr) := HI4.out.1.1.cell 2
  have l3 : w4.cell? ⟨w2.heap.size, 3, none⟩ = some (.int .i64 L.total) := HI4.out.1.1.cell 3
  have l4 : w4.cell? ⟨w2.heap.size, 4, none⟩ = some (.slice (some ⟨sb, 0, none⟩) L.squares.length sc) := HI4.out.1.1.cell 4
  go_wp2_with fail
  refine (years_yes _ L _ HOK.out (show LineAt _ _ _ L from HI4.out.1.line) HNE.out).mono ?_
  rintro e w5 ⟨rfl, hb5⟩
  have hs45 := hb5.size
  have HI5' := Lib.hid (HI4.out.below hb5)
  have HI5 := Lib.hid ((HI4.out.below hb5).alloc (.cells #[.int .i64 (yearsOf L).1, .int .i64 (yearsOf L).2] 48))
  have HA5 := Lib.hid (HA4.out.keep (B' := w5.heap.size + 1) (Same.of_below (hb5.alloc hs45 (.cells #[.int .i64 (yearsOf L).1, .int .i64 (yearsOf L).2] 48))) (by omega))
  have HU5 := Lib.hid ((own_below HU.out hb5 (Nat.le_refl _)).alloc (.cells #[.int .i64 (yearsOf L).1, .int .i64 (yearsOf L).2] 48))
  have HY5 := Lib.hid (Blok.new w5 48 [.int .i64 (yearsOf L).1, .int .i64 (yearsOf L).2])
  obtain ⟨ylo, hylo⟩ : ∃ ylo, ylo = (yearsOf L).1 := ⟨_, rfl⟩
  obtain ⟨yhi, hyhi⟩ : ∃ yhi, yhi = (yearsOf L).2 := ⟨_, rfl⟩
  rw [← hylo] at y1 HI5 HA5 HU5 HY5
  rw [← hyhi] at y2 HI5 HA5 HU5 HY5
  rw [← hylo, ← hyhi]
  clear hb5 HA4 HU HI4 HI3 hylo hyhi l0 l1 l2 l3 l4
  have hsz5 := HI5.out.size
  have hlb5 : w2.heap.size < w5.heap.size := HI5'.out.1.1.size
  have l0 : w5.cell? ⟨w2.heap.size, 0, none⟩ = some (.slice (some ⟨hb, 0, none⟩) L.hands.length hc) := HI5'.out.1.1.cell 0
  have l1 : w5.cell? ⟨w2.heap.size, 1, none⟩ = some (.int .i64 L.worn) := HI5'.out.1.1.cell 1
  have l2 : w5.cell? ⟨w2.heap.size, 2, none⟩ = some (.int .i64 L.scr) := HI5'.out.1.1.cell 2
  have l3 : w5.cell? ⟨w2.heap.size, 3, none⟩ = some (.int .i64 L.total) := HI5'.out.1.1.cell 3
  have l4 : w5.cell? ⟨w2.heap.size, 4, none⟩ = some (.slice (some ⟨sb, 0, none⟩) L.squares.length sc) := HI5'.out.1.1.cell 4
  go_wp2_with fail
  refine (marks_yes _ L _ HOK.out (show LineAt _ _ _ L from HI5.out.1.line) HNE.out).mono ?_
  rintro e w6 ⟨m, rfl, -, hm, hb6⟩
  have HI6 := Lib.hid (HI5.out.below hb6)
  have HA6 := Lib.hid (HA5.out.keep (B' := w6.heap.size) (Same.of_below (hb6.mono (by simp))) (by have := hb6.size; simp at this; omega))
  have HU6 := Lib.hid (own_below HU5.out hb6 (Nat.le_refl _))
  have HY6 := Lib.hid (HY5.out.below hb6 HY5.out.size)
  have hs6 := hb6.size
  clear hb6 HI5 HI5' HA5 HU5 HY5 l0 l1 l2 l3 l4
  have l0 : w6.cell? ⟨w2.heap.size, 0, none⟩ = some (.slice (some ⟨hb, 0, none⟩) L.hands.length hc) := HI6.out.1.1.cell 0
  have l3 : w6.cell? ⟨w2.heap.size, 3, none⟩ = some (.int .i64 L.total) := HI6.out.1.1.cell 3
  have l4 : w6.cell? ⟨w2.heap.size, 4, none⟩ = some (.slice (some ⟨sb, 0, none⟩) L.squares.length sc) := HI6.out.1.1.cell 4
  have c0 : w6.cell? ⟨w2.heap.size + 1, 0, none⟩ = some (.int .i64 hand) := HI6.out.2.1.cell 0
  have y0 : w6.cell? ⟨w5.heap.size, 0, none⟩ = some (.int .i64 ylo) := HY6.out.cell 0
  have y1' : w6.cell? ⟨w5.heap.size, 1, none⟩ = some (.int .i64 yhi) := HY6.out.cell 1
  obtain ⟨b', c', hbe, hat⟩ := HI6.out.1.2.1.at_
  injection hbe with hbe1 hbe2 hbe3
  injection hbe1 with hbe1
  injection hbe1 with hbe1
  obtain ⟨sv, -, q0, q1, -⟩ := hat hand H HHH.out
  rw [← hbe1] at q0 q1
  clear hat hbe1 hbe2 hbe3
  obtain ⟨n, hn⟩ : ∃ n, n = L.squares.length := ⟨_, rfl⟩
  rw [← hn] at l4 HU6
  rw [← hn]
  have hmt : decide (L.total < m) = false := by simp; omega
  have i1 : (0 : Int) ≤ (hand : Int) := by omega
  have i2 : (hand : Int) < (L.hands.length : Int) := by omega
  have NE0 := Lib.hid (show w2.heap.size ≠ w.heap.size by omega)
  have NE1 := Lib.hid (show w2.heap.size + 1 ≠ w.heap.size by omega)
  have NEH := Lib.hid (HI6.out.2.2.hands_ne HI6.out.1.2.1)
  have NE5 := Lib.hid (show w5.heap.size ≠ w.heap.size by omega)
  have HN := Lib.hid hn
  have hn8 : n ≤ 8 := by rw [hn]; exact HOK.out.2.2.2.2.2.2.2.1
  clear hn
  have hz62 : w2.heap.size + 1 < w6.heap.size := HI6.out.size
  have hz65 : w5.heap.size < w6.heap.size := HY6.out.size
  have hz6b : hb < w6.heap.size := HI6.out.1.2.1.lt
  have hh4 : (handsOf L).length ≤ 100 := hands_le _ HOK.out
  go_upto_region 7 with fail
  go_cut [90] (fun s90 wx => s90 = .bool false ∧ TrueI w w2.heap.size w.heap.size (.slice (some ⟨hb, 0, none⟩) L.hands.length hc) (.slice (some ⟨sb, 0, none⟩) L.squares.length sc) (.slice (some ⟨vb, 0, none⟩) vis.length vc) L hand lts wx ∧ wx.ownsRow w3.heap.size 9 1 (.slice Ab n cb) n ((lettersOf L).map Value.string))
  case first =>
    go_region_held3 (fun W => W.cell? ⟨w2.heap.size, 0, none⟩ = some (.slice (some ⟨hb, 0, none⟩) L.hands.length hc) ∧ W.cell? ⟨w2.heap.size, 3, none⟩ = some (.int .i64 L.total) ∧ W.cell? ⟨w2.heap.size, 4, none⟩ = some (.slice (some ⟨sb, 0, none⟩) n sc) ∧ W.cell? ⟨w2.heap.size + 1, 0, none⟩ = some (.int .i64 hand) ∧
        W.cell? ⟨w5.heap.size, 0, none⟩ = some (.int .i64 ylo) ∧ W.cell? ⟨w5.heap.size, 1, none⟩ = some (.int .i64 yhi) ∧ W.cell? ⟨hb, hand * 3, none⟩ = some (.int .i64 H.low) ∧ W.cell? ⟨hb, hand * 3 + 1, none⟩ = some (.int .i64 H.high))
      (first
        | go_keep
        | (go_split_ands; exact ⟨hk7.cell (by assumption) NE0.out, hk7.cell (by assumption) NE0.out, hk7.cell (by assumption) NE0.out, hk7.cell (by assumption) NE1.out, hk7.cell (by assumption) NE5.out, hk7.cell (by assumption) NE5.out, hk7.cell (by assumption) NEH.out, hk7.cell (by assumption) NEH.out⟩)
        | (go_split_ands; exact ⟨bcell hb8 (by omega) (by assumption), bcell hb8 (by omega) (by assumption), bcell hb8 (by omega) (by assumption), bcell hb8 (by omega) (by assumption), bcell hb8 (by omega) (by assumption), bcell hb8 (by omega) (by assumption), bcell hb8 (by omega) (by assumption), bcell hb8 (by omega) (by assumption)⟩))
      (first
        | (go_at_call 36; refine (in_yes _ (handsOf L) hand _ (by omega) _ (by exact HA6.out) HHND.out).mono ?_; rintro e wq ⟨rfl, rfl⟩)
        | (go_at_call 38; refine (of_any _ H.low H.high _ (by omega) (by omega) (by omega) (by exact HI6.out.2.2)).mono ?_; rintro e w7 ⟨x, rfl, x1, x2, hu7, hk7⟩; have hz7 : w6.heap.size ≤ w7.heap.size := hk7.size)
        | (go_at_call 37; refine (hasIn_yes ylo yhi x _ (by omega) (by omega)).mono ?_; rintro e w8 ⟨rfl, hb8⟩))
    all_goals
      go_wp2_with fail
      go_meet
      have hk6 := (Kg.refl w.heap.size w6).drew.trans hk7
      exact ⟨rfl, (HI6.out.kg hk6 hu7 (Nat.le_refl _)).below hb8, own_below (own_kg HU6.out HI6.out.2.2 (by decide) hk6) hb8 (Nat.le_refl _)⟩
  case rest =>
    clear l0 l3 l4 c0 y0 y1' q0 q1 hmt i1 i2 NE0 NE1 NE5 NEH HA6 HY6 hz62 hz65 hz6b hh4 HI6 HU6
    obtain ⟨rfl, hi, hu⟩ := hcut
    obtain ⟨b, cb', hA, hbA, hltA⟩ := hu.form (by rw [HN.out]; exact HOK.out.2.2.2.2.2.2.1)
    injection hA with hA1 hA2 hA3
    subst hA1 hA3
    have c1 : wc.cell? ⟨w2.heap.size + 1, 1, none⟩ = some (.string lts) := hi.2.1.cell 1
    have HI := Lib.hid hi
    have HU := Lib.hid hu
    clear hi hu hA2
    go_wp2
    go_loopw [14] (fun i wr => ∃ k d : Nat, k ≤ n ∧ i = .int .i64 k ∧ wr = wc.drewN d) (fun i _ => n - (intOf i).toNat)
    case atStart => exact ⟨0, 0, by omega, rfl, rfl⟩
    case round =>
      obtain ⟨k, d, hk, rfl, hwr⟩ := hrel
      have HW := Lib.hid hwr
      by_cases hlt : k < n
      · have hkq : k < L.squares.length := by rw [← HN.out]; exact hlt
        have hks : k < lts.size := by rw [HLZ.out]; exact hkq
        obtain ⟨x, hx⟩ : ∃ x, x = orderText (allLetters L k) := ⟨_, rfl⟩
        have c1 : wr.cell? ⟨w2.heap.size + 1, 1, none⟩ = some (.string lts) := by rw [HW.out]; exact c1
        have hc : wr.cell? ⟨b, k, none⟩ = some (.string x) := by
          have h1 : (wc.drewN d).cell? ⟨b, k, none⟩ = _ := HU.out.cellAt k (by omega)
          rw [← HW.out] at h1
          rw [h1, List.getElem?_map, letters_at L k hkq, hx]
          rfl
        obtain ⟨u, hu1, hu2⟩ := HBY.out k hkq
        have hx256 : x.size ≤ 1000 := by have := orderText_le (allLetters L k); rw [hx]; omega
        have hue : lts[k] = u := by
          have h2 := (List.getElem?_eq_some_iff.1 hu1).2
          rw [← h2]
          simp [ByteArray.getElem_eq_getElem_data]
        have hin : lts[k] ∈ x.data.toList := by rw [hue, hx]; exact hu2
        have HIN := Lib.hid hin
        have j1 : (0 : Int) ≤ (k : Int) := by omega
        have j2 : (k : Int) < (n : Int) := by omega
        clear hu1 hu2 hue hx hin hkq hwr
        go_wp2_with fail
        go_quiet ((go_at_call 39; exact quietL (has_yes x lts[k] _ hx256 HIN.out)))
        go_wp2
        go_roundw
        case rel => exact ⟨k + 1, d + nq, by omega, by go_num, by rw [HW.out, World.drewN_drewN]⟩
        case measure => simp [intOf]; omega
      · obtain rfl : k = n := by omega
        have hbw := below_drewN HI.out.1.2.2.2 d
        rw [← hwr] at hbw
        clear hwr
        go_wp2_with (go_at_call 14; refine (ready_any Unit _).mono ?_; rintro e w8 ⟨rfl, hb8⟩; have HB8 := Lib.hid hb8; clear hb8)
        go_ret
        exact ⟨rfl, hbw.trans (HB8.out.mono hbw.size)⟩
end Go.Proofs.Ytmoohefoilaigaa
