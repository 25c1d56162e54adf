/- SightSure's walk. -/
import Derived.Test.YtdjhohhlnfjdeaaSp
namespace Go.Proofs.Ytdjhohhlnfjdeaa
open Go.RowKit Go.Shelf

set_option maxRecDepth 100000 in
set_option maxHeartbeats 4000000 in
theorem sure_walk (a0 : Option Addr) (len0 cap0 : Nat) (w : World) (hr : NumRow w a0 len0) : Calls Try.prog 8 #[.slice a0 len0 cap0] w (EnoughPost w) := by
  go_enter Try.func8, Try.ntmps8
  go_wp2_with fail
  refine (newUrn_any _ _ _ _ hr).mono ?_
  rintro e w1 ⟨rfl, hu1, hb1⟩
  have HB1 := Lib.hid hb1
  have HU1 := Lib.hid hu1
  clear hu1 hb1 hr
  go_wp2_with fail
  refine (lineOf_any _ 3 6 6 _ (by omega) (by omega) (by omega) (by omega) (by omega) (by omega) HU1.out).mono ?_
  rintro e w2 ⟨L, lv, vv, hand, ks, vis, lts, H, rfl, hlb, hok, -, -, -, htr, hH, hmk, -, hvv, -, hu2, hk2⟩
  obtain ⟨vh, vs, rfl, hhb, hsb⟩ := hlb
  obtain ⟨hb, hc, hcur, hsvs, rfl, -⟩ := id hhb
  obtain ⟨sb, sc, scur, slvs, rfl, -⟩ := id hsb
  obtain ⟨vb, vc, vcur, rfl, -⟩ := hvv
  have hg2 : w.heap.size < w2.heap.size := by have := HU1.out.size; have := hk2.size; omega
  have HHB := Lib.hid hhb
  have HSB := Lib.hid hsb
  have HB2 := Lib.hid (HB1.out.trans (hk2.below HB1.out.size (Nat.le_refl _)))
  have HOK := Lib.hid hok
  have hne : handsOf L ≠ [] := List.ne_nil_of_mem (truth_hand htr H hH hmk)
  have HNE := Lib.hid hne
  have HPOS := Lib.hid (fun i hi => orderText_pos (truth_letter htr H hH hmk i hi))
  clear hhb hsb hu2 hk2 hok HB1 HU1 htr hH hmk hne
  have hbox : BoxI w w2.heap.size (.slice (some ⟨hb, 0, none⟩) L.hands.length hc) (.slice (some ⟨sb, 0, none⟩) L.squares.length sc) L L.total ((w2.alloc (.cells #[.slice (some ⟨hb, 0, none⟩) L.hands.length hc, .int .i64 L.worn, .int .i64 L.scr, .int .i64 L.total, .slice (some ⟨sb, 0, none⟩) L.squares.length sc] 25)).alloc (.cells #[.int .i64 hand, .string lts, .slice (some ⟨vb, 0, none⟩) vis.length vc] 32)) := by
    have hbel := ((Below.refl w2.heap.size w2).alloc (Nat.le_refl _) (.cells #[.slice (some ⟨hb, 0, none⟩) L.hands.length hc, .int .i64 L.worn, .int .i64 L.scr, .int .i64 L.total, .slice (some ⟨sb, 0, none⟩) L.squares.length sc] 25)).alloc (by simp) (.cells #[.int .i64 hand, .string lts, .slice (some ⟨vb, 0, none⟩) vis.length vc] 32)
    have bl := (Blok.new w2 25 [.slice (some ⟨hb, 0, none⟩) L.hands.length hc, .int .i64 L.worn, .int .i64 L.scr, .int .i64 L.total, .slice (some ⟨sb, 0, none⟩) L.squares.length sc]).alloc (.cells #[.int .i64 hand, .string lts, .slice (some ⟨vb, 0, none⟩) vis.length vc] 32)
    exact ⟨bl, HHB.out.below hbel, HSB.out.below hbel, HB2.out.trans (hbel.mono (by omega))⟩
  have HBOX := Lib.hid hbox
  clear hbox HHB HSB HB2
  go_wp2_with fail
  refine (letters_some Unit _ L _ HOK.out (show LineAt _ _ _ L from HBOX.out.line) HNE.out).mono ?_
  rintro e w3 ⟨u, rfl, hu, hb3⟩
  have HBX3 := Lib.hid (HBOX.out.below (by simp; omega) hb3)
  have HU := Lib.hid hu
  have hg3 : w2.heap.size + 1 < w3.heap.size := by have := hb3.size; simp at this; omega
  clear hb3 hu HBOX
  have l0 : w3.cell? ⟨w2.heap.size, 0, none⟩ = some (.slice (some ⟨hb, 0, none⟩) L.hands.length hc) := HBX3.out.1.cell 0
  have l1 : w3.cell? ⟨w2.heap.size, 1, none⟩ = some (.int .i64 L.worn) := HBX3.out.1.cell 1
  have l2 : w3.cell? ⟨w2.heap.size, 2, none⟩ = some (.int .i64 L.scr) := HBX3.out.1.cell 2
  have l3 : w3.cell? ⟨w2.heap.size, 3, none⟩ = some (.int .i64 L.total) := HBX3.out.1.cell 3
  have l4 : w3.cell? ⟨w2.heap.size, 4, none⟩ = some (.slice (some ⟨sb, 0, none⟩) L.squares.length sc) := HBX3.out.1.cell 4
  go_wp2_with fail
  refine (print_any Unit _ L _ HOK.out (show LineAt _ _ _ L from HBX3.out.line) HNE.out).mono ?_
  rintro e w4 ⟨rfl, hb4⟩
  have HBX4 := Lib.hid (HBX3.out.below (by omega) hb4)
  have HU4 := Lib.hid (own_below HU.out hb4 (Nat.le_refl _))
  have hg4 : w2.heap.size + 1 < w4.heap.size := by have := hb4.size; omega
  clear hb4 l0 l1 l2 l3 l4 HBX3 HU
  have l4 : w4.cell? ⟨w2.heap.size, 4, none⟩ = some (.slice (some ⟨sb, 0, none⟩) L.squares.length sc) := HBX4.out.1.cell 4
  obtain ⟨A, cA, rfl⟩ := own_slice HU4.out
  obtain ⟨m, hm⟩ : ∃ m, m = L.squares.length := ⟨_, rfl⟩
  have hm8 : m ≤ 8 := by rw [hm]; exact HOK.out.2.2.2.2.2.2.2.1
  have hm1 : 1 ≤ m := by rw [hm]; exact HOK.out.2.2.2.2.2.2.1
  rw [← hm] at HU4 l4
  rw [← hm]
  have HM := Lib.hid hm
  have hps := printTo_size (lettersOf L)
  have hlen : (lettersOf L).length = m := by rw [hm]; simp [lettersOf]
  rw [hlen] at hps
  have HLEN := Lib.hid hlen
  obtain ⟨P, hP⟩ : ∃ P, P = printTo (lettersOf L) := ⟨_, rfl⟩
  rw [← hP] at hps
  rw [← hP]
  have HP := Lib.hid hP
  clear hm hlen hP
  go_wp2
  go_loop [9, 10] (fun at_ i => ∃ k : Nat, k ≤ m ∧ i = .int .i64 k ∧ at_ = .int .i64 (printTo ((lettersOf L).take k)).size) (fun _ i => m - (intOf i).toNat)
  case atStart => exact ⟨0, by omega, rfl, rfl⟩
  case round =>
    clear l4
    obtain ⟨k, hk, rfl, rfl⟩ := hrel
    by_cases hlt : k < m
    · obtain ⟨x, hx⟩ : ∃ x, (lettersOf L)[k]? = some x := ⟨_, List.getElem?_eq_getElem (by rw [HLEN.out]; exact hlt)⟩
      have hx256 : x.size ≤ 256 := by
        have h1 := letters_at L k (by rw [← HM.out]; exact hlt)
        rw [hx] at h1
        injection h1 with h1
        rw [h1]
        exact orderText_le _
      have hx1 : 1 ≤ x.size := by
        have h1 := letters_at L k (by rw [← HM.out]; exact hlt)
        rw [hx] at h1
        injection h1 with h1
        rw [h1]
        exact HPOS.out k (by rw [← HM.out]; exact hlt)
      obtain ⟨r, hr⟩ := printTo_at _ k x hx
      rw [← HP.out] at hr
      have htk : printTo ((lettersOf L).take (k + 1)) = printTo ((lettersOf L).take k) ++ piece x := by
        have hk' : k < (lettersOf L).length := by rw [HLEN.out]; exact hlt
        rw [List.take_succ_eq_append_getElem hk', (List.getElem?_eq_some_iff.1 hx).2, printTo_snoc]
      obtain ⟨b, capA, hA, hbA, hltA⟩ := HU4.out.form (by omega)
      injection hA with hA1 hA2 hA3
      subst hA1 hA3
      have hc : w4.cell? ⟨b, k, none⟩ = some (.string x) := by
        have h1 := HU4.out.cellAt k (by omega)
        rw [h1, List.getElem?_map, hx]
        rfl
      obtain ⟨q, hq⟩ : ∃ q, q = printTo ((lettersOf L).take k) := ⟨_, rfl⟩
      rw [← hq] at hr htk
      rw [← hq]
      have HR := Lib.hid hr
      have HTK := Lib.hid htk
      have hps2 : q.size + (piece x).size ≤ P.size := by rw [hr]; simp only [ByteArray.size_append]; omega
      have HX := Lib.hid hx
      clear hr htk hx hq hA2
      by_cases h1 : x.size = 1
      · have e1 : piece x = x := by unfold piece; rw [if_pos h1]
        rw [e1] at hps2 HR HTK
        have hsm := same_mid HR.out (q.size + 1) (by omega)
        rw [h1] at hps2
        clear e1
        go_wp2
        exact ⟨⟨k + 1, by omega, by go_num, by rw [HTK.out, ByteArray.size_append, h1]; go_num⟩, by simp [intOf]; omega⟩
      · by_cases h3 : x.size ≤ 3
        · have e1 : piece x = ⟨#[123]⟩ ++ x ++ ⟨#[125]⟩ := by unfold piece; rw [if_neg h1, if_pos (by omega)]
          rw [e1] at hps2 HR HTK
          have h2 : 1 < x.size := by omega
          have hxe := ne_empty hx1
          have hxz : ((x.size : Int) == 0) = false := by simp; omega
          have hsm := same_mid HR.out (q.size + (1 + x.size + 1)) (by rw [brace_size])
          rw [brace_size] at hps2
          clear e1 h1
          go_wp2
          exact ⟨⟨k + 1, by omega, by go_num, by rw [HTK.out, ByteArray.size_append, brace_size]; go_num⟩, by simp [intOf]; omega⟩
        · have e1 : piece x = ⟨#[45]⟩ := by unfold piece; rw [if_neg h1, if_neg (by omega)]
          rw [e1] at hps2 HR HTK
          have h2 : 3 < x.size := by omega
          have h2' : 1 < x.size := by omega
          have hxe := ne_empty hx1
          have hxz : ((x.size : Int) == 0) = false := by simp; omega
          have hsm := same_mid HR.out (q.size + 1) rfl
          rw [dash_list] at hsm
          have hps3 : q.size + 1 ≤ P.size := hps2
          clear e1 h1 hps2
          go_wp2
          exact ⟨⟨k + 1, by omega, by go_num, by rw [HTK.out, ByteArray.size_append]; exact val_i64 (by show (q.size : Int) + 1 = ((q.size + 1 : Nat) : Int); omega)⟩, by simp [intOf]; omega⟩
    · obtain rfl : k = m := by omega
      have e : (lettersOf L).take k = lettersOf L := List.take_of_length_le (by rw [HLEN.out]; exact Nat.le_refl _)
      rw [e, ← HP.out]
      clear e
      go_wp2_with (go_at_call 14; refine (ready_any Unit _).mono ?_; rintro e w8 ⟨rfl, hb8⟩; have HB8 := Lib.hid hb8; clear hb8)
      go_ret
      exact ⟨rfl, HBX4.out.2.2.2.trans (HB8.out.mono (by omega))⟩
end Go.Proofs.Ytdjhohhlnfjdeaa
