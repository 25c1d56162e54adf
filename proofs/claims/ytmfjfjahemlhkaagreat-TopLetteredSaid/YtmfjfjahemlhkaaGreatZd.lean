/- LineOf. -/
import Derived.Test.YtmfjfjahemlhkaaGreatZc
import Derived.Laws.BytesArg
import Derived.Deep.RegionHeld3
namespace Go.Proofs.YtmfjfjahemlhkaaGreat.Sg
section
open Go.RowKit Go.Shelf

theorem one3 {k l : IntKind} {a b : Int} {v : Value} (h : v.oneCell' = true) : ∀ u ∈ [Value.int k a, Value.int l b, v], u.oneCell' = true := by
  intro u hu
  rcases List.mem_cons.1 hu with rfl | hu
  · rfl
  rcases List.mem_cons.1 hu with rfl | hu
  · rfl
  rcases List.mem_cons.1 hu with rfl | hu
  · exact h
  · cases hu
set_option maxRecDepth 100000 in
set_option maxHeartbeats 4000000 in
theorem lineOf_any (g hm sm qm : Nat) (w : World) (h1 : 1 ≤ hm) (h4 : hm ≤ 4) (s1 : 1 ≤ sm) (s8 : sm ≤ 8) (q1 : 1 ≤ qm) (q8 : qm ≤ 8) (hu : UrnAt w g) :
    Calls Tryz.prog 17 #[.pointer (some ⟨g, 0, none⟩), .int .i64 hm, .int .i64 sm, .int .i64 qm] w (LinePost g hm sm qm w) := by
  have HU := Lib.hid hu
  clear hu
  obtain ⟨i0, hi, hz0, hz1, hz2⟩ := info_parts info_hand
  have HI := Lib.hid hi
  have HZ0 := Lib.hid hz0
  have HZ1 := Lib.hid hz1
  have HZ2 := Lib.hid hz2
  clear hi hz0 hz1 hz2
  go_enter Tryz.func17, Tryz.ntmps17
  go_wp2_with fail
  refine (up_any _ _ _ (by omega) ((HU.out.alloc _).alloc _)).mono ?_
  rintro e w1 ⟨worn, rfl, a1, hu1, hk1⟩
  have HU1 := Lib.hid hu1
  have HK1 := Lib.hid hk1
  clear hu1 hk1
  go_wp2_with fail
  refine (up_any _ _ _ (by omega) HU1.out).mono ?_
  rintro e w2 ⟨scr, rfl, a2, hu2, hk2⟩
  have hw2 : worn ≤ 2 := by omega
  have hs2 : scr ≤ 2 := by omega
  have HU2 := Lib.hid hu2
  have HK2 := Lib.hid (HK1.out.trans hk2)
  clear hu2 hk2 a1 a2 HU1 HK1
  go_wp2_with fail
  refine (from_any _ _ _ _ (by omega) (by omega) (by omega) (by omega) (HU2.out.alloc _)).mono ?_
  rintro e w3 ⟨n, rfl, n1, n2, hu3, hk3⟩
  obtain ⟨n, rfl⟩ := Int.eq_ofNat_of_zero_le (show 0 ≤ n by omega)
  have hz2 : w.heap.size + 1 < w2.heap.size := by have := HK2.out.size; simp at this; omega
  have hz3 : w2.heap.size < w3.heap.size := by have := hk3.size; simp at this; omega
  have hst : HandsI g w w3 w2.heap.size w.heap.size (w.heap.size + 1) (w2.heap.size + 1) worn scr hm sm n := by
    have b8 : Blok w2 w.heap.size 51 zeroLine := ((Blok.new w _ _).alloc _).kg HK2.out (by have := HU.out.size; omega)
    have b9 : Blok w2 (w.heap.size + 1) 53 zeroCut := by
      have := Blok.new (w.alloc (.cells zeroLine.toArray 51)) 53 zeroCut
      rw [World.size_alloc] at this
      exact this.kg HK2.out (by have := HU.out.size; omega)
    have bl := Blok.new w2 51 (lineCells (.slice none 0 0) worn scr 0 (.slice none 0 0))
    have u2 := HU2.out.alloc (.cells (lineCells (.slice none 0 0) worn scr 0 (.slice none 0 0)).toArray 51)
    refine ⟨[], [], .slice none 0 0, bl.kg hk3 (u2.ne bl (by decide)), (b8.alloc _).kg hk3 (u2.ne (b8.alloc _) (by decide)), (b9.alloc _).kg hk3 (u2.ne (b9.alloc _) (by decide)), hu3, ((((Kg.refl g w).alloc _).alloc _).trans HK2.out).alloc _ |>.trans hk3, World.ownsRow_nil _ _ _ _, ⟨⟨rfl, by simp⟩, by simp⟩, by simp, by simp; omega, by simp; omega, by omega⟩
  have HST := Lib.hid hst
  clear hst hu3 hk3 HU2 HK2
  go_wp2
  go_loopw [11] (fun i wr => ∃ k : Nat, i = .int .i64 k ∧ HandsI g w wr w2.heap.size w.heap.size (w.heap.size + 1) (w2.heap.size + 1) worn scr hm sm k) (fun i _ => (intOf i).toNat)
  case atStart => exact ⟨n, rfl, HST.out⟩
  case round =>
    clear HST
    obtain ⟨k, rfl, hs, svs, vh, bl, b8, b9, hu, hk, hown, hS, hok, hlen, hlen1, hbase⟩ := hrel
    have BL := Lib.hid bl
    have B8 := Lib.hid b8
    have B9 := Lib.hid b9
    have HUr := Lib.hid hu
    have HK := Lib.hid hk
    have HO := Lib.hid hown
    have HS := Lib.hid hS
    have HOK := Lib.hid hok
    clear bl b8 b9 hu hk hown hS hok
    obtain ⟨A, cA, rfl⟩ := own_slice HO.out
    by_cases hk0 : 0 < k
    · have c0 : wr.cell? ⟨w2.heap.size, 0, none⟩ = some (.slice A hs.length cA) := BL.out.cell 0
      have hl1 := BL.out.size
      have hi := HI.out
      go_wp2_with fail
      go_region_law (first
            | (refine step_append_lies _ (by rfl) _ _ _ (by rfl) (w2.heap.size + 1) 59 i0 _ 3 40 Tryz.underlying48 HI.out HZ0.out HZ1.out HZ2.out rfl (by omega) (.slice A hs.length cA) hs.length (hdCells hs svs) (by rfl) (HO5.out.alloc _) ⟨w5.heap.size, 0, none⟩ 1 1 [.int .i64 h.low, .int .i64 h.high, sv] (by rfl) (by rfl) (World.news_of_block (cs := #[.int .i64 h.low, .int .i64 h.high, sv]) (t := 59) (fr := (0, 0)) (heap_alloc_new w5 _)) (one3 HV5.out.1.one) (by omega) (by unfold maxLen; omega) (by omega) (by simp; omega) _ rfl ?_; intro gg cap w7 hown7 hgrow hat hlt; have hb7 := (BL5.out.alloc _).grown hgrow (own_ne HO5.out BL5.out (by decide)); have c7 : w7.cell? ⟨w2.heap.size, 0, none⟩ = some (.slice A hs.length cA) := hb7.cell 0; have f7 := hb7.free 0; have z7 := hb7.size; have BL7 := Lib.hid hb7; have HO7 := Lib.hid hown7; have HG7 := Lib.hid hgrow; clear hb7 hown7 hgrow)
            | (go_simp; go_at_call 49; refine (handOf_any _ _ _ s1 s8 (by exact HUr.out)).mono ?_; rintro e w5 ⟨h, sv, rfl, hh1, hh2, hh3, hv5, hu5, hk5⟩; have BL5 := Lib.hid (Blok.kg (a := World.drew wr) BL.out hk5 (HUr.out.ne BL.out (by decide))); have HO5 := Lib.hid (own_kg (w := World.drew wr) HO.out (show UrnAt (World.drew wr) g from HUr.out) (by decide) hk5); have hz5 := BL5.out.size; have hz6 : w2.heap.size + 1 ≤ w5.heap.size := hz5; have c5 : w5.cell? ⟨w2.heap.size, 0, none⟩ = some (.slice A hs.length cA) := BL5.out.cell 0; have HU5 := Lib.hid hu5; have HK5 := Lib.hid hk5; have HV5 := Lib.hid hv5; have HH1 := Lib.hid hh1; have HH2 := Lib.hid hh2; have HH3 := Lib.hid hh3; clear hu5 hk5 hv5 hh1 hh2 hh3))
      all_goals
        go_wp2
        go_roundw
        case rel => exact ⟨k - 1, by go_num, HandsI.step (Blok.kg (a := World.drew wr) B8.out HK5.out (HUr.out.ne B8.out (by decide))) (Blok.kg (a := World.drew wr) B9.out HK5.out (HUr.out.ne B9.out (by decide))) BL7.out HU5.out (HK.out.drew.trans HK5.out) HG7.out HO5.out HO7.out (HdN.kg (w := World.drew wr) HS.out (show UrnAt (World.drew wr) g from HUr.out) HK5.out) (HV5.out.mono HK.out.size) HOK.out HH1.out HH3.out HH2.out hlen (by omega) (by omega) hk0 (by omega) (by omega)⟩
        case measure => simp [intOf]; omega
    · obtain rfl : k = 0 := by omega
      have hn1 : 1 ≤ hs.length := by omega
      have HHB := Lib.hid (HandsN.of_own HO.out rfl hn1 HS.out (by omega))
      have c0 : wr.cell? ⟨w2.heap.size, 0, none⟩ = some (.slice A hs.length cA) := BL.out.cell 0
      have hl1 := BL.out.size
      clear HI HZ0 HZ1 HZ2 HO HS hlen1 hk0
      go_wp2_with fail
      refine (up_any _ _ _ (by omega) HUr.out).mono ?_
      rintro e w4 ⟨hand, rfl, d1, hu4, hk4⟩
      have d2 : hand < hs.length := by omega
      have HB4 := Lib.hid (HHB.out.kg HUr.out hk4)
      have BL4 := Lib.hid (BL.out.kg hk4 (HUr.out.ne BL.out (by decide)))
      have B84 := Lib.hid (B8.out.kg hk4 (HUr.out.ne B8.out (by decide)))
      have B94 := Lib.hid (B9.out.kg hk4 (HUr.out.ne B9.out (by decide)))
      have HK4 := Lib.hid (HK.out.trans hk4)
      have HU4 := Lib.hid hu4
      have hl4 := hk4.size
      clear hu4 hk4 d1 HUr HK HHB BL B8 B9 c0
      obtain ⟨hb, hc, he, hat⟩ := HB4.out.toB.at_
      injection he with he1 he2 he3
      subst he1
      obtain ⟨H, hH⟩ : ∃ H, hs[hand]? = some H := ⟨_, List.getElem?_eq_getElem d2⟩
      obtain ⟨sv, hsv, -, -, hcs⟩ := hat hand H hH
      have c0 : w4.cell? ⟨w2.heap.size, 0, none⟩ = some (.slice (some ⟨hb, 0, none⟩) hs.length cA) := BL4.out.cell 0
      have HSV := Lib.hid hsv
      have HH := Lib.hid hH
      have hl5 := World.block_lt_of_cell? w4 _ hcs
      simp only at hl5
      have hl6 : w2.heap.size < w4.heap.size := by omega
      clear hat he2 he3 hsv hH
      go_wp2_with fail
      refine (from_any _ _ _ _ (by omega) (by omega) (by omega) (by omega) (HU4.out.alloc _)).mono ?_
      rintro e w5 ⟨m, rfl, m1, m2, hu5, hk5⟩
      obtain ⟨m, rfl⟩ := Int.eq_ofNat_of_zero_le (show 0 ≤ m by omega)
      have hz5 : w4.heap.size < w5.heap.size := by have := hk5.size; simp at this; omega
      have hsv5 : ShapesB w5 sv H.shapes := (HSV.out.below ((Below.refl _ _).alloc (Nat.le_refl _) _)).kg (HU4.out.alloc _) hk5
      have hst : LineI g w w5 w2.heap.size w4.heap.size w.heap.size (w.heap.size + 1) (w4.heap.size + 1) worn scr hand hs (.slice (some ⟨hb, 0, none⟩) hs.length cA) H.shapes [] [] [] := by
        have bl := BL4.out.alloc (.cells (cutCells hand ⟨#[]⟩ (.slice none 0 0)).toArray 53)
        have b8 := B84.out.alloc (.cells (cutCells hand ⟨#[]⟩ (.slice none 0 0)).toArray 53)
        have b9 := B94.out.alloc (.cells (cutCells hand ⟨#[]⟩ (.slice none 0 0)).toArray 53)
        have bc := Blok.new w4 53 (cutCells hand ⟨#[]⟩ (.slice none 0 0))
        have u4 := HU4.out.alloc (.cells (cutCells hand ⟨#[]⟩ (.slice none 0 0)).toArray 53)
        exact ⟨_, _, _, [], bl.kg hk5 (u4.ne bl (by decide)), bc.kg hk5 (u4.ne bc (by decide)), b8.kg hk5 (u4.ne b8 (by decide)), b9.kg hk5 (u4.ne b9 (by decide)), (HB4.out.below ((Below.refl _ _).alloc (Nat.le_refl _) _)).kg u4 hk5, hu5, (HK4.out.alloc _).trans hk5, World.ownsRow_nil _ _ _ _, ⟨⟨rfl, by simp⟩, by simp⟩, World.ownsRow_nil _ _ _ _, rfl, SqOk.nil _ _ _, by omega⟩
      obtain ⟨sb0, sc0, cur0, rfl, -⟩ := HSV.out
      have HST := Lib.hid hst
      have HSV5 := Lib.hid hsv5
      clear hst hsv5 hu5 hk5 HSV hcs hl1 hl4 hl5 c0 HB4 BL4 B84 B94 HK4 HU4
      have hS8 : 1 ≤ H.shapes.length ∧ H.shapes.length ≤ 8 := by
        have := (HOK.out H (List.mem_of_getElem? HH.out)).1
        exact ⟨this.2.2.2.1, this.2.2.2.2.1⟩
      obtain ⟨hS1, hS8⟩ := hS8
      have HS5 := Lib.hid (fun s hs => (HOK.out H (List.mem_of_getElem? HH.out)).2.2 s hs)
      obtain ⟨S, hSe⟩ : ∃ S, S = H.shapes := ⟨_, rfl⟩
      rw [← hSe] at hS1 hS8 HS5 HST HSV5
      rw [← hSe]
      have HSE := Lib.hid hSe
      clear hSe
      go_wp2
      go_loopw [14, 15] (fun mk i wr => ∃ (k : Nat) (qs : List (List Light)) (ks vs : List Nat), i = .int .i64 k ∧ mk = .int .i64 (marksTo S ks vs qs.length) ∧ LineI g w wr w2.heap.size w4.heap.size w.heap.size (w.heap.size + 1) (w4.heap.size + 1) worn scr hand hs (.slice (some ⟨hb, 0, none⟩) hs.length cA) S qs ks vs ∧ ShapesB wr (.slice (some ⟨sb0, 0, none⟩) S.length sc0) S ∧ qs.length + k ≤ qm ∧ 1 ≤ qs.length + k) (fun _ i _ => (intOf i).toNat)
      case atStart => exact ⟨m, [], [], [], rfl, rfl, HST.out, HSV5.out, by simp; omega, by simp; omega⟩
      case round =>
        clear HST HSV5
        obtain ⟨k, qs, ks, vs, rfl, rfl, hI, hsv, hq1, hq2⟩ := hrel
        by_cases hk0 : 0 < k
        · have hu := hI
          obtain ⟨-, -, -, -, -, -, -, -, -, hu, -⟩ := hu
          have HI := Lib.hid hI
          have HSV := Lib.hid hsv
          clear hI hsv
          go_wp2_with fail
          refine (up_any _ _ _ (by omega) hu).mono ?_
          rintro e w6 ⟨q, rfl, p1, hu6, hk6⟩
          have q2 : q < S.length := by omega
          obtain ⟨-, hsb, hat⟩ := (HSV.out.kg hu hk6).at_
          obtain ⟨s, hs⟩ : ∃ s, S[q]? = some s := ⟨_, List.getElem?_eq_getElem q2⟩
          obtain ⟨cs1, cs2⟩ := hat q s hs
          have hs32 := HS5.out s (List.mem_of_getElem? hs)
          have HSQ := Lib.hid hs
          have HI6 := Lib.hid (HI.out.kg hu6 hk6)
          have HSV6 := Lib.hid (HSV.out.kg hu hk6)
          clear hat hs hu hk6 p1 HI HSV
          go_wp2_with fail
          have HI1 := Lib.hid (HI6.out.alloc (.cells #[.int .u8 s.letter, .int .i64 s.strokes] 98))
          have HB1 := Lib.hid (Blok.new w6 98 [.int .u8 s.letter, .int .i64 s.strokes])
          have HV1 := Lib.hid (HSV6.out.below ((Below.refl _ _).alloc (Nat.le_refl _) (.cells #[.int .u8 s.letter, .int .i64 s.strokes] 98)))
          obtain ⟨W1, hW1⟩ : ∃ W1, W1 = w6.alloc (.cells #[.int .u8 s.letter, .int .i64 s.strokes] 98) := ⟨_, rfl⟩
          have HI1 := Lib.hid (show LineI _ _ W1 _ _ _ _ _ _ _ _ _ _ _ _ _ _ from hW1 ▸ HI1.out)
          have HB1 := Lib.hid (show Blok W1 w6.heap.size _ _ from hW1 ▸ HB1.out)
          have HV1 := Lib.hid (show ShapesB W1 _ _ from hW1 ▸ HV1.out)
          rw [show w6.alloc (.cells #[.int .u8 s.letter, .int .i64 s.strokes] 98) = W1 from hW1.symm]
          clear hW1 HI6 HSV6 hu6
          have hu1 : UrnAt W1 g := by
            have h := HI1.out
            obtain ⟨-, -, -, -, -, -, -, -, -, h, -⟩ := h
            exact h
          have e1 : W1.cell? ⟨w6.heap.size, 1, none⟩ = some (.int .i64 s.strokes) := HB1.out.cell 1
          have e2 : W1.cell? ⟨w2.heap.size, 1, none⟩ = some (.int .i64 worn) := by
            have h := HI1.out
            obtain ⟨_, _, _, _, h, -⟩ := h
            exact h.cell 1
          have e3 : W1.cell? ⟨w2.heap.size, 2, none⟩ = some (.int .i64 scr) := by
            have h := HI1.out
            obtain ⟨_, _, _, _, h, -⟩ := h
            exact h.cell 2
          have n1 : w6.heap.size ≠ g := hu1.ne HB1.out (by decide)
          have n2 : w2.heap.size ≠ g := by
            have h := HI1.out
            obtain ⟨_, _, _, _, h, -⟩ := h
            exact hu1.ne h (by decide)
          have N1 := Lib.hid n1
          have N2 := Lib.hid n2
          clear n1 n2
          have v1 : IntKind.i64.wrap ((worn : Int) + 1) = (worn : Int) + 1 := IntWalk.i64_in _ (by omega)
          have v2 : IntKind.i64.wrap ((scr : Int) + 1) = (scr : Int) + 1 := IntWalk.i64_in _ (by omega)
          go_region_held3 (fun w' => w'.cell? ⟨w6.heap.size, 1, none⟩ = some (.int .i64 s.strokes) ∧ w'.cell? ⟨w2.heap.size, 1, none⟩ = some (.int .i64 worn) ∧ w'.cell? ⟨w2.heap.size, 2, none⟩ = some (.int .i64 scr))
            (first
              | go_keep
              | (go_split_ands; exact ⟨hk8.cell (by assumption) N1.out, hk8.cell (by assumption) N2.out, hk8.cell (by assumption) N2.out⟩)
              | (go_split_ands; exact ⟨hk7.cell (by assumption) N1.out, hk7.cell (by assumption) N2.out, hk7.cell (by assumption) N2.out⟩))
            (first
              | (go_at_call 12; refine (up_any _ _ _ (by omega) hu7).mono ?_; rintro e w8 ⟨b, rfl, hb', hu8, hk8⟩)
              | (go_at_call 12; refine (up_any _ _ _ (by omega) (by exact hu1)).mono ?_; rintro e w7 ⟨a, rfl, ha, hu7, hk7⟩))
          have ha' : a ≤ worn := by omega
          have hb'' : b ≤ scr := by omega
          have HK8 := Lib.hid (((Kg.refl g W1).drew.trans hk7).trans hk8)
          clear v1 v2 e1 e2 e3 ha hb' hu1 hu7 hk7 hk8
          obtain ⟨M0, hM0⟩ : ∃ M0, M0 = marksTo S ks vs qs.length := ⟨_, rfl⟩
          rw [← hM0]
          have HM0 := Lib.hid hM0
          have hM1 : M0 ≤ 32 := by
            have h := HI1.out
            obtain ⟨-, -, -, -, -, -, -, -, -, -, -, -, -, -, -, h, -⟩ := h
            have h1 := marksTo_le h qs.length (Nat.le_refl _)
            have h2 : (worn + scr) * qs.length ≤ 4 * 8 := Nat.mul_le_mul (by omega) (by omega)
            omega
          clear hM0
          go_wp2
          go_loopw [14, 17, 18, 19, 20] (fun mk vv av bv i wr => ∃ k3 M v a b : Nat, k3 ≤ 5 ∧ i = .int .i64 k3 ∧ vv = .int .i64 v ∧ av = .int .i64 a ∧ bv = .int .i64 b ∧ VisAt s.strokes worn scr k3 v a b ∧ mk = .int .i64 M ∧ M = M0 + (pc (diff s.strokes v) + pc (diff v s.strokes)) ∧ UrnAt wr g ∧ Kg g W1 wr) (fun _ _ _ _ i _ => 5 - (intOf i).toNat)
          case atStart =>
            have hp := pc_self ⟨s.strokes, hs32⟩
            simp only at hp
            exact ⟨0, M0, s.strokes, a, b, by omega, rfl, rfl, rfl, rfl, VisAt.start hs32 ha' hb'', rfl, by omega, hu8, HK8.out⟩
          case round =>
            clear hu8 HK8 ha' hb''
            obtain ⟨k3, M, v, a, b, hk3, rfl, rfl, rfl, rfl, hv, rfl, hM, hu, hk⟩ := hrel
            have HV := Lib.hid hv
            have HM := Lib.hid hM
            have HU' := Lib.hid hu
            have HK' := Lib.hid hk
            have e1 : wr.cell? ⟨w6.heap.size, 1, none⟩ = some (.int .i64 s.strokes) := hk.cell (HB1.out.cell 1) N1.out
            have hv32 : v < 32 := hv.2.1
            have hM40 : M ≤ 40 := by have := hv.2.2.2.1; have := hv.2.2.2.2; omega
            have ha : a ≤ 2 := by have := hv.2.2.2.1; omega
            have hb : b ≤ 2 := by have := hv.2.2.2.2; omega
            clear hv hM hu hk
            by_cases h5 : k3 < 5
            · go_wp2_with fail
              · refine (odds_any _ _ _ _ (by omega) HU'.out).mono ?_
                rintro e w9 ⟨bo, rfl, hu9, hk9⟩
                have HU9 := Lib.hid hu9
                have HK9 := Lib.hid (HK'.out.trans hk9)
                clear hu9 hk9
                cases bo
                · go_wp2
                  go_roundw
                  case rel => exact ⟨k3 + 1, M, v, a, b, by omega, by go_num, rfl, rfl, rfl, HV.out.stay h5, rfl, HM.out, HU9.out, HK9.out⟩
                  case measure => simp [intOf]; omega
                · have hbit := bit_yes hs32 (by assumption)
                  have ha0 : 0 < a := by assumption
                  have HW := Lib.hid (HV.out.wear h5 hbit ha0)
                  clear hbit
                  go_wp2
                  go_roundw
                  case rel => exact ⟨k3 + 1, M + 1, v - 2 ^ k3, a - 1, b, by omega, by go_num, val_i64 (wear_num v k3 hv32 HW.out.1), by go_num, rfl, HW.out.2.1, by go_num, by have := HM.out; have := HW.out.2.2; omega, HU9.out, HK9.out⟩
                  case measure => simp [intOf]; omega
              · exact ⟨⟨k3 + 1, M, v, a, b, by omega, by go_num, rfl, rfl, rfl, HV.out.stay h5, rfl, HM.out, HU'.out, HK'.out⟩, by simp [intOf]; omega⟩
              · refine (odds_any _ _ _ _ (by omega) HU'.out).mono ?_
                rintro e w9 ⟨bo, rfl, hu9, hk9⟩
                have HU9 := Lib.hid hu9
                have HK9 := Lib.hid (HK'.out.trans hk9)
                clear hu9 hk9
                cases bo
                · go_wp2
                  go_roundw
                  case rel => exact ⟨k3 + 1, M, v, a, b, by omega, by go_num, rfl, rfl, rfl, HV.out.stay h5, rfl, HM.out, HU9.out, HK9.out⟩
                  case measure => simp [intOf]; omega
                · have hbit := bit_no hs32 (by assumption)
                  have ha0 : 0 < b := by assumption
                  have HW := Lib.hid (HV.out.scratch h5 hbit ha0)
                  have hnb : (bits .and .i64 ((s.strokes : Int) / 2 ^ k3) 1 == 1) = false := beq_eq_false_iff_ne.2 (by assumption)
                  clear hbit
                  go_wp2
                  go_roundw
                  case rel => exact ⟨k3 + 1, M + 1, v + 2 ^ k3, a, b - 1, by omega, by go_num, val_i64 (scratch_num v k3 h5 hv32), rfl, by go_num, HW.out.2.1, by go_num, by have := HM.out; have := HW.out.2.2; omega, HU9.out, HK9.out⟩
                  case measure => simp [intOf]; omega
              · exact ⟨⟨k3 + 1, M, v, a, b, by omega, by go_num, rfl, rfl, rfl, HV.out.stay h5, rfl, HM.out, HU'.out, HK'.out⟩, by simp [intOf]; omega⟩
            · obtain rfl : k3 = 5 := by omega
              have HVF := Lib.hid (show pc (diff s.strokes v) ≤ worn ∧ pc (diff v s.strokes) ≤ scr from by have := HV.out.2.2.2.1; have := HV.out.2.2.2.2; omega)
              have hu' := HU'.out
              clear HV e1 h5 hk3
              go_wp2_with fail
              refine (any_any g wr.heap.size 5 5 3 [0, 1, 1, 2, 3] _ rfl (by decide) (by decide) (Blok.new wr 3 [.int .i64 0, .int .i64 1, .int .i64 1, .int .i64 2, .int .i64 3]) (by have := hu'.size; omega) (hu'.alloc _)).mono ?_
              rintro e w9 ⟨cnt, rfl, hcnt, hu9, hk9⟩
              have hc0 : 0 ≤ cnt ∧ cnt ≤ 3 := by simp at hcnt; omega
              obtain ⟨cnt, rfl⟩ := Int.eq_ofNat_of_zero_le hc0.1
              have hc3 : (cnt : Int) ≤ 3 := hc0.2
              have HU9 := Lib.hid hu9
              have HK9 := Lib.hid ((HK'.out.alloc _).trans hk9)
              clear hu' hcnt hc0 hu9 hk9 HU' HK'
              obtain ⟨i1, ii, iz0, iz1, iz2⟩ := info_parts info_light
              have II := Lib.hid ii
              have IZ0 := Lib.hid iz0
              have IZ1 := Lib.hid iz1
              have IZ2 := Lib.hid iz2
              have hW9 : W1.heap.size ≤ w9.heap.size := HK9.out.size
              clear ii iz0 iz1 iz2
              go_wp2
              go_loopw [22, 23] (fun lv i wx => ∃ (k4 : Nat) (ql : List Light), i = .int .i64 k4 ∧ ql.length + k4 ≤ 3 ∧ LightsI g v w9.heap.size W1 wx lv ql) (fun _ i _ => (intOf i).toNat)
              case atStart => exact ⟨cnt, [], rfl, by simp; omega, World.ownsRow_nil _ _ _ _, by simp, HU9.out, HK9.out, Nat.le_refl _⟩
              case round =>
                clear HU9 HK9
                obtain ⟨k4, ql, rfl, hql, hLI⟩ := hrel
                by_cases hk4 : 0 < k4
                · have HLI := Lib.hid hLI
                  have hu := hLI.2.2.1
                  have hbs := hLI.2.2.2.2
                  clear hLI
                  go_wp2_with fail
                  refine (up_any _ _ _ (by omega) hu).mono ?_
                  rintro e w10 ⟨r, rfl, r1, hu10, hk10⟩
                  have r32 : r < 32 := by omega
                  have HL10 := Lib.hid (show LightsI g v w9.heap.size W1 w10 _ ql from ⟨own_kg HLI.out.1 hu (by decide) hk10, HLI.out.2.1, hu10, HLI.out.2.2.2.1.trans hk10, Nat.le_trans hbs hk10.size⟩)
                  have hbs10 := hk10.size
                  clear hu r1 hk10 HLI
                  go_wp2_with fail
                  refine (any_any g w10.heap.size 3 3 3 [31, 15, r] _ rfl (by simp) (by simp) (Blok.new w10 3 [.int .i64 31, .int .i64 15, .int .i64 r]) (by have := hu10.size; omega) (hu10.alloc _)).mono ?_
                  rintro e w11 ⟨x, rfl, hx, hu11, hk11⟩
                  have hx0 : 0 ≤ x ∧ x < 32 := by simp at hx; omega
                  obtain ⟨x, rfl⟩ := Int.eq_ofNat_of_zero_le hx0.1
                  have hx32 : x < 32 := by have := hx0.2; omega
                  have HL11 := Lib.hid (show LightsI g v w9.heap.size W1 w11 _ ql from ⟨own_kg (HL10.out.1.alloc _) (hu10.alloc _) (by decide) hk11, HL10.out.2.1, hu11, (HL10.out.2.2.2.1.alloc _).trans hk11, by have := hk11.size; have := HL10.out.2.2.2.2; simp at *; omega⟩)
                  have hbs11 : w9.heap.size ≤ w11.heap.size := HL11.out.2.2.2.2
                  clear hu10 hx hx0 hk11 hu11 HL10 hbs hbs10
                  obtain ⟨AL, cL, rfl⟩ := own_slice HL11.out.1
                  have eand := and_lights v x hv32
                  go_wp2_with (at_builtin; refine wpList_append_lies _ rfl _ _ 99 rfl w9.heap.size 101 i1 _ 2 16 Tryz.underlying99 II.out IZ0.out IZ1.out IZ2.out rfl (by decide) (.slice AL ql.length cL) ql.length (ltCells ql) (by rfl) (HL11.out.1.alloc _) ⟨w11.heap.size, 0, none⟩ 1 1 [.int .i64 x, .int .i64 ((v &&& x : Nat) : Int)] (by rfl) (by rfl) (World.news_of_block (cs := #[.int .i64 x, .int .i64 ((v &&& x : Nat) : Int)]) (t := 101) (fr := (0, 0)) (heap_alloc_new w11 _)) (by simp [Value.oneCell']) (by omega) (by unfold maxLen; omega) (by omega) (by simp; omega) _ rfl ?_; intro gg cap w12 hown12 hgrow _ _; have HO12 := Lib.hid hown12; have HG12 := Lib.hid hgrow; clear hown12 hgrow)
                  clear eand
                  go_roundw
                  case rel => exact ⟨k4 - 1, ql ++ [⟨x, v &&& x⟩], by go_num, by rw [List.length_append]; simp; omega, LightsI.step HL11.out hx32 hW9 HG12.out HO12.out⟩
                  case measure => simp [intOf]; omega
                · obtain ⟨ho4, hlv, hu4, hk4', hb4⟩ := hLI
                  obtain ⟨Al, cl, rfl⟩ := own_slice ho4
                  have hI4 := HI1.out.kg hu4 hk4'
                  have hsx := HB1.out.kg hk4' N1.out
                  have HSX := Lib.hid hsx
                  have HV4 := Lib.hid (HV1.out.kg (show UrnAt W1 g by have h := HI1.out; obtain ⟨_, _, _, _, -, -, -, -, -, h, -⟩ := h; exact h) hk4')
                  have HQL := Lib.hid (LightsN.of_own (B := w.heap.size) ho4 (Nat.le_trans (show w.heap.size ≤ W1.heap.size by have h := HI1.out; obtain ⟨_, _, _, _, -, -, -, -, -, -, h, -⟩ := h; exact h.size) hW9))
                  have HLV := Lib.hid hlv
                  obtain ⟨vsq, vv, lts, lvs, b1, b2, b3, b4, hh, hu, hk0, ho1, hl, ho2, hle, hp, hb⟩ := hI4
                  obtain ⟨Av, cv, rfl⟩ := own_slice ho2
                  obtain ⟨Aq, cq, rfl⟩ := own_slice ho1
                  have c1 : wr.cell? ⟨w4.heap.size, 1, none⟩ = some (.string lts) := b2.cell 1
                  have c2 : wr.cell? ⟨w4.heap.size, 2, none⟩ = some (.slice Av vs.length cv) := b2.cell 2
                  have c3 : wr.cell? ⟨w6.heap.size, 0, none⟩ = some (.int .u8 s.letter) := hsx.cell 0
                  have B1 := Lib.hid b1
                  have B2 := Lib.hid b2
                  have B3 := Lib.hid b3
                  have B4 := Lib.hid b4
                  have HHb := Lib.hid hh
                  have HUb := Lib.hid hu
                  have HK0 := Lib.hid hk0
                  have HO1 := Lib.hid ho1
                  have HL1 := Lib.hid hl
                  have HO2 := Lib.hid ho2
                  have HLE := Lib.hid hle
                  have HP := Lib.hid hp
                  clear HI1 HB1 HV1 ho4 hlv hu4 hk4' hsx b1 b2 b3 b4 hh hu hk0 ho1 hl ho2 hle hp
                  go_wp2
                  have HNC := Lib.hid (own_ne_row HO2.out B2.out (by decide))
                  have HNS := Lib.hid (own_ne_row HO2.out HSX.out (by decide))
                  have HNL := Lib.hid (fun r e => (HO2.out.lt r e).2)
                  obtain ⟨i2, ii2, jz0, jz1, jz2⟩ := info_parts info_int
                  have II2 := Lib.hid ii2
                  have JZ0 := Lib.hid jz0
                  have JZ1 := Lib.hid jz1
                  have JZ2 := Lib.hid jz2
                  have hbw : w4.heap.size + 1 ≤ wr.heap.size := hb
                  have hvl : vs.length ≤ 8 := by have := HP.out.2.1; omega
                  have HCAT := Lib.hid (cat_short HLE.out HP.out s.letter (show qs.length ≤ 8 by omega))
                  obtain ⟨i3, ki, kz0, kz1, kz2⟩ := info_parts info_lights
                  have KI := Lib.hid ki
                  have KZ0 := Lib.hid kz0
                  have KZ1 := Lib.hid kz1
                  have KZ2 := Lib.hid kz2
                  clear ki kz0 kz1 kz2
                  clear ii2 jz0 jz1 jz2 hb
                  refine wp_region_t (RegCells w4.heap.size w6.heap.size lts (.slice Av vs.length cv) s.letter) (fun j => j == 9 || (j == 12 || (j == 13 || (j == 14 || j == 15)))) (by kernel_rfl) ?_
                  refine wpAnyT_world (RegF wr w4.heap.size w6.heap.size (w4.heap.size + 1) lts (.slice Av vs.length cv) s.letter (.slice Av vs.length cv) vs.length (vs.map fun (x : Nat) => Value.int .i64 x)) ⟨⟨c1, c2, c3⟩, ⟨rfl, rfl, rfl, Nat.le_refl _, fun _ _ _ => rfl⟩, HO2.out⟩ ?_
                  clear c1 c2 c3
                  intro W0 hF
                  refine wpAnyT_free (i := 9) (v := ?_) (by simp only [List.getElem?_toArray, List.getElem?_cons_zero, List.getElem?_cons_succ]; rfl) (by kernel_rfl) (by kernel_rfl) (by kernel_rfl) (by rfl) (by exact fun _ _ _ h => h) (Or.inl ⟨by rfl, ?hy1⟩) ?rest1
                  case hy1 => (intro W _; go_simp; try with_reducible rfl)
                  try simp only [Act.put, List.setIfInBounds_toArray, List.set_cons_zero, List.set_cons_succ]
                  refine wpAnyT_take (i := 0) (v := ?_) (by simp only [List.getElem?_toArray, List.getElem?_cons_zero]; rfl) (by kernel_rfl) (by kernel_rfl) (by kernel_rfl) (by kernel_rfl) (by exact fun _ _ _ h => h) (Or.inl ⟨by rfl, ?hy2⟩) hF.1 ?rest2
                  case hy2 => (intro W hSW; obtain ⟨x1, x2, x3⟩ := hSW; go_simp; try with_reducible rfl)
                  try simp only [Act.put, List.setIfInBounds_toArray, List.set_cons_zero, List.set_cons_succ]
                  refine wpAnyT_take (i := 1) (v := ?_) (by simp only [List.getElem?_toArray, List.getElem?_cons_zero, List.getElem?_cons_succ]; rfl) (by kernel_rfl) (by kernel_rfl) (by kernel_rfl) (by kernel_rfl) (by exact fun _ _ _ h => h) (Or.inl ⟨by rfl, ?hy3⟩) hF.1 ?rest3
                  case hy3 => (intro W hSW; obtain ⟨x1, x2, x3⟩ := hSW; go_simp; try with_reducible rfl)
                  try simp only [Act.put, List.setIfInBounds_toArray, List.set_cons_zero, List.set_cons_succ]
                  refine wpAnyT_take (i := 2) (v := ?_) (by simp only [List.getElem?_toArray, List.getElem?_cons_zero, List.getElem?_cons_succ]; rfl) (by kernel_rfl) (by kernel_rfl) (by kernel_rfl) (by kernel_rfl) (by exact fun _ _ _ h => h) (Or.inl ⟨by rfl, ?hy4⟩) hF.1 ?rest4
                  case hy4 => (intro W hSW; obtain ⟨x1, x2, x3⟩ := hSW; go_simp; try with_reducible rfl)
                  try simp only [Act.put, List.setIfInBounds_toArray, List.set_cons_zero, List.set_cons_succ]
                  refine wpAnyT_take (i := 3) (v := ?_) (by simp only [List.getElem?_toArray, List.getElem?_cons_zero, List.getElem?_cons_succ]; rfl) (by kernel_rfl) (by kernel_rfl) (by kernel_rfl) (by kernel_rfl) (by exact fun _ _ _ h => h) (Or.inl ⟨by rfl, ?hy5⟩) hF.1 ?rest5
                  case hy5 => (intro W hSW; obtain ⟨x1, x2, x3⟩ := hSW; go_simp; try with_reducible rfl)
                  try simp only [Act.put, List.setIfInBounds_toArray, List.set_cons_zero, List.set_cons_succ]
                  refine wpAnyT_take (i := 7) (v := ?_) (by simp only [List.getElem?_toArray, List.getElem?_cons_zero, List.getElem?_cons_succ]; rfl) (by kernel_rfl) (by kernel_rfl) (by kernel_rfl) (by kernel_rfl) (by exact fun _ _ _ h => h) (Or.inl ⟨by rfl, ?hy6⟩) hF.1 ?rest6
                  case hy6 => (intro W hSW; obtain ⟨x1, x2, x3⟩ := hSW; go_simp; try with_reducible rfl)
                  try simp only [Act.put, List.setIfInBounds_toArray, List.set_cons_zero, List.set_cons_succ]
                  refine wpAnyT_take (i := 8) (v := ?_) (by simp only [List.getElem?_toArray, List.getElem?_cons_zero, List.getElem?_cons_succ]; rfl) (by kernel_rfl) (by kernel_rfl) (by kernel_rfl) (by kernel_rfl) (by exact fun _ _ _ h => h) (Or.inl ⟨by rfl, ?hy7⟩) hF.1 ?rest7
                  case hy7 => (intro W hSW; obtain ⟨x1, x2, x3⟩ := hSW; go_simp; try with_reducible rfl)
                  try simp only [Act.put, List.setIfInBounds_toArray, List.set_cons_zero, List.set_cons_succ]
                  refine wpAnyT_ready (rs := [4, 10]) (by kernel_rfl) (by simp) ?_
                  refine AllReadyT.cons (by simp only [List.getElem?_toArray, List.getElem?_cons_zero, List.getElem?_cons_succ]; rfl) (fun K hK => ?_) ?_
                  · go_simp
                    refine hK.out _ _ (fun _ => hF.1.alloc _) ?_
                    clear hK K
                    try simp only [Act.put, List.setIfInBounds_toArray, List.set_cons_zero, List.set_cons_succ]
                    refine wpAnyT_world (fun W' => RegF wr w4.heap.size w6.heap.size (w4.heap.size + 1) lts (.slice Av vs.length cv) s.letter (.slice Av vs.length cv) vs.length (vs.map fun (x : Nat) => Value.int .i64 x) W' ∧ NewCell wr W0.heap.size (.int .u8 s.letter) W') ⟨hF.alloc _, NewCell.new hF.2.1 _ _⟩ ?_
                    clear hF
                    rintro W1 ⟨hF, hA⟩
                    refine wpAnyT_ready (rs := [5, 10]) (by kernel_rfl) (by simp) ?_
                    refine AllReadyT.cons (by simp only [List.getElem?_toArray, List.getElem?_cons_zero, List.getElem?_cons_succ]; rfl) (fun K hK => ?_) ?_
                    · have hconv := run_convert_bytes_arg (P := Tryz.prog) W1 102 5 Tryz.underlying102 Tryz.underlying5 W0.heap.size 0 1 1 [(s.letter : Int)] rfl (byte_cell hA) 9 Tryz.underlying9
                      go_simp
                      refine hK.out _ _ (fun _ => hF.1) ?_
                      clear hK K hconv hA
                      try simp only [Act.put, List.setIfInBounds_toArray, List.set_cons_zero, List.set_cons_succ]
                      refine wpAnyT_take (i := 6) (v := ?_) (by simp only [List.getElem?_toArray, List.getElem?_cons_zero, List.getElem?_cons_succ]; rfl) (by kernel_rfl) (by kernel_rfl) (by kernel_rfl) (by kernel_rfl) (by exact fun _ _ _ h => h) (Or.inl ⟨by rfl, ?hy8⟩) hF.1 ?rest8
                      case hy8 => (intro W hSW; obtain ⟨x1, x2, x3⟩ := hSW; go_simp; rw [if_neg HCAT.out])
                      try simp only [Act.put, List.setIfInBounds_toArray, List.set_cons_zero, List.set_cons_succ]
                      refine wpAnyT_free (i := 12) (v := ?_) (by simp only [List.getElem?_toArray, List.getElem?_cons_zero, List.getElem?_cons_succ]; rfl) (by kernel_rfl) (by kernel_rfl) (by kernel_rfl) (by rfl) (by exact fun _ _ _ h => h) (Or.inl ⟨by rfl, ?hy9⟩) ?rest9
                      case hy9 => (intro W _; go_simp; try with_reducible rfl)
                      try simp only [Act.put, List.setIfInBounds_toArray, List.set_cons_zero, List.set_cons_succ]
                      refine wpAnyT_ready (rs := [10]) (by kernel_rfl) (by simp) ?_
                      refine AllReadyT.cons (by simp only [List.getElem?_toArray, List.getElem?_cons_zero, List.getElem?_cons_succ]; rfl) (fun K hK => ?_) ?_
                      · go_simp
                        refine hK.out _ _ (fun _ => hF.1.alloc _) ?_
                        clear hK K
                        try simp only [Act.put, List.setIfInBounds_toArray, List.set_cons_zero, List.set_cons_succ]
                        refine wpAnyT_world (fun W' => RegF wr w4.heap.size w6.heap.size (w4.heap.size + 1) lts (.slice Av vs.length cv) s.letter (.slice Av vs.length cv) vs.length (vs.map fun (x : Nat) => Value.int .i64 x) W' ∧ NewCell wr W1.heap.size (.int .i64 v) W') ⟨hF.alloc _, NewCell.new hF.2.1 _ _⟩ ?_
                        clear hF
                        rintro W2 ⟨hF, hB⟩
                        refine wpAnyT_ready (rs := [11]) (by kernel_rfl) (by simp) ?_
                        refine AllReadyT.cons (by simp only [List.getElem?_toArray, List.getElem?_cons_zero, List.getElem?_cons_succ]; rfl) (fun K hK => ?_) ?_
                        · refine step_append_lies _ (by rfl) _ _ _ (by rfl) (w4.heap.size + 1) 3 i2 _ 1 8 Tryz.underlying22 II2.out JZ0.out JZ1.out JZ2.out rfl (by omega) (.slice Av vs.length cv) vs.length (vs.map fun (x : Nat) => Value.int .i64 x) (by rfl) hF.2.2 ⟨W1.heap.size, 0, none⟩ 1 1 [.int .i64 v] (by rfl) (by rfl) hB.news (by simp [Value.oneCell']) (by omega) (by unfold maxLen; omega) (by omega) (Nat.le_trans hbw hF.2.1.size) _ rfl ?_
                          intro gg cap W3 hown hgrow _ _
                          try go_simp
                          refine hK.out _ _ (fun _ => hF.1.grown hgrow HNC.out HNS.out) ?_
                          clear hK K
                          try simp only [Act.put, List.setIfInBounds_toArray, List.set_cons_zero, List.set_cons_succ]
                          have hF' : RegF wr w4.heap.size w6.heap.size (w4.heap.size + 1) lts (.slice Av vs.length cv) s.letter (.slice (some ⟨gg, 0, none⟩) (vs.length + 1) cap) (vs.length + 1) ((vs.map fun (x : Nat) => Value.int .i64 x) ++ [.int .i64 v]) W3 := ⟨hF.1.grown hgrow HNC.out HNS.out, grown_trans hF.2.1 hgrow, hown⟩
                          clear hF hB hown hgrow
                          have hF := hF'
                          clear hF'
                          have hbc := B2.out.grown hF.2.1 HNC.out
                          have x1 : W3.cell? ⟨w4.heap.size, 1, none⟩ = some (.string lts) := hF.1.1
                          have f1 := hbc.free 1
                          refine wpAnyT_ready (rs := [13]) (by kernel_rfl) (by simp) ?_
                          refine AllReadyT.cons (by simp only [List.getElem?_toArray, List.getElem?_cons_zero, List.getElem?_cons_succ]; rfl) (fun K hK => ?_) AllReadyT.nil
                          go_simp
                          refine hK.out _ _ (fun h => by simp at h) ?_
                          clear hK K x1 f1
                          try simp only [Act.put, List.setIfInBounds_toArray, List.set_cons_zero, List.set_cons_succ]
                          have hbc2 := hbc.put 1 (.string (lts ++ strOfNums [(s.letter : Int)]))
                          have x2 : (W3.setCell ⟨w4.heap.size, 1, none⟩ (.string (lts ++ strOfNums [(s.letter : Int)]))).cell? ⟨w4.heap.size, 2, none⟩ = some (.slice Av vs.length cv) := hbc2.cell 2
                          have f2 := hbc2.free 2
                          refine wpAnyT_free (i := 14) (v := ?_) (by simp only [List.getElem?_toArray, List.getElem?_cons_zero, List.getElem?_cons_succ]; rfl) (by kernel_rfl) (by kernel_rfl) (by kernel_rfl) (by rfl) (by exact fun _ _ _ h => h) (Or.inl ⟨by rfl, ?hy10⟩) ?rest10
                          case hy10 => (intro W _; go_simp; try with_reducible rfl)
                          try simp only [Act.put, List.setIfInBounds_toArray, List.set_cons_zero, List.set_cons_succ]
                          refine wpAnyT_ready (rs := [15]) (by kernel_rfl) (by simp) ?_
                          refine AllReadyT.cons (by simp only [List.getElem?_toArray, List.getElem?_cons_zero, List.getElem?_cons_succ]; rfl) (fun K hK => ?_) AllReadyT.nil
                          go_simp
                          refine hK.out _ _ (fun h => by simp at h) ?_
                          clear hK K x2 f2
                          try simp only [Act.put, List.setIfInBounds_toArray, List.set_cons_zero, List.set_cons_succ]
                          refine wpAnyT_done (by kernel_rfl) ?_ _
                          have hmem := LineM.reg (lts' := lts ++ strOfNums [(s.letter : Int)]) ⟨B1.out, B2.out, B3.out, B4.out, HHb.out, HUb.out, HK0.out, HO1.out, HL1.out, HO2.out, HQL.out, hbw⟩ (show w.heap.size ≤ w4.heap.size + 1 by omega) (show w.heap.size ≤ w4.heap.size by omega) hF (by omega) (by omega)
                          have hs9 := ((HV4.out.grown hF.2.1 fun b cs hb => own_ne_row HO2.out hb (by decide)).far (p := ⟨w4.heap.size, 1, none⟩) hbc (by decide) (.string (lts ++ strOfNums [(s.letter : Int)]))).far (p := ⟨w4.heap.size, 2, none⟩) hbc2 (by decide) (.slice (some ⟨gg, 0, none⟩) (vs.length + 1) cap)
                          generalize (W3.setCell ⟨w4.heap.size, 1, none⟩ (.string (lts ++ strOfNums [(s.letter : Int)]))).setCell ⟨w4.heap.size, 2, none⟩ (.slice (some ⟨gg, 0, none⟩) (vs.length + 1) cap) = W9 at hmem hs9 ⊢
                          have HMem := Lib.hid hmem
                          have HS9 := Lib.hid hs9
                          clear hbc hbc2 hmem hs9 hF
                          have c4 : W9.cell? ⟨w2.heap.size, 4, none⟩ = some (.slice Aq qs.length cq) := HMem.out.1.cell 4
                          have z9 := HMem.out.1.size
                          have zb9 : w4.heap.size + 1 ≤ W9.heap.size := HMem.out.2.2.2.2.2.2.2.2.2.2.2
                          go_wp2_with (at_builtin; refine wpList_append_lies _ rfl _ _ 49 rfl (w4.heap.size + 1) 99 i3 _ 1 24 Tryz.underlying49 KI.out KZ0.out KZ1.out KZ2.out rfl (by decide) (.slice Aq qs.length cq) qs.length lvs (by rfl) (HMem.out.2.2.2.2.2.2.2.1.alloc _) ⟨W9.heap.size, 0, none⟩ 1 1 [.slice Al ql.length cl] (by rfl) (by rfl) (cell_one_new _ _ _) (by simp [Value.oneCell']) (by omega) (by unfold maxLen; omega) (by omega) (by simp; omega) _ rfl ?_; intro gg2 cap2 W10 hown10 hgrow10 _ _; have b10 := (HMem.out.1.alloc _).grown hgrow10 (own_ne_row HMem.out.2.2.2.2.2.2.2.1 HMem.out.1 (by decide)); have c10 : W10.cell? ⟨w2.heap.size, 4, none⟩ = some (.slice Aq qs.length cq) := b10.cell 4; have f10 := b10.free 4; have z10 := b10.size; have B10 := Lib.hid b10; have HO10 := Lib.hid hown10; have HG10 := Lib.hid hgrow10; clear b10 hown10 hgrow10)
                          go_roundw
                          case rel =>
                            refine ⟨k - 1, qs ++ [ql], ks ++ [q], vs ++ [v], by go_num, val_i64 ?_, LineM.put HMem.out (by omega) (by omega) HG10.out HO10.out (by omega) (by omega) (letters_snoc HLE.out HSQ.out _ (cat_letters _ _)) (HP.out.snoc HSQ.out ⟨hs32, hv32, HVF.out.1, HVF.out.2, fun x hx => ⟨(HLV.out x hx).2.1, (HLV.out x hx).2.2⟩⟩ (by omega) fun x hx => (HLV.out x hx).1), ?_, by rw [List.length_append]; simp; omega, by rw [List.length_append]; simp; omega⟩
                            · have e := marksTo_snoc S ks vs q v qs.length HP.out.1 HP.out.2.1
                              have e2 : markOf S q v = pc (diff s.strokes v) + pc (diff v s.strokes) := by unfold markOf; rw [show S.getD q ⟨0, 0⟩ = s by simp [List.getD, HSQ.out]]
                              rw [show (qs ++ [ql]).length = qs.length + 1 by simp, e, e2, HM.out, HM0.out]
                            · exact ((HS9.out.below ((Below.refl _ _).alloc (Nat.le_refl _) _)).grown HG10.out fun b cs hb => own_ne_row (HMem.out.2.2.2.2.2.2.2.1.alloc _) hb (by decide)).far (p := ⟨w2.heap.size, 4, none⟩) B10.out (by decide) _
                          case measure => simp [intOf]; omega
                        exact AllReadyT.nil
                      exact AllReadyT.nil
                    refine AllReadyT.cons (by simp only [List.getElem?_toArray, List.getElem?_cons_zero, List.getElem?_cons_succ]; rfl) (fun K hK => ?_) ?_
                    · go_simp
                      refine hK.out _ _ (fun _ => hF.1.alloc _) ?_
                      clear hK K
                      try simp only [Act.put, List.setIfInBounds_toArray, List.set_cons_zero, List.set_cons_succ]
                      refine wpAnyT_world (fun W' => RegF wr w4.heap.size w6.heap.size (w4.heap.size + 1) lts (.slice Av vs.length cv) s.letter (.slice Av vs.length cv) vs.length (vs.map fun (x : Nat) => Value.int .i64 x) W' ∧ NewCell wr W1.heap.size (.int .i64 v) W' ∧ NewCell wr W0.heap.size (.int .u8 s.letter) W') ⟨hF.alloc _, NewCell.new hF.2.1 _ _, hA.alloc _⟩ ?_
                      clear hF hA
                      rintro W2 ⟨hF, hB, hA⟩
                      refine wpAnyT_ready (rs := [5, 11]) (by kernel_rfl) (by simp) ?_
                      refine AllReadyT.cons (by simp only [List.getElem?_toArray, List.getElem?_cons_zero, List.getElem?_cons_succ]; rfl) (fun K hK => ?_) ?_
                      · have hconv := run_convert_bytes_arg (P := Tryz.prog) W2 102 5 Tryz.underlying102 Tryz.underlying5 W0.heap.size 0 1 1 [(s.letter : Int)] rfl (byte_cell hA) 9 Tryz.underlying9
                        go_simp
                        refine hK.out _ _ (fun _ => hF.1) ?_
                        clear hK K hconv hA
                        try simp only [Act.put, List.setIfInBounds_toArray, List.set_cons_zero, List.set_cons_succ]
                        refine wpAnyT_take (i := 6) (v := ?_) (by simp only [List.getElem?_toArray, List.getElem?_cons_zero, List.getElem?_cons_succ]; rfl) (by kernel_rfl) (by kernel_rfl) (by kernel_rfl) (by kernel_rfl) (by exact fun _ _ _ h => h) (Or.inl ⟨by rfl, ?hy11⟩) hF.1 ?rest11
                        case hy11 => (intro W hSW; obtain ⟨x1, x2, x3⟩ := hSW; go_simp; rw [if_neg HCAT.out])
                        try simp only [Act.put, List.setIfInBounds_toArray, List.set_cons_zero, List.set_cons_succ]
                        refine wpAnyT_free (i := 12) (v := ?_) (by simp only [List.getElem?_toArray, List.getElem?_cons_zero, List.getElem?_cons_succ]; rfl) (by kernel_rfl) (by kernel_rfl) (by kernel_rfl) (by rfl) (by exact fun _ _ _ h => h) (Or.inl ⟨by rfl, ?hy12⟩) ?rest12
                        case hy12 => (intro W _; go_simp; try with_reducible rfl)
                        try simp only [Act.put, List.setIfInBounds_toArray, List.set_cons_zero, List.set_cons_succ]
                        refine wpAnyT_ready (rs := [11]) (by kernel_rfl) (by simp) ?_
                        refine AllReadyT.cons (by simp only [List.getElem?_toArray, List.getElem?_cons_zero, List.getElem?_cons_succ]; rfl) (fun K hK => ?_) ?_
                        · refine step_append_lies _ (by rfl) _ _ _ (by rfl) (w4.heap.size + 1) 3 i2 _ 1 8 Tryz.underlying22 II2.out JZ0.out JZ1.out JZ2.out rfl (by omega) (.slice Av vs.length cv) vs.length (vs.map fun (x : Nat) => Value.int .i64 x) (by rfl) hF.2.2 ⟨W1.heap.size, 0, none⟩ 1 1 [.int .i64 v] (by rfl) (by rfl) hB.news (by simp [Value.oneCell']) (by omega) (by unfold maxLen; omega) (by omega) (Nat.le_trans hbw hF.2.1.size) _ rfl ?_
                          intro gg cap W3 hown hgrow _ _
                          try go_simp
                          refine hK.out _ _ (fun _ => hF.1.grown hgrow HNC.out HNS.out) ?_
                          clear hK K
                          try simp only [Act.put, List.setIfInBounds_toArray, List.set_cons_zero, List.set_cons_succ]
                          have hF' : RegF wr w4.heap.size w6.heap.size (w4.heap.size + 1) lts (.slice Av vs.length cv) s.letter (.slice (some ⟨gg, 0, none⟩) (vs.length + 1) cap) (vs.length + 1) ((vs.map fun (x : Nat) => Value.int .i64 x) ++ [.int .i64 v]) W3 := ⟨hF.1.grown hgrow HNC.out HNS.out, grown_trans hF.2.1 hgrow, hown⟩
                          clear hF hB hown hgrow
                          have hF := hF'
                          clear hF'
                          have hbc := B2.out.grown hF.2.1 HNC.out
                          have x1 : W3.cell? ⟨w4.heap.size, 1, none⟩ = some (.string lts) := hF.1.1
                          have f1 := hbc.free 1
                          refine wpAnyT_ready (rs := [13]) (by kernel_rfl) (by simp) ?_
                          refine AllReadyT.cons (by simp only [List.getElem?_toArray, List.getElem?_cons_zero, List.getElem?_cons_succ]; rfl) (fun K hK => ?_) AllReadyT.nil
                          go_simp
                          refine hK.out _ _ (fun h => by simp at h) ?_
                          clear hK K x1 f1
                          try simp only [Act.put, List.setIfInBounds_toArray, List.set_cons_zero, List.set_cons_succ]
                          have hbc2 := hbc.put 1 (.string (lts ++ strOfNums [(s.letter : Int)]))
                          have x2 : (W3.setCell ⟨w4.heap.size, 1, none⟩ (.string (lts ++ strOfNums [(s.letter : Int)]))).cell? ⟨w4.heap.size, 2, none⟩ = some (.slice Av vs.length cv) := hbc2.cell 2
                          have f2 := hbc2.free 2
                          refine wpAnyT_free (i := 14) (v := ?_) (by simp only [List.getElem?_toArray, List.getElem?_cons_zero, List.getElem?_cons_succ]; rfl) (by kernel_rfl) (by kernel_rfl) (by kernel_rfl) (by rfl) (by exact fun _ _ _ h => h) (Or.inl ⟨by rfl, ?hy13⟩) ?rest13
                          case hy13 => (intro W _; go_simp; try with_reducible rfl)
                          try simp only [Act.put, List.setIfInBounds_toArray, List.set_cons_zero, List.set_cons_succ]
                          refine wpAnyT_ready (rs := [15]) (by kernel_rfl) (by simp) ?_
                          refine AllReadyT.cons (by simp only [List.getElem?_toArray, List.getElem?_cons_zero, List.getElem?_cons_succ]; rfl) (fun K hK => ?_) AllReadyT.nil
                          go_simp
                          refine hK.out _ _ (fun h => by simp at h) ?_
                          clear hK K x2 f2
                          try simp only [Act.put, List.setIfInBounds_toArray, List.set_cons_zero, List.set_cons_succ]
                          refine wpAnyT_done (by kernel_rfl) ?_ _
                          have hmem := LineM.reg (lts' := lts ++ strOfNums [(s.letter : Int)]) ⟨B1.out, B2.out, B3.out, B4.out, HHb.out, HUb.out, HK0.out, HO1.out, HL1.out, HO2.out, HQL.out, hbw⟩ (show w.heap.size ≤ w4.heap.size + 1 by omega) (show w.heap.size ≤ w4.heap.size by omega) hF (by omega) (by omega)
                          have hs9 := ((HV4.out.grown hF.2.1 fun b cs hb => own_ne_row HO2.out hb (by decide)).far (p := ⟨w4.heap.size, 1, none⟩) hbc (by decide) (.string (lts ++ strOfNums [(s.letter : Int)]))).far (p := ⟨w4.heap.size, 2, none⟩) hbc2 (by decide) (.slice (some ⟨gg, 0, none⟩) (vs.length + 1) cap)
                          generalize (W3.setCell ⟨w4.heap.size, 1, none⟩ (.string (lts ++ strOfNums [(s.letter : Int)]))).setCell ⟨w4.heap.size, 2, none⟩ (.slice (some ⟨gg, 0, none⟩) (vs.length + 1) cap) = W9 at hmem hs9 ⊢
                          have HMem := Lib.hid hmem
                          have HS9 := Lib.hid hs9
                          clear hbc hbc2 hmem hs9 hF
                          have c4 : W9.cell? ⟨w2.heap.size, 4, none⟩ = some (.slice Aq qs.length cq) := HMem.out.1.cell 4
                          have z9 := HMem.out.1.size
                          have zb9 : w4.heap.size + 1 ≤ W9.heap.size := HMem.out.2.2.2.2.2.2.2.2.2.2.2
                          go_wp2_with (at_builtin; refine wpList_append_lies _ rfl _ _ 49 rfl (w4.heap.size + 1) 99 i3 _ 1 24 Tryz.underlying49 KI.out KZ0.out KZ1.out KZ2.out rfl (by decide) (.slice Aq qs.length cq) qs.length lvs (by rfl) (HMem.out.2.2.2.2.2.2.2.1.alloc _) ⟨W9.heap.size, 0, none⟩ 1 1 [.slice Al ql.length cl] (by rfl) (by rfl) (cell_one_new _ _ _) (by simp [Value.oneCell']) (by omega) (by unfold maxLen; omega) (by omega) (by simp; omega) _ rfl ?_; intro gg2 cap2 W10 hown10 hgrow10 _ _; have b10 := (HMem.out.1.alloc _).grown hgrow10 (own_ne_row HMem.out.2.2.2.2.2.2.2.1 HMem.out.1 (by decide)); have c10 : W10.cell? ⟨w2.heap.size, 4, none⟩ = some (.slice Aq qs.length cq) := b10.cell 4; have f10 := b10.free 4; have z10 := b10.size; have B10 := Lib.hid b10; have HO10 := Lib.hid hown10; have HG10 := Lib.hid hgrow10; clear b10 hown10 hgrow10)
                          go_roundw
                          case rel =>
                            refine ⟨k - 1, qs ++ [ql], ks ++ [q], vs ++ [v], by go_num, val_i64 ?_, LineM.put HMem.out (by omega) (by omega) HG10.out HO10.out (by omega) (by omega) (letters_snoc HLE.out HSQ.out _ (cat_letters _ _)) (HP.out.snoc HSQ.out ⟨hs32, hv32, HVF.out.1, HVF.out.2, fun x hx => ⟨(HLV.out x hx).2.1, (HLV.out x hx).2.2⟩⟩ (by omega) fun x hx => (HLV.out x hx).1), ?_, by rw [List.length_append]; simp; omega, by rw [List.length_append]; simp; omega⟩
                            · have e := marksTo_snoc S ks vs q v qs.length HP.out.1 HP.out.2.1
                              have e2 : markOf S q v = pc (diff s.strokes v) + pc (diff v s.strokes) := by unfold markOf; rw [show S.getD q ⟨0, 0⟩ = s by simp [List.getD, HSQ.out]]
                              rw [show (qs ++ [ql]).length = qs.length + 1 by simp, e, e2, HM.out, HM0.out]
                            · exact ((HS9.out.below ((Below.refl _ _).alloc (Nat.le_refl _) _)).grown HG10.out fun b cs hb => own_ne_row (HMem.out.2.2.2.2.2.2.2.1.alloc _) hb (by decide)).far (p := ⟨w2.heap.size, 4, none⟩) B10.out (by decide) _
                          case measure => simp [intOf]; omega
                        exact AllReadyT.nil
                      refine AllReadyT.cons (by simp only [List.getElem?_toArray, List.getElem?_cons_zero, List.getElem?_cons_succ]; rfl) (fun K hK => ?_) ?_
                      · refine step_append_lies _ (by rfl) _ _ _ (by rfl) (w4.heap.size + 1) 3 i2 _ 1 8 Tryz.underlying22 II2.out JZ0.out JZ1.out JZ2.out rfl (by omega) (.slice Av vs.length cv) vs.length (vs.map fun (x : Nat) => Value.int .i64 x) (by rfl) hF.2.2 ⟨W1.heap.size, 0, none⟩ 1 1 [.int .i64 v] (by rfl) (by rfl) hB.news (by simp [Value.oneCell']) (by omega) (by unfold maxLen; omega) (by omega) (Nat.le_trans hbw hF.2.1.size) _ rfl ?_
                        intro gg cap W3 hown hgrow _ _
                        try go_simp
                        refine hK.out _ _ (fun _ => hF.1.grown hgrow HNC.out HNS.out) ?_
                        clear hK K
                        try simp only [Act.put, List.setIfInBounds_toArray, List.set_cons_zero, List.set_cons_succ]
                        have hF' : RegF wr w4.heap.size w6.heap.size (w4.heap.size + 1) lts (.slice Av vs.length cv) s.letter (.slice (some ⟨gg, 0, none⟩) (vs.length + 1) cap) (vs.length + 1) ((vs.map fun (x : Nat) => Value.int .i64 x) ++ [.int .i64 v]) W3 := ⟨hF.1.grown hgrow HNC.out HNS.out, grown_trans hF.2.1 hgrow, hown⟩
                        have hA := hA.grown hgrow HNL.out
                        clear hF hB hown hgrow
                        have hF := hF'
                        clear hF'
                        refine wpAnyT_ready (rs := [5]) (by kernel_rfl) (by simp) ?_
                        refine AllReadyT.cons (by simp only [List.getElem?_toArray, List.getElem?_cons_zero, List.getElem?_cons_succ]; rfl) (fun K hK => ?_) ?_
                        · have hconv := run_convert_bytes_arg (P := Tryz.prog) W3 102 5 Tryz.underlying102 Tryz.underlying5 W0.heap.size 0 1 1 [(s.letter : Int)] rfl (byte_cell hA) 9 Tryz.underlying9
                          go_simp
                          refine hK.out _ _ (fun _ => hF.1) ?_
                          clear hK K hconv hA
                          try simp only [Act.put, List.setIfInBounds_toArray, List.set_cons_zero, List.set_cons_succ]
                          refine wpAnyT_take (i := 6) (v := ?_) (by simp only [List.getElem?_toArray, List.getElem?_cons_zero, List.getElem?_cons_succ]; rfl) (by kernel_rfl) (by kernel_rfl) (by kernel_rfl) (by kernel_rfl) (by exact fun _ _ _ h => h) (Or.inl ⟨by rfl, ?hy14⟩) hF.1 ?rest14
                          case hy14 => (intro W hSW; obtain ⟨x1, x2, x3⟩ := hSW; go_simp; rw [if_neg HCAT.out])
                          try simp only [Act.put, List.setIfInBounds_toArray, List.set_cons_zero, List.set_cons_succ]
                          refine wpAnyT_free (i := 12) (v := ?_) (by simp only [List.getElem?_toArray, List.getElem?_cons_zero, List.getElem?_cons_succ]; rfl) (by kernel_rfl) (by kernel_rfl) (by kernel_rfl) (by rfl) (by exact fun _ _ _ h => h) (Or.inl ⟨by rfl, ?hy15⟩) ?rest15
                          case hy15 => (intro W _; go_simp; try with_reducible rfl)
                          try simp only [Act.put, List.setIfInBounds_toArray, List.set_cons_zero, List.set_cons_succ]
                          have hbc := B2.out.grown hF.2.1 HNC.out
                          have x1 : W3.cell? ⟨w4.heap.size, 1, none⟩ = some (.string lts) := hF.1.1
                          have f1 := hbc.free 1
                          refine wpAnyT_ready (rs := [13]) (by kernel_rfl) (by simp) ?_
                          refine AllReadyT.cons (by simp only [List.getElem?_toArray, List.getElem?_cons_zero, List.getElem?_cons_succ]; rfl) (fun K hK => ?_) AllReadyT.nil
                          go_simp
                          refine hK.out _ _ (fun h => by simp at h) ?_
                          clear hK K x1 f1
                          try simp only [Act.put, List.setIfInBounds_toArray, List.set_cons_zero, List.set_cons_succ]
                          have hbc2 := hbc.put 1 (.string (lts ++ strOfNums [(s.letter : Int)]))
                          have x2 : (W3.setCell ⟨w4.heap.size, 1, none⟩ (.string (lts ++ strOfNums [(s.letter : Int)]))).cell? ⟨w4.heap.size, 2, none⟩ = some (.slice Av vs.length cv) := hbc2.cell 2
                          have f2 := hbc2.free 2
                          refine wpAnyT_free (i := 14) (v := ?_) (by simp only [List.getElem?_toArray, List.getElem?_cons_zero, List.getElem?_cons_succ]; rfl) (by kernel_rfl) (by kernel_rfl) (by kernel_rfl) (by rfl) (by exact fun _ _ _ h => h) (Or.inl ⟨by rfl, ?hy16⟩) ?rest16
                          case hy16 => (intro W _; go_simp; try with_reducible rfl)
                          try simp only [Act.put, List.setIfInBounds_toArray, List.set_cons_zero, List.set_cons_succ]
                          refine wpAnyT_ready (rs := [15]) (by kernel_rfl) (by simp) ?_
                          refine AllReadyT.cons (by simp only [List.getElem?_toArray, List.getElem?_cons_zero, List.getElem?_cons_succ]; rfl) (fun K hK => ?_) AllReadyT.nil
                          go_simp
                          refine hK.out _ _ (fun h => by simp at h) ?_
                          clear hK K x2 f2
                          try simp only [Act.put, List.setIfInBounds_toArray, List.set_cons_zero, List.set_cons_succ]
                          refine wpAnyT_done (by kernel_rfl) ?_ _
                          have hmem := LineM.reg (lts' := lts ++ strOfNums [(s.letter : Int)]) ⟨B1.out, B2.out, B3.out, B4.out, HHb.out, HUb.out, HK0.out, HO1.out, HL1.out, HO2.out, HQL.out, hbw⟩ (show w.heap.size ≤ w4.heap.size + 1 by omega) (show w.heap.size ≤ w4.heap.size by omega) hF (by omega) (by omega)
                          have hs9 := ((HV4.out.grown hF.2.1 fun b cs hb => own_ne_row HO2.out hb (by decide)).far (p := ⟨w4.heap.size, 1, none⟩) hbc (by decide) (.string (lts ++ strOfNums [(s.letter : Int)]))).far (p := ⟨w4.heap.size, 2, none⟩) hbc2 (by decide) (.slice (some ⟨gg, 0, none⟩) (vs.length + 1) cap)
                          generalize (W3.setCell ⟨w4.heap.size, 1, none⟩ (.string (lts ++ strOfNums [(s.letter : Int)]))).setCell ⟨w4.heap.size, 2, none⟩ (.slice (some ⟨gg, 0, none⟩) (vs.length + 1) cap) = W9 at hmem hs9 ⊢
                          have HMem := Lib.hid hmem
                          have HS9 := Lib.hid hs9
                          clear hbc hbc2 hmem hs9 hF
                          have c4 : W9.cell? ⟨w2.heap.size, 4, none⟩ = some (.slice Aq qs.length cq) := HMem.out.1.cell 4
                          have z9 := HMem.out.1.size
                          have zb9 : w4.heap.size + 1 ≤ W9.heap.size := HMem.out.2.2.2.2.2.2.2.2.2.2.2
                          go_wp2_with (at_builtin; refine wpList_append_lies _ rfl _ _ 49 rfl (w4.heap.size + 1) 99 i3 _ 1 24 Tryz.underlying49 KI.out KZ0.out KZ1.out KZ2.out rfl (by decide) (.slice Aq qs.length cq) qs.length lvs (by rfl) (HMem.out.2.2.2.2.2.2.2.1.alloc _) ⟨W9.heap.size, 0, none⟩ 1 1 [.slice Al ql.length cl] (by rfl) (by rfl) (cell_one_new _ _ _) (by simp [Value.oneCell']) (by omega) (by unfold maxLen; omega) (by omega) (by simp; omega) _ rfl ?_; intro gg2 cap2 W10 hown10 hgrow10 _ _; have b10 := (HMem.out.1.alloc _).grown hgrow10 (own_ne_row HMem.out.2.2.2.2.2.2.2.1 HMem.out.1 (by decide)); have c10 : W10.cell? ⟨w2.heap.size, 4, none⟩ = some (.slice Aq qs.length cq) := b10.cell 4; have f10 := b10.free 4; have z10 := b10.size; have B10 := Lib.hid b10; have HO10 := Lib.hid hown10; have HG10 := Lib.hid hgrow10; clear b10 hown10 hgrow10)
                          go_roundw
                          case rel =>
                            refine ⟨k - 1, qs ++ [ql], ks ++ [q], vs ++ [v], by go_num, val_i64 ?_, LineM.put HMem.out (by omega) (by omega) HG10.out HO10.out (by omega) (by omega) (letters_snoc HLE.out HSQ.out _ (cat_letters _ _)) (HP.out.snoc HSQ.out ⟨hs32, hv32, HVF.out.1, HVF.out.2, fun x hx => ⟨(HLV.out x hx).2.1, (HLV.out x hx).2.2⟩⟩ (by omega) fun x hx => (HLV.out x hx).1), ?_, by rw [List.length_append]; simp; omega, by rw [List.length_append]; simp; omega⟩
                            · have e := marksTo_snoc S ks vs q v qs.length HP.out.1 HP.out.2.1
                              have e2 : markOf S q v = pc (diff s.strokes v) + pc (diff v s.strokes) := by unfold markOf; rw [show S.getD q ⟨0, 0⟩ = s by simp [List.getD, HSQ.out]]
                              rw [show (qs ++ [ql]).length = qs.length + 1 by simp, e, e2, HM.out, HM0.out]
                            · exact ((HS9.out.below ((Below.refl _ _).alloc (Nat.le_refl _) _)).grown HG10.out fun b cs hb => own_ne_row (HMem.out.2.2.2.2.2.2.2.1.alloc _) hb (by decide)).far (p := ⟨w2.heap.size, 4, none⟩) B10.out (by decide) _
                          case measure => simp [intOf]; omega
                        exact AllReadyT.nil
                      exact AllReadyT.nil
                    exact AllReadyT.nil
                  refine AllReadyT.cons (by simp only [List.getElem?_toArray, List.getElem?_cons_zero, List.getElem?_cons_succ]; rfl) (fun K hK => ?_) ?_
                  · go_simp
                    refine hK.out _ _ (fun _ => hF.1.alloc _) ?_
                    clear hK K
                    try simp only [Act.put, List.setIfInBounds_toArray, List.set_cons_zero, List.set_cons_succ]
                    refine wpAnyT_world (fun W' => RegF wr w4.heap.size w6.heap.size (w4.heap.size + 1) lts (.slice Av vs.length cv) s.letter (.slice Av vs.length cv) vs.length (vs.map fun (x : Nat) => Value.int .i64 x) W' ∧ NewCell wr W0.heap.size (.int .i64 v) W') ⟨hF.alloc _, NewCell.new hF.2.1 _ _⟩ ?_
                    clear hF
                    rintro W1 ⟨hF, hB⟩
                    refine wpAnyT_ready (rs := [4, 11]) (by kernel_rfl) (by simp) ?_
                    refine AllReadyT.cons (by simp only [List.getElem?_toArray, List.getElem?_cons_zero, List.getElem?_cons_succ]; rfl) (fun K hK => ?_) ?_
                    · go_simp
                      refine hK.out _ _ (fun _ => hF.1.alloc _) ?_
                      clear hK K
                      try simp only [Act.put, List.setIfInBounds_toArray, List.set_cons_zero, List.set_cons_succ]
                      refine wpAnyT_world (fun W' => RegF wr w4.heap.size w6.heap.size (w4.heap.size + 1) lts (.slice Av vs.length cv) s.letter (.slice Av vs.length cv) vs.length (vs.map fun (x : Nat) => Value.int .i64 x) W' ∧ NewCell wr W1.heap.size (.int .u8 s.letter) W' ∧ NewCell wr W0.heap.size (.int .i64 v) W') ⟨hF.alloc _, NewCell.new hF.2.1 _ _, hB.alloc _⟩ ?_
                      clear hF hB
                      rintro W2 ⟨hF, hA, hB⟩
                      refine wpAnyT_ready (rs := [5, 11]) (by kernel_rfl) (by simp) ?_
                      refine AllReadyT.cons (by simp only [List.getElem?_toArray, List.getElem?_cons_zero, List.getElem?_cons_succ]; rfl) (fun K hK => ?_) ?_
                      · have hconv := run_convert_bytes_arg (P := Tryz.prog) W2 102 5 Tryz.underlying102 Tryz.underlying5 W1.heap.size 0 1 1 [(s.letter : Int)] rfl (byte_cell hA) 9 Tryz.underlying9
                        go_simp
                        refine hK.out _ _ (fun _ => hF.1) ?_
                        clear hK K hconv hA
                        try simp only [Act.put, List.setIfInBounds_toArray, List.set_cons_zero, List.set_cons_succ]
                        refine wpAnyT_take (i := 6) (v := ?_) (by simp only [List.getElem?_toArray, List.getElem?_cons_zero, List.getElem?_cons_succ]; rfl) (by kernel_rfl) (by kernel_rfl) (by kernel_rfl) (by kernel_rfl) (by exact fun _ _ _ h => h) (Or.inl ⟨by rfl, ?hy17⟩) hF.1 ?rest17
                        case hy17 => (intro W hSW; obtain ⟨x1, x2, x3⟩ := hSW; go_simp; rw [if_neg HCAT.out])
                        try simp only [Act.put, List.setIfInBounds_toArray, List.set_cons_zero, List.set_cons_succ]
                        refine wpAnyT_free (i := 12) (v := ?_) (by simp only [List.getElem?_toArray, List.getElem?_cons_zero, List.getElem?_cons_succ]; rfl) (by kernel_rfl) (by kernel_rfl) (by kernel_rfl) (by rfl) (by exact fun _ _ _ h => h) (Or.inl ⟨by rfl, ?hy18⟩) ?rest18
                        case hy18 => (intro W _; go_simp; try with_reducible rfl)
                        try simp only [Act.put, List.setIfInBounds_toArray, List.set_cons_zero, List.set_cons_succ]
                        refine wpAnyT_ready (rs := [11]) (by kernel_rfl) (by simp) ?_
                        refine AllReadyT.cons (by simp only [List.getElem?_toArray, List.getElem?_cons_zero, List.getElem?_cons_succ]; rfl) (fun K hK => ?_) ?_
                        · refine step_append_lies _ (by rfl) _ _ _ (by rfl) (w4.heap.size + 1) 3 i2 _ 1 8 Tryz.underlying22 II2.out JZ0.out JZ1.out JZ2.out rfl (by omega) (.slice Av vs.length cv) vs.length (vs.map fun (x : Nat) => Value.int .i64 x) (by rfl) hF.2.2 ⟨W0.heap.size, 0, none⟩ 1 1 [.int .i64 v] (by rfl) (by rfl) hB.news (by simp [Value.oneCell']) (by omega) (by unfold maxLen; omega) (by omega) (Nat.le_trans hbw hF.2.1.size) _ rfl ?_
                          intro gg cap W3 hown hgrow _ _
                          try go_simp
                          refine hK.out _ _ (fun _ => hF.1.grown hgrow HNC.out HNS.out) ?_
                          clear hK K
                          try simp only [Act.put, List.setIfInBounds_toArray, List.set_cons_zero, List.set_cons_succ]
                          have hF' : RegF wr w4.heap.size w6.heap.size (w4.heap.size + 1) lts (.slice Av vs.length cv) s.letter (.slice (some ⟨gg, 0, none⟩) (vs.length + 1) cap) (vs.length + 1) ((vs.map fun (x : Nat) => Value.int .i64 x) ++ [.int .i64 v]) W3 := ⟨hF.1.grown hgrow HNC.out HNS.out, grown_trans hF.2.1 hgrow, hown⟩
                          clear hF hB hown hgrow
                          have hF := hF'
                          clear hF'
                          have hbc := B2.out.grown hF.2.1 HNC.out
                          have x1 : W3.cell? ⟨w4.heap.size, 1, none⟩ = some (.string lts) := hF.1.1
                          have f1 := hbc.free 1
                          refine wpAnyT_ready (rs := [13]) (by kernel_rfl) (by simp) ?_
                          refine AllReadyT.cons (by simp only [List.getElem?_toArray, List.getElem?_cons_zero, List.getElem?_cons_succ]; rfl) (fun K hK => ?_) AllReadyT.nil
                          go_simp
                          refine hK.out _ _ (fun h => by simp at h) ?_
                          clear hK K x1 f1
                          try simp only [Act.put, List.setIfInBounds_toArray, List.set_cons_zero, List.set_cons_succ]
                          have hbc2 := hbc.put 1 (.string (lts ++ strOfNums [(s.letter : Int)]))
                          have x2 : (W3.setCell ⟨w4.heap.size, 1, none⟩ (.string (lts ++ strOfNums [(s.letter : Int)]))).cell? ⟨w4.heap.size, 2, none⟩ = some (.slice Av vs.length cv) := hbc2.cell 2
                          have f2 := hbc2.free 2
                          refine wpAnyT_free (i := 14) (v := ?_) (by simp only [List.getElem?_toArray, List.getElem?_cons_zero, List.getElem?_cons_succ]; rfl) (by kernel_rfl) (by kernel_rfl) (by kernel_rfl) (by rfl) (by exact fun _ _ _ h => h) (Or.inl ⟨by rfl, ?hy19⟩) ?rest19
                          case hy19 => (intro W _; go_simp; try with_reducible rfl)
                          try simp only [Act.put, List.setIfInBounds_toArray, List.set_cons_zero, List.set_cons_succ]
                          refine wpAnyT_ready (rs := [15]) (by kernel_rfl) (by simp) ?_
                          refine AllReadyT.cons (by simp only [List.getElem?_toArray, List.getElem?_cons_zero, List.getElem?_cons_succ]; rfl) (fun K hK => ?_) AllReadyT.nil
                          go_simp
                          refine hK.out _ _ (fun h => by simp at h) ?_
                          clear hK K x2 f2
                          try simp only [Act.put, List.setIfInBounds_toArray, List.set_cons_zero, List.set_cons_succ]
                          refine wpAnyT_done (by kernel_rfl) ?_ _
                          have hmem := LineM.reg (lts' := lts ++ strOfNums [(s.letter : Int)]) ⟨B1.out, B2.out, B3.out, B4.out, HHb.out, HUb.out, HK0.out, HO1.out, HL1.out, HO2.out, HQL.out, hbw⟩ (show w.heap.size ≤ w4.heap.size + 1 by omega) (show w.heap.size ≤ w4.heap.size by omega) hF (by omega) (by omega)
                          have hs9 := ((HV4.out.grown hF.2.1 fun b cs hb => own_ne_row HO2.out hb (by decide)).far (p := ⟨w4.heap.size, 1, none⟩) hbc (by decide) (.string (lts ++ strOfNums [(s.letter : Int)]))).far (p := ⟨w4.heap.size, 2, none⟩) hbc2 (by decide) (.slice (some ⟨gg, 0, none⟩) (vs.length + 1) cap)
                          generalize (W3.setCell ⟨w4.heap.size, 1, none⟩ (.string (lts ++ strOfNums [(s.letter : Int)]))).setCell ⟨w4.heap.size, 2, none⟩ (.slice (some ⟨gg, 0, none⟩) (vs.length + 1) cap) = W9 at hmem hs9 ⊢
                          have HMem := Lib.hid hmem
                          have HS9 := Lib.hid hs9
                          clear hbc hbc2 hmem hs9 hF
                          have c4 : W9.cell? ⟨w2.heap.size, 4, none⟩ = some (.slice Aq qs.length cq) := HMem.out.1.cell 4
                          have z9 := HMem.out.1.size
                          have zb9 : w4.heap.size + 1 ≤ W9.heap.size := HMem.out.2.2.2.2.2.2.2.2.2.2.2
                          go_wp2_with (at_builtin; refine wpList_append_lies _ rfl _ _ 49 rfl (w4.heap.size + 1) 99 i3 _ 1 24 Tryz.underlying49 KI.out KZ0.out KZ1.out KZ2.out rfl (by decide) (.slice Aq qs.length cq) qs.length lvs (by rfl) (HMem.out.2.2.2.2.2.2.2.1.alloc _) ⟨W9.heap.size, 0, none⟩ 1 1 [.slice Al ql.length cl] (by rfl) (by rfl) (cell_one_new _ _ _) (by simp [Value.oneCell']) (by omega) (by unfold maxLen; omega) (by omega) (by simp; omega) _ rfl ?_; intro gg2 cap2 W10 hown10 hgrow10 _ _; have b10 := (HMem.out.1.alloc _).grown hgrow10 (own_ne_row HMem.out.2.2.2.2.2.2.2.1 HMem.out.1 (by decide)); have c10 : W10.cell? ⟨w2.heap.size, 4, none⟩ = some (.slice Aq qs.length cq) := b10.cell 4; have f10 := b10.free 4; have z10 := b10.size; have B10 := Lib.hid b10; have HO10 := Lib.hid hown10; have HG10 := Lib.hid hgrow10; clear b10 hown10 hgrow10)
                          go_roundw
                          case rel =>
                            refine ⟨k - 1, qs ++ [ql], ks ++ [q], vs ++ [v], by go_num, val_i64 ?_, LineM.put HMem.out (by omega) (by omega) HG10.out HO10.out (by omega) (by omega) (letters_snoc HLE.out HSQ.out _ (cat_letters _ _)) (HP.out.snoc HSQ.out ⟨hs32, hv32, HVF.out.1, HVF.out.2, fun x hx => ⟨(HLV.out x hx).2.1, (HLV.out x hx).2.2⟩⟩ (by omega) fun x hx => (HLV.out x hx).1), ?_, by rw [List.length_append]; simp; omega, by rw [List.length_append]; simp; omega⟩
                            · have e := marksTo_snoc S ks vs q v qs.length HP.out.1 HP.out.2.1
                              have e2 : markOf S q v = pc (diff s.strokes v) + pc (diff v s.strokes) := by unfold markOf; rw [show S.getD q ⟨0, 0⟩ = s by simp [List.getD, HSQ.out]]
                              rw [show (qs ++ [ql]).length = qs.length + 1 by simp, e, e2, HM.out, HM0.out]
                            · exact ((HS9.out.below ((Below.refl _ _).alloc (Nat.le_refl _) _)).grown HG10.out fun b cs hb => own_ne_row (HMem.out.2.2.2.2.2.2.2.1.alloc _) hb (by decide)).far (p := ⟨w2.heap.size, 4, none⟩) B10.out (by decide) _
                          case measure => simp [intOf]; omega
                        exact AllReadyT.nil
                      refine AllReadyT.cons (by simp only [List.getElem?_toArray, List.getElem?_cons_zero, List.getElem?_cons_succ]; rfl) (fun K hK => ?_) ?_
                      · refine step_append_lies _ (by rfl) _ _ _ (by rfl) (w4.heap.size + 1) 3 i2 _ 1 8 Tryz.underlying22 II2.out JZ0.out JZ1.out JZ2.out rfl (by omega) (.slice Av vs.length cv) vs.length (vs.map fun (x : Nat) => Value.int .i64 x) (by rfl) hF.2.2 ⟨W0.heap.size, 0, none⟩ 1 1 [.int .i64 v] (by rfl) (by rfl) hB.news (by simp [Value.oneCell']) (by omega) (by unfold maxLen; omega) (by omega) (Nat.le_trans hbw hF.2.1.size) _ rfl ?_
                        intro gg cap W3 hown hgrow _ _
                        try go_simp
                        refine hK.out _ _ (fun _ => hF.1.grown hgrow HNC.out HNS.out) ?_
                        clear hK K
                        try simp only [Act.put, List.setIfInBounds_toArray, List.set_cons_zero, List.set_cons_succ]
                        have hF' : RegF wr w4.heap.size w6.heap.size (w4.heap.size + 1) lts (.slice Av vs.length cv) s.letter (.slice (some ⟨gg, 0, none⟩) (vs.length + 1) cap) (vs.length + 1) ((vs.map fun (x : Nat) => Value.int .i64 x) ++ [.int .i64 v]) W3 := ⟨hF.1.grown hgrow HNC.out HNS.out, grown_trans hF.2.1 hgrow, hown⟩
                        have hA := hA.grown hgrow HNL.out
                        clear hF hB hown hgrow
                        have hF := hF'
                        clear hF'
                        refine wpAnyT_ready (rs := [5]) (by kernel_rfl) (by simp) ?_
                        refine AllReadyT.cons (by simp only [List.getElem?_toArray, List.getElem?_cons_zero, List.getElem?_cons_succ]; rfl) (fun K hK => ?_) ?_
                        · have hconv := run_convert_bytes_arg (P := Tryz.prog) W3 102 5 Tryz.underlying102 Tryz.underlying5 W1.heap.size 0 1 1 [(s.letter : Int)] rfl (byte_cell hA) 9 Tryz.underlying9
                          go_simp
                          refine hK.out _ _ (fun _ => hF.1) ?_
                          clear hK K hconv hA
                          try simp only [Act.put, List.setIfInBounds_toArray, List.set_cons_zero, List.set_cons_succ]
                          refine wpAnyT_take (i := 6) (v := ?_) (by simp only [List.getElem?_toArray, List.getElem?_cons_zero, List.getElem?_cons_succ]; rfl) (by kernel_rfl) (by kernel_rfl) (by kernel_rfl) (by kernel_rfl) (by exact fun _ _ _ h => h) (Or.inl ⟨by rfl, ?hy20⟩) hF.1 ?rest20
                          case hy20 => (intro W hSW; obtain ⟨x1, x2, x3⟩ := hSW; go_simp; rw [if_neg HCAT.out])
                          try simp only [Act.put, List.setIfInBounds_toArray, List.set_cons_zero, List.set_cons_succ]
                          refine wpAnyT_free (i := 12) (v := ?_) (by simp only [List.getElem?_toArray, List.getElem?_cons_zero, List.getElem?_cons_succ]; rfl) (by kernel_rfl) (by kernel_rfl) (by kernel_rfl) (by rfl) (by exact fun _ _ _ h => h) (Or.inl ⟨by rfl, ?hy21⟩) ?rest21
                          case hy21 => (intro W _; go_simp; try with_reducible rfl)
                          try simp only [Act.put, List.setIfInBounds_toArray, List.set_cons_zero, List.set_cons_succ]
                          have hbc := B2.out.grown hF.2.1 HNC.out
                          have x1 : W3.cell? ⟨w4.heap.size, 1, none⟩ = some (.string lts) := hF.1.1
                          have f1 := hbc.free 1
                          refine wpAnyT_ready (rs := [13]) (by kernel_rfl) (by simp) ?_
                          refine AllReadyT.cons (by simp only [List.getElem?_toArray, List.getElem?_cons_zero, List.getElem?_cons_succ]; rfl) (fun K hK => ?_) AllReadyT.nil
                          go_simp
                          refine hK.out _ _ (fun h => by simp at h) ?_
                          clear hK K x1 f1
                          try simp only [Act.put, List.setIfInBounds_toArray, List.set_cons_zero, List.set_cons_succ]
                          have hbc2 := hbc.put 1 (.string (lts ++ strOfNums [(s.letter : Int)]))
                          have x2 : (W3.setCell ⟨w4.heap.size, 1, none⟩ (.string (lts ++ strOfNums [(s.letter : Int)]))).cell? ⟨w4.heap.size, 2, none⟩ = some (.slice Av vs.length cv) := hbc2.cell 2
                          have f2 := hbc2.free 2
                          refine wpAnyT_free (i := 14) (v := ?_) (by simp only [List.getElem?_toArray, List.getElem?_cons_zero, List.getElem?_cons_succ]; rfl) (by kernel_rfl) (by kernel_rfl) (by kernel_rfl) (by rfl) (by exact fun _ _ _ h => h) (Or.inl ⟨by rfl, ?hy22⟩) ?rest22
                          case hy22 => (intro W _; go_simp; try with_reducible rfl)
                          try simp only [Act.put, List.setIfInBounds_toArray, List.set_cons_zero, List.set_cons_succ]
                          refine wpAnyT_ready (rs := [15]) (by kernel_rfl) (by simp) ?_
                          refine AllReadyT.cons (by simp only [List.getElem?_toArray, List.getElem?_cons_zero, List.getElem?_cons_succ]; rfl) (fun K hK => ?_) AllReadyT.nil
                          go_simp
                          refine hK.out _ _ (fun h => by simp at h) ?_
                          clear hK K x2 f2
                          try simp only [Act.put, List.setIfInBounds_toArray, List.set_cons_zero, List.set_cons_succ]
                          refine wpAnyT_done (by kernel_rfl) ?_ _
                          have hmem := LineM.reg (lts' := lts ++ strOfNums [(s.letter : Int)]) ⟨B1.out, B2.out, B3.out, B4.out, HHb.out, HUb.out, HK0.out, HO1.out, HL1.out, HO2.out, HQL.out, hbw⟩ (show w.heap.size ≤ w4.heap.size + 1 by omega) (show w.heap.size ≤ w4.heap.size by omega) hF (by omega) (by omega)
                          have hs9 := ((HV4.out.grown hF.2.1 fun b cs hb => own_ne_row HO2.out hb (by decide)).far (p := ⟨w4.heap.size, 1, none⟩) hbc (by decide) (.string (lts ++ strOfNums [(s.letter : Int)]))).far (p := ⟨w4.heap.size, 2, none⟩) hbc2 (by decide) (.slice (some ⟨gg, 0, none⟩) (vs.length + 1) cap)
                          generalize (W3.setCell ⟨w4.heap.size, 1, none⟩ (.string (lts ++ strOfNums [(s.letter : Int)]))).setCell ⟨w4.heap.size, 2, none⟩ (.slice (some ⟨gg, 0, none⟩) (vs.length + 1) cap) = W9 at hmem hs9 ⊢
                          have HMem := Lib.hid hmem
                          have HS9 := Lib.hid hs9
                          clear hbc hbc2 hmem hs9 hF
                          have c4 : W9.cell? ⟨w2.heap.size, 4, none⟩ = some (.slice Aq qs.length cq) := HMem.out.1.cell 4
                          have z9 := HMem.out.1.size
                          have zb9 : w4.heap.size + 1 ≤ W9.heap.size := HMem.out.2.2.2.2.2.2.2.2.2.2.2
                          go_wp2_with (at_builtin; refine wpList_append_lies _ rfl _ _ 49 rfl (w4.heap.size + 1) 99 i3 _ 1 24 Tryz.underlying49 KI.out KZ0.out KZ1.out KZ2.out rfl (by decide) (.slice Aq qs.length cq) qs.length lvs (by rfl) (HMem.out.2.2.2.2.2.2.2.1.alloc _) ⟨W9.heap.size, 0, none⟩ 1 1 [.slice Al ql.length cl] (by rfl) (by rfl) (cell_one_new _ _ _) (by simp [Value.oneCell']) (by omega) (by unfold maxLen; omega) (by omega) (by simp; omega) _ rfl ?_; intro gg2 cap2 W10 hown10 hgrow10 _ _; have b10 := (HMem.out.1.alloc _).grown hgrow10 (own_ne_row HMem.out.2.2.2.2.2.2.2.1 HMem.out.1 (by decide)); have c10 : W10.cell? ⟨w2.heap.size, 4, none⟩ = some (.slice Aq qs.length cq) := b10.cell 4; have f10 := b10.free 4; have z10 := b10.size; have B10 := Lib.hid b10; have HO10 := Lib.hid hown10; have HG10 := Lib.hid hgrow10; clear b10 hown10 hgrow10)
                          go_roundw
                          case rel =>
                            refine ⟨k - 1, qs ++ [ql], ks ++ [q], vs ++ [v], by go_num, val_i64 ?_, LineM.put HMem.out (by omega) (by omega) HG10.out HO10.out (by omega) (by omega) (letters_snoc HLE.out HSQ.out _ (cat_letters _ _)) (HP.out.snoc HSQ.out ⟨hs32, hv32, HVF.out.1, HVF.out.2, fun x hx => ⟨(HLV.out x hx).2.1, (HLV.out x hx).2.2⟩⟩ (by omega) fun x hx => (HLV.out x hx).1), ?_, by rw [List.length_append]; simp; omega, by rw [List.length_append]; simp; omega⟩
                            · have e := marksTo_snoc S ks vs q v qs.length HP.out.1 HP.out.2.1
                              have e2 : markOf S q v = pc (diff s.strokes v) + pc (diff v s.strokes) := by unfold markOf; rw [show S.getD q ⟨0, 0⟩ = s by simp [List.getD, HSQ.out]]
                              rw [show (qs ++ [ql]).length = qs.length + 1 by simp, e, e2, HM.out, HM0.out]
                            · exact ((HS9.out.below ((Below.refl _ _).alloc (Nat.le_refl _) _)).grown HG10.out fun b cs hb => own_ne_row (HMem.out.2.2.2.2.2.2.2.1.alloc _) hb (by decide)).far (p := ⟨w2.heap.size, 4, none⟩) B10.out (by decide) _
                          case measure => simp [intOf]; omega
                        exact AllReadyT.nil
                      exact AllReadyT.nil
                    refine AllReadyT.cons (by simp only [List.getElem?_toArray, List.getElem?_cons_zero, List.getElem?_cons_succ]; rfl) (fun K hK => ?_) ?_
                    · refine step_append_lies _ (by rfl) _ _ _ (by rfl) (w4.heap.size + 1) 3 i2 _ 1 8 Tryz.underlying22 II2.out JZ0.out JZ1.out JZ2.out rfl (by omega) (.slice Av vs.length cv) vs.length (vs.map fun (x : Nat) => Value.int .i64 x) (by rfl) hF.2.2 ⟨W0.heap.size, 0, none⟩ 1 1 [.int .i64 v] (by rfl) (by rfl) hB.news (by simp [Value.oneCell']) (by omega) (by unfold maxLen; omega) (by omega) (Nat.le_trans hbw hF.2.1.size) _ rfl ?_
                      intro gg cap W2 hown hgrow _ _
                      try go_simp
                      refine hK.out _ _ (fun _ => hF.1.grown hgrow HNC.out HNS.out) ?_
                      clear hK K
                      try simp only [Act.put, List.setIfInBounds_toArray, List.set_cons_zero, List.set_cons_succ]
                      have hF' : RegF wr w4.heap.size w6.heap.size (w4.heap.size + 1) lts (.slice Av vs.length cv) s.letter (.slice (some ⟨gg, 0, none⟩) (vs.length + 1) cap) (vs.length + 1) ((vs.map fun (x : Nat) => Value.int .i64 x) ++ [.int .i64 v]) W2 := ⟨hF.1.grown hgrow HNC.out HNS.out, grown_trans hF.2.1 hgrow, hown⟩
                      clear hF hB hown hgrow
                      have hF := hF'
                      clear hF'
                      refine wpAnyT_ready (rs := [4]) (by kernel_rfl) (by simp) ?_
                      refine AllReadyT.cons (by simp only [List.getElem?_toArray, List.getElem?_cons_zero, List.getElem?_cons_succ]; rfl) (fun K hK => ?_) ?_
                      · go_simp
                        refine hK.out _ _ (fun _ => hF.1.alloc _) ?_
                        clear hK K
                        try simp only [Act.put, List.setIfInBounds_toArray, List.set_cons_zero, List.set_cons_succ]
                        refine wpAnyT_world (fun W' => RegF wr w4.heap.size w6.heap.size (w4.heap.size + 1) lts (.slice Av vs.length cv) s.letter (.slice (some ⟨gg, 0, none⟩) (vs.length + 1) cap) (vs.length + 1) ((vs.map fun (x : Nat) => Value.int .i64 x) ++ [.int .i64 v]) W' ∧ NewCell wr W2.heap.size (.int .u8 s.letter) W') ⟨hF.alloc _, NewCell.new hF.2.1 _ _⟩ ?_
                        clear hF
                        rintro W3 ⟨hF, hA⟩
                        refine wpAnyT_ready (rs := [5]) (by kernel_rfl) (by simp) ?_
                        refine AllReadyT.cons (by simp only [List.getElem?_toArray, List.getElem?_cons_zero, List.getElem?_cons_succ]; rfl) (fun K hK => ?_) ?_
                        · have hconv := run_convert_bytes_arg (P := Tryz.prog) W3 102 5 Tryz.underlying102 Tryz.underlying5 W2.heap.size 0 1 1 [(s.letter : Int)] rfl (byte_cell hA) 9 Tryz.underlying9
                          go_simp
                          refine hK.out _ _ (fun _ => hF.1) ?_
                          clear hK K hconv hA
                          try simp only [Act.put, List.setIfInBounds_toArray, List.set_cons_zero, List.set_cons_succ]
                          refine wpAnyT_take (i := 6) (v := ?_) (by simp only [List.getElem?_toArray, List.getElem?_cons_zero, List.getElem?_cons_succ]; rfl) (by kernel_rfl) (by kernel_rfl) (by kernel_rfl) (by kernel_rfl) (by exact fun _ _ _ h => h) (Or.inl ⟨by rfl, ?hy23⟩) hF.1 ?rest23
                          case hy23 => (intro W hSW; obtain ⟨x1, x2, x3⟩ := hSW; go_simp; rw [if_neg HCAT.out])
                          try simp only [Act.put, List.setIfInBounds_toArray, List.set_cons_zero, List.set_cons_succ]
                          refine wpAnyT_free (i := 12) (v := ?_) (by simp only [List.getElem?_toArray, List.getElem?_cons_zero, List.getElem?_cons_succ]; rfl) (by kernel_rfl) (by kernel_rfl) (by kernel_rfl) (by rfl) (by exact fun _ _ _ h => h) (Or.inl ⟨by rfl, ?hy24⟩) ?rest24
                          case hy24 => (intro W _; go_simp; try with_reducible rfl)
                          try simp only [Act.put, List.setIfInBounds_toArray, List.set_cons_zero, List.set_cons_succ]
                          have hbc := B2.out.grown hF.2.1 HNC.out
                          have x1 : W3.cell? ⟨w4.heap.size, 1, none⟩ = some (.string lts) := hF.1.1
                          have f1 := hbc.free 1
                          refine wpAnyT_ready (rs := [13]) (by kernel_rfl) (by simp) ?_
                          refine AllReadyT.cons (by simp only [List.getElem?_toArray, List.getElem?_cons_zero, List.getElem?_cons_succ]; rfl) (fun K hK => ?_) AllReadyT.nil
                          go_simp
                          refine hK.out _ _ (fun h => by simp at h) ?_
                          clear hK K x1 f1
                          try simp only [Act.put, List.setIfInBounds_toArray, List.set_cons_zero, List.set_cons_succ]
                          have hbc2 := hbc.put 1 (.string (lts ++ strOfNums [(s.letter : Int)]))
                          have x2 : (W3.setCell ⟨w4.heap.size, 1, none⟩ (.string (lts ++ strOfNums [(s.letter : Int)]))).cell? ⟨w4.heap.size, 2, none⟩ = some (.slice Av vs.length cv) := hbc2.cell 2
                          have f2 := hbc2.free 2
                          refine wpAnyT_free (i := 14) (v := ?_) (by simp only [List.getElem?_toArray, List.getElem?_cons_zero, List.getElem?_cons_succ]; rfl) (by kernel_rfl) (by kernel_rfl) (by kernel_rfl) (by rfl) (by exact fun _ _ _ h => h) (Or.inl ⟨by rfl, ?hy25⟩) ?rest25
                          case hy25 => (intro W _; go_simp; try with_reducible rfl)
                          try simp only [Act.put, List.setIfInBounds_toArray, List.set_cons_zero, List.set_cons_succ]
                          refine wpAnyT_ready (rs := [15]) (by kernel_rfl) (by simp) ?_
                          refine AllReadyT.cons (by simp only [List.getElem?_toArray, List.getElem?_cons_zero, List.getElem?_cons_succ]; rfl) (fun K hK => ?_) AllReadyT.nil
                          go_simp
                          refine hK.out _ _ (fun h => by simp at h) ?_
                          clear hK K x2 f2
                          try simp only [Act.put, List.setIfInBounds_toArray, List.set_cons_zero, List.set_cons_succ]
                          refine wpAnyT_done (by kernel_rfl) ?_ _
                          have hmem := LineM.reg (lts' := lts ++ strOfNums [(s.letter : Int)]) ⟨B1.out, B2.out, B3.out, B4.out, HHb.out, HUb.out, HK0.out, HO1.out, HL1.out, HO2.out, HQL.out, hbw⟩ (show w.heap.size ≤ w4.heap.size + 1 by omega) (show w.heap.size ≤ w4.heap.size by omega) hF (by omega) (by omega)
                          have hs9 := ((HV4.out.grown hF.2.1 fun b cs hb => own_ne_row HO2.out hb (by decide)).far (p := ⟨w4.heap.size, 1, none⟩) hbc (by decide) (.string (lts ++ strOfNums [(s.letter : Int)]))).far (p := ⟨w4.heap.size, 2, none⟩) hbc2 (by decide) (.slice (some ⟨gg, 0, none⟩) (vs.length + 1) cap)
                          generalize (W3.setCell ⟨w4.heap.size, 1, none⟩ (.string (lts ++ strOfNums [(s.letter : Int)]))).setCell ⟨w4.heap.size, 2, none⟩ (.slice (some ⟨gg, 0, none⟩) (vs.length + 1) cap) = W9 at hmem hs9 ⊢
                          have HMem := Lib.hid hmem
                          have HS9 := Lib.hid hs9
                          clear hbc hbc2 hmem hs9 hF
                          have c4 : W9.cell? ⟨w2.heap.size, 4, none⟩ = some (.slice Aq qs.length cq) := HMem.out.1.cell 4
                          have z9 := HMem.out.1.size
                          have zb9 : w4.heap.size + 1 ≤ W9.heap.size := HMem.out.2.2.2.2.2.2.2.2.2.2.2
                          go_wp2_with (at_builtin; refine wpList_append_lies _ rfl _ _ 49 rfl (w4.heap.size + 1) 99 i3 _ 1 24 Tryz.underlying49 KI.out KZ0.out KZ1.out KZ2.out rfl (by decide) (.slice Aq qs.length cq) qs.length lvs (by rfl) (HMem.out.2.2.2.2.2.2.2.1.alloc _) ⟨W9.heap.size, 0, none⟩ 1 1 [.slice Al ql.length cl] (by rfl) (by rfl) (cell_one_new _ _ _) (by simp [Value.oneCell']) (by omega) (by unfold maxLen; omega) (by omega) (by simp; omega) _ rfl ?_; intro gg2 cap2 W10 hown10 hgrow10 _ _; have b10 := (HMem.out.1.alloc _).grown hgrow10 (own_ne_row HMem.out.2.2.2.2.2.2.2.1 HMem.out.1 (by decide)); have c10 : W10.cell? ⟨w2.heap.size, 4, none⟩ = some (.slice Aq qs.length cq) := b10.cell 4; have f10 := b10.free 4; have z10 := b10.size; have B10 := Lib.hid b10; have HO10 := Lib.hid hown10; have HG10 := Lib.hid hgrow10; clear b10 hown10 hgrow10)
                          go_roundw
                          case rel =>
                            refine ⟨k - 1, qs ++ [ql], ks ++ [q], vs ++ [v], by go_num, val_i64 ?_, LineM.put HMem.out (by omega) (by omega) HG10.out HO10.out (by omega) (by omega) (letters_snoc HLE.out HSQ.out _ (cat_letters _ _)) (HP.out.snoc HSQ.out ⟨hs32, hv32, HVF.out.1, HVF.out.2, fun x hx => ⟨(HLV.out x hx).2.1, (HLV.out x hx).2.2⟩⟩ (by omega) fun x hx => (HLV.out x hx).1), ?_, by rw [List.length_append]; simp; omega, by rw [List.length_append]; simp; omega⟩
                            · have e := marksTo_snoc S ks vs q v qs.length HP.out.1 HP.out.2.1
                              have e2 : markOf S q v = pc (diff s.strokes v) + pc (diff v s.strokes) := by unfold markOf; rw [show S.getD q ⟨0, 0⟩ = s by simp [List.getD, HSQ.out]]
                              rw [show (qs ++ [ql]).length = qs.length + 1 by simp, e, e2, HM.out, HM0.out]
                            · exact ((HS9.out.below ((Below.refl _ _).alloc (Nat.le_refl _) _)).grown HG10.out fun b cs hb => own_ne_row (HMem.out.2.2.2.2.2.2.2.1.alloc _) hb (by decide)).far (p := ⟨w2.heap.size, 4, none⟩) B10.out (by decide) _
                          case measure => simp [intOf]; omega
                        exact AllReadyT.nil
                      exact AllReadyT.nil
                    exact AllReadyT.nil
                  exact AllReadyT.nil
        · obtain rfl : k = 0 := by omega
          have hqn : 1 ≤ qs.length := by omega
          obtain ⟨_, _, _, _, _, _, _, _, _, hu, -⟩ := id hI
          have HI := Lib.hid hI
          clear hI hsv hk0 hq2
          obtain ⟨M0, hM0⟩ : ∃ M0, M0 = marksTo S ks vs qs.length := ⟨_, rfl⟩
          rw [← hM0]
          have HM0 := Lib.hid hM0
          have hM1 : M0 ≤ 32 := by
            have h := HI.out
            obtain ⟨-, -, -, -, -, -, -, -, -, -, -, -, -, -, -, h, -⟩ := h
            have h1 := marksTo_le h qs.length (Nat.le_refl _)
            have h2 : (worn + scr) * qs.length ≤ 4 * 8 := Nat.mul_le_mul (by omega) (by omega)
            omega
          clear hM0
          go_wp2_with fail
          refine (any_any g wr.heap.size 4 4 3 [0, 0, 1, 2] _ rfl (by decide) (by decide) (Blok.new wr 3 [.int .i64 0, .int .i64 0, .int .i64 1, .int .i64 2]) (by have := hu.size; omega) (hu.alloc _)).mono ?_
          rintro e w9 ⟨x, rfl, hx, hu9, hk9⟩
          have hx0 : 0 ≤ x ∧ x ≤ 2 := by simp at hx; omega
          obtain ⟨x, rfl⟩ := Int.eq_ofNat_of_zero_le hx0.1
          have hx2 : x ≤ 2 := by have := hx0.2; omega
          have hI9 := (HI.out.alloc (.cells #[.int .i64 0, .int .i64 0, .int .i64 1, .int .i64 2] 3)).kg hu9 hk9
          clear hu hx hx0 hu9 hk9 HI
          obtain ⟨vsq, vv, lts, lvs, b1, b2, b3, b4, hh, hu, hk0, ho1, hl, ho2, hle, hp, hbb⟩ := hI9
          obtain ⟨Av, cv, rfl⟩ := own_slice ho2
          obtain ⟨Aq, cq, rfl⟩ := own_slice ho1
          have n8 : w.heap.size ≠ w2.heap.size := by omega
          have n9 : w.heap.size + 1 ≠ w2.heap.size := by omega
          have n10 : w.heap.size ≠ w.heap.size + 1 := by omega
          have b1' := b1.put 3 (.int .i64 ((M0 : Int) + (x : Int)))
          have b2' := b2.far (p := ⟨w2.heap.size, 3, none⟩) (show w4.heap.size ≠ w2.heap.size by omega) (.int .i64 ((M0 : Int) + (x : Int)))
          have b3' := b3.far (p := ⟨w2.heap.size, 3, none⟩) n8 (.int .i64 ((M0 : Int) + (x : Int)))
          have b4' := b4.far (p := ⟨w2.heap.size, 3, none⟩) n9 (.int .i64 ((M0 : Int) + (x : Int)))
          have hTk := (Tk.refl w9).put (p := ⟨w2.heap.size, 3, none⟩) b1 (.inl rfl) (.int .i64 ((M0 : Int) + (x : Int)))
          have hKg := hk0.putNew (p := ⟨w2.heap.size, 3, none⟩) (show w.heap.size ≤ w2.heap.size by omega) (.int .i64 ((M0 : Int) + (x : Int)))
          have c3 : w9.cell? ⟨w2.heap.size, 3, none⟩ = some (.int .i64 0) := b1.cell 3
          have f3 := b1.free 3
          have B1' := Lib.hid b1'
          have B2' := Lib.hid b2'
          have B3' := Lib.hid b3'
          have B4' := Lib.hid b4'
          have HTK := Lib.hid hTk
          have HKG := Lib.hid hKg
          have HHb := Lib.hid hh
          have HUb := Lib.hid hu
          have HO1 := Lib.hid ho1
          have HL1 := Lib.hid hl
          have HO2 := Lib.hid ho2
          have HLE := Lib.hid hle
          have HP := Lib.hid hp
          have N8 := Lib.hid n8
          have N9 := Lib.hid n9
          have N10 := Lib.hid n10
          clear b1 b2 b3 b4 b1' b2' b3' b4' hTk hKg hh hu hk0 ho1 hl ho2 hle hp n8 n9 n10
          go_wp2
          generalize w9.setCell ⟨w2.heap.size, 3, none⟩ (.int .i64 ((M0 : Int) + (x : Int))) = W5 at B1' B2' B3' B4' HTK HKG ⊢
          clear c3 f3
          have l0 : W5.cell? ⟨w2.heap.size, 0, none⟩ = some (.slice (some ⟨hb, 0, none⟩) hs.length cA) := B1'.out.cell 0
          have l1 : W5.cell? ⟨w2.heap.size, 1, none⟩ = some (.int .i64 worn) := B1'.out.cell 1
          have l2 : W5.cell? ⟨w2.heap.size, 2, none⟩ = some (.int .i64 scr) := B1'.out.cell 2
          have l3 : W5.cell? ⟨w2.heap.size, 3, none⟩ = some (.int .i64 ((M0 : Int) + (x : Int))) := B1'.out.cell 3
          have l4 : W5.cell? ⟨w2.heap.size, 4, none⟩ = some (.slice Aq qs.length cq) := B1'.out.cell 4
          have k0 : W5.cell? ⟨w4.heap.size, 0, none⟩ = some (.int .i64 hand) := B2'.out.cell 0
          have k1 : W5.cell? ⟨w4.heap.size, 1, none⟩ = some (.string lts) := B2'.out.cell 1
          have k2 : W5.cell? ⟨w4.heap.size, 2, none⟩ = some (.slice Av vs.length cv) := B2'.out.cell 2
          have r0 : W5.cell? ⟨w.heap.size, 0, none⟩ = some (.slice none 0 0) := B3'.out.cell 0
          have r1 : W5.cell? ⟨w.heap.size, 1, none⟩ = some (.int .i64 0) := B3'.out.cell 1
          have r2 : W5.cell? ⟨w.heap.size, 2, none⟩ = some (.int .i64 0) := B3'.out.cell 2
          have r3 : W5.cell? ⟨w.heap.size, 3, none⟩ = some (.int .i64 0) := B3'.out.cell 3
          have r4 : W5.cell? ⟨w.heap.size, 4, none⟩ = some (.slice none 0 0) := B3'.out.cell 4
          have t0 : W5.cell? ⟨w.heap.size + 1, 0, none⟩ = some (.int .i64 0) := B4'.out.cell 0
          have t1 : W5.cell? ⟨w.heap.size + 1, 1, none⟩ = some (.string ⟨#[]⟩) := B4'.out.cell 1
          have t2 : W5.cell? ⟨w.heap.size + 1, 2, none⟩ = some (.slice none 0 0) := B4'.out.cell 2
          have g0 := B3'.out.free 0
          have g1 := B3'.out.free 1
          have g2 := B3'.out.free 2
          have g3 := B3'.out.free 3
          have g4 := B3'.out.free 4
          have j0 := B4'.out.free 0
          have j1 := B4'.out.free 1
          have j2 := B4'.out.free 2
          have m8 : w.heap.size ≠ w2.heap.size := N8.out
          have m9 : w.heap.size + 1 ≠ w2.heap.size := N9.out
          have m10 : w.heap.size ≠ w4.heap.size := by omega
          have m11 : w.heap.size + 1 ≠ w4.heap.size := by omega
          have z8 : Blok W5 w.heap.size 51 [.slice none 0 0, .int .i64 0, .int .i64 0, .int .i64 0, .slice none 0 0] := B3'.out
          have z9 : Blok W5 (w.heap.size + 1) 53 [.int .i64 0, .string ⟨#[]⟩, .slice none 0 0] := B4'.out
          have y8 := (z8.put5 (.slice (some ⟨hb, 0, none⟩) hs.length cA) (.int .i64 worn) (.int .i64 scr) (.int .i64 ((M0 : Int) + (x : Int))) (.slice Aq qs.length cq)).far3 N10.out (.int .i64 hand) (.string lts) (.slice Av vs.length cv)
          have y9' := z9.far5 (fun e => N10.out e.symm) (.slice (some ⟨hb, 0, none⟩) hs.length cA) (.int .i64 worn) (.int .i64 scr) (.int .i64 ((M0 : Int) + (x : Int))) (.slice Aq qs.length cq)
          have y9 := y9'.put3 (.int .i64 hand) (.string lts) (.slice Av vs.length cv)
          have yT := (HTK.out.put5 z8 (.inl rfl) (.slice (some ⟨hb, 0, none⟩) hs.length cA) (.int .i64 worn) (.int .i64 scr) (.int .i64 ((M0 : Int) + (x : Int))) (.slice Aq qs.length cq)).put3 y9' (.inr rfl) (.int .i64 hand) (.string lts) (.slice Av vs.length cv)
          have yK := (HKG.out.put5 (Nat.le_refl _) (.slice (some ⟨hb, 0, none⟩) hs.length cA) (.int .i64 worn) (.int .i64 scr) (.int .i64 ((M0 : Int) + (x : Int))) (.slice Aq qs.length cq)).put3 (Nat.le_succ _) (.int .i64 hand) (.string lts) (.slice Av vs.length cv)
          simp only [put5, put3] at y8 y9 yT yK
          have hpost := line_post HHb.out HUb.out HO1.out HL1.out HO2.out HLE.out HP.out yT.drew yK.drew HH.out HSE.out HOK.out (T := M0 + x) (show marksTo S ks vs qs.length ≤ M0 + x by rw [← HM0.out]; omega) (by omega) hqn (by omega) q8 (by omega) h4 hw2 hs2 (by omega)
          have Y8 := Lib.hid y8
          have Y9 := Lib.hid y9
          have HPOST := Lib.hid hpost
          clear z8 z9 y8 y9' y9 yT yK hpost
          go_region
          all_goals
            go_wp2
            refine bodyPost_ret (v := .tuple #[.agg #[.slice (some ⟨hb, 0, none⟩) hs.length cA, .int .i64 worn, .int .i64 scr, .int .i64 ((M0 + x : Nat) : Int), .slice Aq qs.length cq], .agg #[.int .i64 hand, .string lts, .slice Av vs.length cv]]) ?_ rfl HPOST.out
            exact results_cell_row2 Tryz.results17 _ _ w.heap.size (w.heap.size + 1) 51 53 _ _ _ _ rfl rfl (Blok.drew Y8.out) (Blok.drew Y9.out) Tryz.underlying51 Tryz.underlying53 rfl rfl (by kernel_rfl) (by kernel_rfl)
end
end Go.Proofs.YtmfjfjahemlhkaaGreat.Sg
