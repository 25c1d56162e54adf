/- timely: the chapter's examples, checked. -/
import Derived.Test.YtllkkkkladlikaaEu
import Derived.Test.YtllkkkkladlikaaEt
import Derived.Test.YtllkkkkladlikaaEp
import Derived.Test.YtllkkkkladlikaaEo
import Derived.Test.YtllkkkkladlikaaEa
namespace Go.Proofs.Ytllkkkkladlikaa
open Go.RowKit Dt

def tA : List (Int × Int) := [(-213, -212), (-215, -207), (-200, -177)]
theorem spanList_ex : spanList (exD (-5) 10) 1 3 = tA := by
  obtain ⟨-, h1, h2, h3⟩ := exD_years
  simp only [spanList, List.range_succ, List.range_zero, List.nil_append, List.cons_append, List.map_cons, List.map_nil, Nat.reduceAdd, h1, h2, h3, Nat.add_zero]
  rfl
set_option maxRecDepth 100000 in
set_option maxHeartbeats 2000000 in
theorem timely_any (w : World) : Calls Try.prog 21 #[] w fun e w' => e = .returned (.bool true) ∧ Below w.heap.size w w' := by
  have o1 := exD_ok (-5) 10 (by omega) (by omega) (by omega)
  have o2 := exD_ok 1 10 (by omega) (by omega) (by omega)
  have HY : Hid (∀ v w, DatAt w w.heap.size v (exD (-5) 10) → Calls Try.prog 13 #[v] w (SpanListPost tA w)) := Lib.hid fun v w hv => by
    have h := years_yes (exD (-5) 10) o1 ((may_iff o1).1 exD_years.1) v w.heap.size w (Nat.le_refl _) hv
    rwa [show spanList (exD (-5) 10) 1 (exD (-5) 10).stones = tA from spanList_ex] at h
  have HE : Hid (∀ v w, DatAt w w.heap.size v (exD 1 10) → Calls Try.prog 19 #[v, .int .i64 0, .int .i64 1] w fun e w' => e = .returned (.tuple #[.int .i64 1, .int .i64 0]) ∧ Below w.heap.size w w') := Lib.hid fun v w hv => by
    have h := earlier_yes (exD 1 10) o2 ((may_iff o2).1 exD_earlier.1) 0 1 (by decide) (by decide) v w.heap.size w (Nat.le_refl _) hv
    rwa [show (exD 1 10).laterV (1 + 0) (1 + 1) = 1 from exD_earlier.2] at h
  have HW : Hid (∀ v w, DatAt w w.heap.size v exG → Calls Try.prog 35 #[v] w fun e w' => ∃ u, e = .returned (.tuple #[u, .int .i64 0]) ∧ Ints w' w'.heap.size u [5] ∧ Below w.heap.size w w') := Lib.hid fun v w hv => by
    refine (wrong_any exG exG_ok v w.heap.size w (Nat.le_refl _) hv).mono ?_
    rintro e w' ⟨s, u, hs, rfl, hu, hb⟩
    obtain rfl := exG_least s hs
    exact ⟨u, rfl, by have e5 : setTo 32 8 = [5] := by decide +kernel
                      rwa [e5] at hu, hb⟩
  clear o1 o2
  go_enter Try.func21, Try.ntmps21
  go_upto_region 4 with (first
    | (go_at_call 24; (with_reducible refine (to_any (-5) 10 _).mono ?_); rintro e w1 ⟨rfl, hb⟩; have HB1 := Lib.hid hb; clear hb)
    | (go_at_call 53; (with_reducible refine (with_any (-5) 10 _).mono ?_); rintro e w2 ⟨b1, by_, b2, rfl, hm⟩; have HD2 := Lib.hid hm.dat; have HB2 := Lib.hid (HB1.out.trans (hm.below.mono HB1.out.size)); clear hm)
    | (go_at_call 13; refine (HY.out _ _ HD2.out).mono ?_; rintro e w3 hp; obtain ⟨a, rfl, ha, hb⟩ := hp; have HA3 := Lib.hid (spans_of_own ha); have HB3 := Lib.hid (HB2.out.trans (hb.mono HB2.out.size)); clear ha hb)
    | (go_at_call 54; refine (dating_any _).mono ?_; rintro e w4 ⟨c1, cy, c2, rfl, hm⟩; have HD4 := Lib.hid hm.dat; have HA4 := Lib.hid (HA3.out.keep (Same.of_below hm.below) hm.below.size); have HB4 := Lib.hid (HB3.out.trans (hm.below.mono HB3.out.size)); clear hm)
    | (go_at_call 19; refine (HE.out _ _ HD4.out).mono ?_; rintro e w5 ⟨rfl, hb⟩; have HA5 := Lib.hid (HA4.out.keep (Same.of_below hb) hb.size); have HB5 := Lib.hid (HB4.out.trans (hb.mono HB4.out.size)); clear hb)
    | (go_at_call 55; refine (doubt_any _).mono ?_; rintro e w6 ⟨v6, rfl, hd, hb⟩; have HD6 := Lib.hid hd; have HA6 := Lib.hid (HA5.out.keep (Same.of_below hb) hb.size); have HB6 := Lib.hid (HB5.out.trans (hb.mono HB5.out.size)); clear hb hd)
    | (go_at_call 35; refine (HW.out _ _ HD6.out).mono ?_; rintro e w7 ⟨u, rfl, hu, hb⟩; have HU7 := Lib.hid hu; have HA7 := Lib.hid (HA6.out.keep (Same.of_below hb) hb.size); have HB7 := Lib.hid (HB6.out.trans (hb.mono HB6.out.size)); clear hb hu))
  have hsi : Calls Try.prog 38 #[u, .slice (some ⟨w7.heap.size, 0, none⟩) 1 1] (w7.alloc (.cells #[.int .i64 5] 3)) fun e w' => e = .returned (.bool true) ∧ Below w7.heap.size w7 w' := by
    have ba : Below w7.heap.size w7 (w7.alloc (.cells #[.int .i64 5] 3)) := (Below.refl _ w7).alloc (Nat.le_refl _) _
    have kl := Blok.new w7 3 [.int .i64 5]
    have hl : Ints (w7.alloc (.cells #[.int .i64 5] 3)) (w7.alloc (.cells #[.int .i64 5] 3)).heap.size (.slice (some ⟨w7.heap.size, 0, none⟩) 1 1) [5] := ⟨_, _, rfl, fun _ => ⟨w7.heap.size, 0, rfl, kl.size, fun k x hx => by
      rcases k with _ | k
      · simp at hx
        subst hx
        exact kl.cell 0
      · simp at hx⟩⟩
    refine (sameInts_any [5] [5] (by decide) (by decide) _ _ _ _ (Nat.le_refl _) (HU7.out.keep (Same.of_below ba) ba.size) hl).mono ?_
    rintro e w' ⟨rfl, hb⟩
    exact ⟨ret_bool (by simp), ba.trans (hb.mono ba.size)⟩
  have hss : ∀ w8, Below w7.heap.size w7 w8 → Calls Try.prog 33 #[a, .slice (some ⟨w8.heap.size, 0, none⟩) 3 3] (w8.alloc (.cells #[.int .i64 (-213), .int .i64 (-212), .int .i64 (-215), .int .i64 (-207), .int .i64 (-200), .int .i64 (-177)] 39)) fun e w' => e = .returned (.bool true) ∧ Below w7.heap.size w7 w' := by
    intro w8 h8
    have ba : Below w8.heap.size w8 (w8.alloc (.cells #[.int .i64 (-213), .int .i64 (-212), .int .i64 (-215), .int .i64 (-207), .int .i64 (-200), .int .i64 (-177)] 39)) := (Below.refl _ w8).alloc (Nat.le_refl _) _
    have kl := Blok.new w8 39 [.int .i64 (-213), .int .i64 (-212), .int .i64 (-215), .int .i64 (-207), .int .i64 (-200), .int .i64 (-177)]
    have hl : Spans (w8.alloc (.cells #[.int .i64 (-213), .int .i64 (-212), .int .i64 (-215), .int .i64 (-207), .int .i64 (-200), .int .i64 (-177)] 39)) (w8.alloc (.cells #[.int .i64 (-213), .int .i64 (-212), .int .i64 (-215), .int .i64 (-207), .int .i64 (-200), .int .i64 (-177)] 39)).heap.size (.slice (some ⟨w8.heap.size, 0, none⟩) 3 3) tA := ⟨_, _, rfl, fun _ => ⟨w8.heap.size, 0, rfl, kl.size, fun k x hx => by
      rcases k with _ | _ | _ | k
      · simp [tA] at hx
        subst hx
        exact ⟨kl.cell 0, kl.cell 1⟩
      · simp [tA] at hx
        subst hx
        exact ⟨kl.cell 2, kl.cell 3⟩
      · simp [tA] at hx
        subst hx
        exact ⟨kl.cell 4, kl.cell 5⟩
      · simp [tA] at hx⟩⟩
    have ha8 := (HA7.out.keep (Same.of_below h8) h8.size).keep (Same.of_below ba) ba.size
    refine (sameSpans_any tA tA (by decide) (by decide) _ _ _ _ (Nat.le_refl _) ha8 hl).mono ?_
    rintro e w' ⟨rfl, hb⟩
    exact ⟨ret_bool (by simp), h8.trans ((ba.mono h8.size).trans (hb.mono (Nat.le_trans h8.size ba.size)))⟩
  have HSI := Lib.hid hsi
  have HSS := Lib.hid hss
  clear hsi hss
  go_wp2_with (first
    | (go_at_call 38; refine HSI.out.mono ?_; rintro e w8 ⟨rfl, hb⟩; have HB8 := Lib.hid hb; clear hb)
    | (go_at_call 24; (with_reducible refine (to_any (-213) (-212) _).mono ?_); rintro e w9 ⟨rfl, hb⟩; have HB9 := Lib.hid (HB8.out.trans (hb.mono HB8.out.size)); clear hb)
    | (go_at_call 24; (with_reducible refine (to_any (-215) (-207) _).mono ?_); rintro e wa ⟨rfl, hb⟩; have HBa := Lib.hid (HB9.out.trans (hb.mono HB9.out.size)); clear hb)
    | (go_at_call 24; (with_reducible refine (to_any (-200) (-177) _).mono ?_); rintro e wb ⟨rfl, hb⟩; have HBb := Lib.hid (HBa.out.trans (hb.mono HBa.out.size)); clear hb)
    | (go_at_call 33; refine (HSS.out _ HBb.out).mono ?_; rintro e wc ⟨rfl, hb⟩; have HBc := Lib.hid hb; clear hb))
  go_ret
  exact ⟨rfl, HB7.out.trans (HBc.out.mono HB7.out.size)⟩
end Go.Proofs.Ytllkkkkladlikaa
