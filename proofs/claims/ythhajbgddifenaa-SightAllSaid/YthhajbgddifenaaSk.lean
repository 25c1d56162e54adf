/- SightAll's helpers: slim. -/
import Derived.Test.YthhajbgddifenaaSn
import Derived.Deep.RegionLaw
import Derived.Deep.RegionHeld3
import Derived.Deep.DeepCutAuto
import Derived.Deep.QuietTactic
import Derived.BigQuiet
import Derived.Deep.CutBlock
namespace Go.Proofs.Ythhajbgddifenaa
open Go.RowKit Go.Shelf

/-- Within slim. -/
structure SlI (g B : Nat) (w wr : World) (rb lb hb hc sb sc : Nat) (L : Line) (P Q : Nat → Nat → Prop) : Prop where
  urn : UrnAt wr g
  kg : Kg g w wr
  res : Blok wr rb 25 zeroLine
  box : Blok wr lb 25 [.slice (some ⟨hb, 0, none⟩) L.hands.length hc, .int .i64 L.worn, .int .i64 L.scr, .int .i64 L.total, .slice (some ⟨sb, 0, none⟩) L.squares.length sc]
  hands : HdSlim B wr hb L.hands P
  sqs : SqSlim B wr sb L.squares Q
section
variable {g B : Nat} {w wr : World} {rb lb hb hc sb sc : Nat} {L : Line} {P Q P' Q' : Nat → Nat → Prop}
theorem SlI.imp (h : SlI g B w wr rb lb hb hc sb sc L P Q) (hP : ∀ j k, P' j k → P j k) (hQ : ∀ j k, Q' j k → Q j k) : SlI g B w wr rb lb hb hc sb sc L P' Q' :=
  ⟨h.urn, h.kg, h.res, h.box, h.hands.imp hP, h.sqs.imp hQ⟩
theorem SlI.imp' (h : SlI g B w wr rb lb hb hc sb sc L P Q) (hP : ∀ j k H x, L.hands[j]? = some H → H.shapes[k]? = some x → P' j k → P j k) (hQ : ∀ j k q x, L.squares[j]? = some q → q[k]? = some x → Q' j k → Q j k) : SlI g B w wr rb lb hb hc sb sc L P' Q' := by
  obtain ⟨a, b, c, d, ⟨cur, hbk, e⟩, ⟨cur', sbk, f⟩⟩ := h
  refine ⟨a, b, c, d, ⟨cur, hbk, fun j x hx => ?_⟩, ⟨cur', sbk, fun j x hx => ?_⟩⟩
  · obtain ⟨h1, h2, sv, h3, b, c, sc, e, hB, hbl, h4⟩ := e j x hx
    refine ⟨h1, h2, sv, h3, b, c, sc, e, hB, hbl, fun k y hy => ?_⟩
    obtain ⟨d0, d1, s, d2, d3, d4⟩ := h4 k y hy
    exact ⟨d0, d1, s, d2, d3, fun hp => d4 (hP j k x y hx hy hp)⟩
  · obtain ⟨lv, h1, h2⟩ := f j x hx
    refine ⟨lv, h1, ?_⟩
    rcases h2 with h2 | ⟨b, c, sc, e, hB, hbl, h4⟩
    · exact .inl h2
    · refine .inr ⟨b, c, sc, e, hB, hbl, fun k y hy => ?_⟩
      obtain ⟨d0, d1, a, s, d2, d3, d4, d5, d6⟩ := h4 k y hy
      exact ⟨d0, d1, a, s, d2, d3, d4, d5, fun hp => d6 (hQ j k x y hx hy hp)⟩
theorem SlI.drew (h : SlI g B w wr rb lb hb hc sb sc L P Q) : SlI g B w wr.drew rb lb hb hc sb sc L P Q :=
  ⟨h.urn.drewN 1, h.kg.drew, h.res, h.box, h.hands.keep fun _ _ _ hb _ => hb, h.sqs.keep fun _ _ _ hb _ => hb⟩
theorem SlI.keepKg {w' : World} (h : SlI g B w wr rb lb hb hc sb sc L P Q) (hk : Kg g wr w') (hu : UrnAt w' g) : SlI g B w w' rb lb hb hc sb sc L P Q :=
  ⟨hu, h.kg.trans hk, h.res.kg hk (h.urn.ne h.res (by decide)), h.box.kg hk (h.urn.ne h.box (by decide)), h.hands.keep fun _ _ _ hb ht => hb.kg hk (h.urn.ne hb (by rcases ht with rfl | rfl <;> decide)), h.sqs.keep fun _ _ _ hb ht => hb.kg hk (h.urn.ne hb (by rcases ht with rfl | rfl <;> decide))⟩
theorem SlI.total (h : SlI g B w wr rb lb hb hc sb sc L P Q) (hlb : w.heap.size ≤ lb) (hne : rb ≠ lb) (x : Nat) : SlI g B w (wr.setCell ⟨lb, 3, none⟩ (.int .i64 x)) rb lb hb hc sb sc (L.withTotal x) P Q :=
  ⟨h.urn.far (p := ⟨lb, 3, none⟩) (h.urn.ne h.box (by decide)).symm _, h.kg.putNew (p := ⟨lb, 3, none⟩) hlb _, h.res.far (p := ⟨lb, 3, none⟩) hne _, h.box.put 3 _, h.hands.keep fun _ _ _ hb ht => hb.far (p := ⟨lb, 3, none⟩) (blok_ne hb h.box (by rcases ht with rfl | rfl <;> decide)) _, h.sqs.keep fun _ _ _ hb ht => hb.far (p := ⟨lb, 3, none⟩) (blok_ne hb h.box (by rcases ht with rfl | rfl <;> decide)) _⟩
theorem SlI.hand (h : SlI g B w wr rb lb hb hc sb sc L P Q) {b p : Nat} {cur : List Value} (hbl : Blok wr b 86 cur) (hB : w.heap.size ≤ B) (hb' : B ≤ b) {u : Value} (hh : HdSlim B (wr.setCell ⟨b, p, none⟩ u) hb L.hands P') : SlI g B w (wr.setCell ⟨b, p, none⟩ u) rb lb hb hc sb sc L P' Q :=
  ⟨h.urn.far (p := ⟨b, p, none⟩) (h.urn.ne hbl (by decide)).symm u, h.kg.putNew (p := ⟨b, p, none⟩) (by show w.heap.size ≤ b; omega) u, h.res.far (p := ⟨b, p, none⟩) (blok_ne h.res hbl (by decide)) u, h.box.far (p := ⟨b, p, none⟩) (blok_ne h.box hbl (by decide)) u, hh,
    h.sqs.keep fun b' t cs hb'' ht => hb''.far (p := ⟨b, p, none⟩) (blok_ne hb'' hbl (by rcases ht with rfl | rfl <;> decide)) u⟩
theorem SlI.light (h : SlI g B w wr rb lb hb hc sb sc L P Q) {b p p' : Nat} {cur : List Value} (hbl : Blok wr b 27 cur) (hB : w.heap.size ≤ B) (hb' : B ≤ b) {u u' : Value} (hh : SqSlim B ((wr.setCell ⟨b, p, none⟩ u).setCell ⟨b, p', none⟩ u') sb L.squares Q') : SlI g B w ((wr.setCell ⟨b, p, none⟩ u).setCell ⟨b, p', none⟩ u') rb lb hb hc sb sc L P Q' :=
  ⟨(h.urn.far (p := ⟨b, p, none⟩) (h.urn.ne hbl (by decide)).symm u).far (p := ⟨b, p', none⟩) (h.urn.ne hbl (by decide)).symm u', (h.kg.putNew (p := ⟨b, p, none⟩) (by show w.heap.size ≤ b; omega) u).putNew (p := ⟨b, p', none⟩) (by show w.heap.size ≤ b; omega) u', (h.res.far (p := ⟨b, p, none⟩) (blok_ne h.res hbl (by decide)) u).far (p := ⟨b, p', none⟩) (blok_ne h.res hbl (by decide)) u',
    (h.box.far (p := ⟨b, p, none⟩) (blok_ne h.box hbl (by decide)) u).far (p := ⟨b, p', none⟩) (blok_ne h.box hbl (by decide)) u',
    h.hands.keep fun b' t cs hb'' ht => (hb''.far (p := ⟨b, p, none⟩) (blok_ne hb'' hbl (by rcases ht with rfl | rfl <;> decide)) u).far (p := ⟨b, p', none⟩) (blok_ne hb'' hbl (by rcases ht with rfl | rfl <;> decide)) u', hh⟩
end
theorem HdSlim.slot {B hb : Nat} {wr : World} {hs : List Hand} {P : Nat → Nat → Prop} (h : HdSlim B wr hb hs P) {i : Nat} {H : Hand} (hi : hs[i]? = some H) : ∃ b c, wr.cell? ⟨hb, i * 3 + 2, none⟩ = some (.slice (some ⟨b, 0, none⟩) H.shapes.length c) := by
  obtain ⟨hcur, hbk, h⟩ := h
  obtain ⟨-, -, sv, h3, b, c, cur, rfl, _⟩ := h i H hi
  exact ⟨b, c, by rw [hbk.cell, h3]⟩
theorem SqSlim.slot {B sb : Nat} {wr : World} {qs : List (List Light)} {P : Nat → Nat → Prop} (h : SqSlim B wr sb qs P) {i : Nat} {q : List Light} (hi : qs[i]? = some q) : ∃ A c, wr.cell? ⟨sb, i, none⟩ = some (.slice A q.length c) := by
  obtain ⟨hcur, hbk, h⟩ := h
  obtain ⟨lv, h3, h4⟩ := h i q hi
  rcases h4 with ⟨rfl, rfl⟩ | ⟨b, c, cur, rfl, _⟩
  · exact ⟨none, 0, by rw [hbk.cell, h3]; rfl⟩
  · exact ⟨_, c, by rw [hbk.cell, h3]⟩
def SlimPost (g : Nat) (w : World) (e : Ending) (w' : World) : Prop := ∃ L v, e = .returned v ∧ LineAt w' w'.heap.size v L ∧ Slim L ∧ UrnAt w' g ∧ Kg g w w'

set_option maxRecDepth 100000 in
set_option maxHeartbeats 4000000 in
theorem slim_any (g : Nat) (w : World) (hu : UrnAt w g) : Calls Try.prog 40 #[.pointer (some ⟨g, 0, none⟩)] w (SlimPost g w) := by
  have HU := Lib.hid hu
  have hgw := hu.size
  clear hu
  go_enter Try.func40, Try.ntmps40
  go_wp2_with fail
  refine (lineOf_any _ 2 3 3 _ (by omega) (by omega) (by omega) (by omega) (by omega) (by omega) (HU.out.alloc _)).mono ?_
  rintro e w2 ⟨L, lv, vv, hand, ks, vis, lts, H, rfl, hlb, hok, hl2, hsm, hl3, htr, hH, hmk, -, hvv, hnew, hu2, hk2⟩
  obtain ⟨vh, vs, rfl, hhb, hsb⟩ := hlb
  obtain ⟨hb, hc, hcur, hsvs, rfl, -⟩ := id hhb
  obtain ⟨sb, sc, scur, slvs, rfl, -⟩ := id hsb
  obtain ⟨vb, vc, vcur, rfl, -⟩ := hvv
  obtain ⟨-, -, hhN, hsN⟩ := hnew sb _ _ _ _ _ _ rfl
  have HOK := Lib.hid hok
  have HSM := Lib.hid hsm
  have hL32 : ∀ q ∈ L.squares, ∀ x ∈ q, x.shows < 32 ∧ x.seen < 32 := fun q hq x hx => by
    obtain ⟨j, hj, rfl⟩ := List.mem_iff_getElem.1 hq
    have h1 : j < ks.length := by rw [htr.len]; exact hj
    have h2 : j < vis.length := by rw [htr.len']; exact hj
    obtain ⟨s, -, hsq⟩ := htr.sq j H L.squares[j] ks[j] vis[j] hH (List.getElem?_eq_getElem hj) (List.getElem?_eq_getElem h1) (List.getElem?_eq_getElem h2)
    obtain ⟨g1, g2⟩ := hsq.2.2.2.2 x hx
    exact ⟨g1, by rw [g2]; exact Nat.lt_of_le_of_lt Nat.and_le_right g1⟩
  have hz2 : w.heap.size < w2.heap.size := by have := hk2.size; simp at this; omega
  have hst : SlI g (w.heap.size + 1) w ((w2.alloc (.cells #[.slice (some ⟨hb, 0, none⟩) L.hands.length hc, .int .i64 L.worn, .int .i64 L.scr, .int .i64 L.total, .slice (some ⟨sb, 0, none⟩) L.squares.length sc] 25)).alloc (.cells #[.int .i64 hand, .string lts, .slice (some ⟨vb, 0, none⟩) vis.length vc] 32)) w.heap.size w2.heap.size hb hc sb sc L (fun j _ => j < 0) (fun j _ => j < 0) := by
    have hbel := ((Below.refl w2.heap.size w2).alloc (Nat.le_refl _) (.cells #[.slice (some ⟨hb, 0, none⟩) L.hands.length hc, .int .i64 L.worn, .int .i64 L.scr, .int .i64 L.total, .slice (some ⟨sb, 0, none⟩) L.squares.length sc] 25)).alloc (by simp) (.cells #[.int .i64 hand, .string lts, .slice (some ⟨vb, 0, none⟩) vis.length vc] 32)
    have hN1 := HdSlim.start (P := fun j _ => j < 0) hhN (fun h hh s hs => (hsm h hh).2 s hs) (fun j k h => by omega)
    have hN2 := SqSlim.start (P := fun j _ => j < 0) hsN hL32 (fun j k h => by omega)
    simp only [World.size_alloc] at hN1 hN2
    refine ⟨(hu2.alloc _).alloc _, (((Kg.refl g w).alloc _).trans hk2).trans (Kg.of_below hbel), ?_, (Blok.new w2 25 [.slice (some ⟨hb, 0, none⟩) L.hands.length hc, .int .i64 L.worn, .int .i64 L.scr, .int .i64 L.total, .slice (some ⟨sb, 0, none⟩) L.squares.length sc]).alloc _, hN1.keep fun b t cs h _ => h.below hbel h.size, hN2.keep fun b t cs h _ => h.below hbel h.size⟩
    exact (((Blok.new w 25 zeroLine).kg hk2 (by omega)).alloc _).alloc _
  have HST := Lib.hid hst
  have hh4 : L.hands.length ≤ 2 := hl2
  have hq3 : L.squares.length ≤ 3 := hl3
  obtain ⟨n, hn⟩ : ∃ n, n = L.hands.length := ⟨_, rfl⟩
  obtain ⟨m, hm⟩ : ∃ m, m = L.squares.length := ⟨_, rfl⟩
  rw [← hn] at hh4
  rw [← hm] at hq3
  rw [← hn, ← hm] at HST
  rw [← hn, ← hm]
  have HN := Lib.hid hn
  have HM := Lib.hid hm
  clear hst hhb hsb hu2 hk2 hok htr hH hmk hnew hl2 hl3 hsm hhN hsN hn hm hL32 HU
  go_wp2_with fail
  go_loopw [5] (fun si wr => ∃ i : Nat, i ≤ n ∧ si = .int .i64 i ∧ Hid (SlI g (w.heap.size + 1) w wr w.heap.size w2.heap.size hb hc sb sc L (fun j _ => j < i) (fun j _ => j < 0))) (fun si _ => n - (intOf si).toNat)
  case atStart => exact ⟨0, by omega, rfl, HST⟩
  case round =>
    clear HST
    obtain ⟨i, hi, rfl, HI⟩ := hrel
    have c0 : wr.cell? ⟨w2.heap.size, 0, none⟩ = some (.slice (some ⟨hb, 0, none⟩) n hc) := by rw [HI.out.box.cell, HN.out]; rfl
    by_cases hin : i < n
    · have hiL : i < L.hands.length := by rw [← HN.out]; exact hin
      obtain ⟨K, hK⟩ : ∃ K, L.hands[i]? = some K := ⟨_, List.getElem?_eq_getElem hiL⟩
      have hS3 := (HSM.out K (List.mem_of_getElem? hK)).1
      obtain ⟨nS, hnS⟩ : ∃ nS, nS = K.shapes.length := ⟨_, rfl⟩
      rw [← hnS] at hS3
      have HNS := Lib.hid hnS
      have HKK := Lib.hid hK
      have i0 : (0 : Int) ≤ (i : Int) := by omega
      have i1 : (i : Int) < (n : Int) := by omega
      clear hnS hK hiL
      go_wp2_with fail
      obtain ⟨wo, rfl⟩ : ∃ wo : World, wo = wr := ⟨_, rfl⟩
      have HI0 := Lib.hid (HI.out.imp (P' := fun j l => j < i ∨ (j = i ∧ l < 0)) (Q' := fun j _ => j < 0) (fun j k h => by omega) (fun j k h => h))
      clear c0 HI
      go_loopw [6] (fun sk wx => ∃ k : Nat, k ≤ nS ∧ sk = .int .i64 k ∧ Hid (SlI g (w.heap.size + 1) w wx w.heap.size w2.heap.size hb hc sb sc L (fun j l => j < i ∨ (j = i ∧ l < k)) (fun j _ => j < 0))) (fun sk _ => nS - (intOf sk).toNat)
      case atStart => exact ⟨0, by omega, rfl, HI0⟩
      case round =>
        clear HI0
        obtain ⟨k, hk, rfl, HJ⟩ := hrel
        have c0 : wr.cell? ⟨w2.heap.size, 0, none⟩ = some (.slice (some ⟨hb, 0, none⟩) n hc) := by rw [HJ.out.box.cell, HN.out]; rfl
        by_cases hkn : k < nS
        · obtain ⟨x, hx⟩ : ∃ x, K.shapes[k]? = some x := ⟨_, List.getElem?_eq_getElem (by rw [← HNS.out]; exact hkn)⟩
          obtain ⟨b, c, s, cur, d1, d2, d3, s32, hB, hbl, hstep⟩ := HJ.out.hands.step HKK.out hx
          rw [← HNS.out] at d1
          have HSTEP := Lib.hid (HJ.out.hand hbl (by omega) hB hstep)
          have ea := and_lights s 15 s32
          have k0 : (0 : Int) ≤ (k : Int) := by omega
          have k1 : (k : Int) < (nS : Int) := by omega
          have z1 : b < wr.heap.size := hbl.size
          clear hx hstep hbl hB
          have hsl : slimS s = max 1 (s &&& 15) := rfl
          have a15 := and15_lt s
          obtain ⟨s2, hs2⟩ : ∃ s2, s2 = s &&& 15 := ⟨_, rfl⟩
          rw [← hs2] at hsl a15
          have ea' : bits .and .i64 (s : Int) 15 = (s2 : Int) := by rw [hs2]; exact ea
          have HSL := Lib.hid hsl
          clear hsl hs2 ea
          by_cases h1 : 1 < s2
          · have HV := Lib.hid (show slimS s = s2 by rw [HSL.out]; omega)
            go_wp2_with fail
            refine ⟨⟨k + 1, by omega, by go_num, Lib.hid ?_⟩, by simp [intOf]; omega⟩
            have h := HSTEP.out
            rw [HV.out] at h
            exact h.imp (fun j l hjl => by omega) (fun j l h => h)
          · have HV := Lib.hid (show slimS s = 1 by rw [HSL.out]; omega)
            go_wp2_with fail
            refine ⟨⟨k + 1, by omega, by go_num, Lib.hid ?_⟩, by simp [intOf]; omega⟩
            have h := HSTEP.out
            rw [HV.out] at h
            exact h.imp (fun j l hjl => by omega) (fun j l h => h)
        · obtain rfl : k = nS := by omega
          obtain ⟨b, c, d1⟩ := HJ.out.hands.slot HKK.out
          rw [← HNS.out] at d1
          have HSMK := Lib.hid (HJ.out.hands)
          go_wp2_with fail
          refine ⟨⟨i + 1, by omega, by go_num, Lib.hid ?_⟩, by simp [intOf]; omega⟩
          refine HJ.out.imp' (fun j l H' x hH' hx hjl => ?_) (fun j l q x _ _ h => h)
          by_cases e : j = i
          · subst e
            rw [HKK.out] at hH'
            injection hH' with hH'
            subst hH'
            have := (List.getElem?_eq_some_iff.1 hx).1
            exact .inr ⟨rfl, by rw [HNS.out]; exact this⟩
          · exact .inl (by omega)
    · obtain rfl : i = n := by omega
      go_wp2_with fail
      clear c0
      go_loopw [8] (fun si wr => ∃ i : Nat, i ≤ m ∧ si = .int .i64 i ∧ Hid (SlI g (w.heap.size + 1) w wr w.heap.size w2.heap.size hb hc sb sc L (fun j _ => True) (fun j _ => j < i))) (fun si _ => m - (intOf si).toNat)
      case atStart =>
        refine ⟨0, by omega, rfl, Lib.hid (HI.out.imp' (fun j l H' x hH' hx hjl => ?_) (fun j l q x _ _ h => h))⟩
        have := (List.getElem?_eq_some_iff.1 hH').1
        rw [HN.out]
        exact this
      case round =>
        clear HI
        obtain ⟨i, hi, rfl, HI⟩ := hrel
        have c4 : wr.cell? ⟨w2.heap.size, 4, none⟩ = some (.slice (some ⟨sb, 0, none⟩) m sc) := by rw [HI.out.box.cell, HM.out]; rfl
        by_cases him : i < m
        · have hiL : i < L.squares.length := by rw [← HM.out]; exact him
          obtain ⟨q, hq⟩ : ∃ q, L.squares[i]? = some q := ⟨_, List.getElem?_eq_getElem hiL⟩
          have hq4 := (HOK.out.2.2.2.2.2.2.2.2 q (List.mem_of_getElem? hq)).1
          obtain ⟨nQ, hnQ⟩ : ∃ nQ, nQ = q.length := ⟨_, rfl⟩
          rw [← hnQ] at hq4
          have HNQ := Lib.hid hnQ
          have HQ := Lib.hid hq
          have i0 : (0 : Int) ≤ (i : Int) := by omega
          have i1 : (i : Int) < (m : Int) := by omega
          clear hnQ hq hiL
          go_wp2_with fail
          obtain ⟨wo, rfl⟩ : ∃ wo : World, wo = wr := ⟨_, rfl⟩
          have HI0 := Lib.hid (HI.out.imp (P' := fun j _ => True) (Q' := fun j l => j < i ∨ (j = i ∧ l < 0)) (fun j k h => h) (fun j k h => by omega))
          clear c4 HI
          go_loopw [9] (fun sk wx => ∃ k : Nat, k ≤ nQ ∧ sk = .int .i64 k ∧ Hid (SlI g (w.heap.size + 1) w wx w.heap.size w2.heap.size hb hc sb sc L (fun j _ => True) (fun j l => j < i ∨ (j = i ∧ l < k)))) (fun sk _ => nQ - (intOf sk).toNat)
          case atStart => exact ⟨0, by omega, rfl, HI0⟩
          case round =>
            clear HI0
            obtain ⟨k, hk, rfl, HJ⟩ := hrel
            have c4 : wr.cell? ⟨w2.heap.size, 4, none⟩ = some (.slice (some ⟨sb, 0, none⟩) m sc) := by rw [HJ.out.box.cell, HM.out]; rfl
            by_cases hkn : k < nQ
            · obtain ⟨x, hx⟩ : ∃ x, q[k]? = some x := ⟨_, List.getElem?_eq_getElem (by rw [← HNQ.out]; exact hkn)⟩
              obtain ⟨b, c, a, s, cur, d1, d2, d3, f2, f3, a32, s32, hB, hbl, hstep⟩ := HJ.out.sqs.step HQ.out hx
              rw [← HNQ.out] at d1
              have HSTEP := Lib.hid (HJ.out.light hbl (by omega) hB hstep)
              have ea : bits .and .i64 (a : Int) 15 = ((a &&& 15 : Nat) : Int) := and_lights a 15 a32
              have es : bits .and .i64 (s : Int) 15 = ((s &&& 15 : Nat) : Int) := and_lights s 15 s32
              have k0 : (0 : Int) ≤ (k : Int) := by omega
              have k1 : (k : Int) < (nQ : Int) := by omega
              have z1 : b < wr.heap.size := hbl.size
              clear hx hstep hbl hB
              go_wp2_with fail
              go_region
              all_goals
                go_wp2_with fail
                refine ⟨⟨k + 1, by omega, by go_num, Lib.hid ?_⟩, by simp [intOf]; omega⟩
                exact (HSTEP.out.imp (fun _ _ h => h) (fun j l hjl => by omega)).drew
            · obtain rfl : k = nQ := by omega
              obtain ⟨A, c, d1⟩ := HJ.out.sqs.slot HQ.out
              rw [← HNQ.out] at d1
              go_wp2_with fail
              refine ⟨⟨i + 1, by omega, by go_num, Lib.hid ?_⟩, by simp [intOf]; omega⟩
              refine HJ.out.imp' (fun j l H' x _ _ h => h) (fun j l q' x hq' hx hjl => ?_)
              by_cases e : j = i
              · subst e
                rw [HQ.out] at hq'
                injection hq' with hq'
                subst hq'
                have := (List.getElem?_eq_some_iff.1 hx).1
                exact .inr ⟨rfl, by rw [HNQ.out]; exact this⟩
              · exact .inl (by omega)
        · obtain rfl : i = m := by omega
          have HI' := Lib.hid (HI.out.imp' (P' := fun _ _ => True) (Q' := fun _ _ => True) (fun j l H' x _ _ h => trivial) (fun j l q' x hq' hx _ => by
            have := (List.getElem?_eq_some_iff.1 hq').1
            show j < i
            rw [HM.out]
            exact this))
          have l3 : wr.cell? ⟨w2.heap.size, 3, none⟩ = some (.int .i64 L.total) := HI'.out.box.cell 3
          have t40 := HOK.out.2.2.2.2.2.1
          have HUD := Lib.hid (show UrnAt wr.drew g from HI'.out.urn)
          have zl : w2.heap.size < wr.heap.size := HI'.out.box.size
          clear HI
          go_wp2_with fail
          clear c4
          go_cut [] (fun wx => ∃ x : Nat, x ≤ 40 ∧ SlI g (w.heap.size + 1) w wx w.heap.size w2.heap.size hb hc sb sc (L.withTotal x) (fun _ _ => True) (fun _ _ => True))
          case first =>
           go_region_law (first
            | (go_simp; go_at_call 42; (with_reducible refine (up_any g (4 : Int) wr.drew (by omega) HUD.out).mono ?_); rintro e w5 ⟨r, rfl, hr, hu5, hk5⟩; have HU5 := Lib.hid hu5; have HK5 := Lib.hid hk5; have l3 : w5.cell? ⟨w2.heap.size, 3, none⟩ = some (.int .i64 L.total) := (HI'.out.box.kg (a := wr) ((Kg.refl g wr).drew.trans hk5) (HI'.out.urn.ne HI'.out.box (by decide))).cell 3; have HR := Lib.hid hr; have z5 : w2.heap.size < w5.heap.size := (by have h0 : wr.heap.size ≤ w5.heap.size := hk5.size; omega); clear hu5 hk5 hr)
            | (go_simp; go_at_call 52; (with_reducible refine (any_any g w5.heap.size 2 2 3 [(L.total : Int), (r : Int)] _ rfl (by simp) (by simp) (Blok.new w5 3 [.int .i64 L.total, .int .i64 r]) (by have := HU5.out.size; omega) (HU5.out.alloc _)).mono ?_); rintro e w6 ⟨x, rfl, hx, hu6, hk6⟩; have HU6 := Lib.hid hu6; have HK6 := Lib.hid hk6; have l3 : w6.cell? ⟨w2.heap.size, 3, none⟩ = some (.int .i64 L.total) := (HI'.out.box.kg (a := wr) ((((Kg.refl g wr).drew.trans HK5.out).alloc _).trans hk6) (HI'.out.urn.ne HI'.out.box (by decide))).cell 3; have f3 : w6.frozen? ⟨w2.heap.size, 3, none⟩ = false := (HI'.out.box.kg (a := wr) ((((Kg.refl g wr).drew.trans HK5.out).alloc _).trans hk6) (HI'.out.urn.ne HI'.out.box (by decide))).free 3; have HX := Lib.hid hx; clear hu6 hk6 hx))
           all_goals
            go_wp2_with fail
            go_meet
            have hx := HX.out
            have hr := HR.out
            have hx0 : 0 ≤ x ∧ x ≤ 40 := by simp at hx; omega
            obtain ⟨xn, rfl⟩ := Int.eq_ofNat_of_zero_le hx0.1
            exact ⟨xn, by omega, ((HI'.out.drew.keepKg (HK5.out) HU5.out).keepKg (((Kg.refl _ _).alloc _).trans HK6.out) HU6.out).total (by omega) (by omega) xn⟩
          case rest =>
            obtain ⟨x, hx40, hsl⟩ := hcut
            have HSLI := Lib.hid hsl
            have c0 : wc.cell? ⟨w2.heap.size, 0, none⟩ = some (.slice (some ⟨hb, 0, none⟩) L.hands.length hc) := hsl.box.cell 0
            have c1 : wc.cell? ⟨w2.heap.size, 1, none⟩ = some (.int .i64 L.worn) := hsl.box.cell 1
            have c2 : wc.cell? ⟨w2.heap.size, 2, none⟩ = some (.int .i64 L.scr) := hsl.box.cell 2
            have c3 : wc.cell? ⟨w2.heap.size, 3, none⟩ = some (.int .i64 x) := hsl.box.cell 3
            have c4 : wc.cell? ⟨w2.heap.size, 4, none⟩ = some (.slice (some ⟨sb, 0, none⟩) L.squares.length sc) := hsl.box.cell 4
            have r0 : wc.cell? ⟨w.heap.size, 0, none⟩ = some (.slice none 0 0) := hsl.res.cell 0
            have r1 : wc.cell? ⟨w.heap.size, 1, none⟩ = some (.int .i64 0) := hsl.res.cell 1
            have r2 : wc.cell? ⟨w.heap.size, 2, none⟩ = some (.int .i64 0) := hsl.res.cell 2
            have r3 : wc.cell? ⟨w.heap.size, 3, none⟩ = some (.int .i64 0) := hsl.res.cell 3
            have r4 : wc.cell? ⟨w.heap.size, 4, none⟩ = some (.slice none 0 0) := hsl.res.cell 4
            have f0 := hsl.res.free 0
            have f1 := hsl.res.free 1
            have f2 := hsl.res.free 2
            have f3 := hsl.res.free 3
            have f4 := hsl.res.free 4
            clear hsl HI' l3 HUD
            go_wp2_with fail
            have hS := HSLI.out
            have hres : Blok wc w.heap.size 25 [.slice none 0 0, .int .i64 0, .int .i64 0, .int .i64 0, .slice none 0 0] := hS.res
            have y8 := hres.put5 (.slice (some ⟨hb, 0, none⟩) L.hands.length hc) (.int .i64 L.worn) (.int .i64 L.scr) (.int .i64 x) (.slice (some ⟨sb, 0, none⟩) L.squares.length sc)
            have hfar : ∀ {b : Nat} {t : TypeId} {cs : List Value}, Blok wc b t cs → t ≠ 25 → Blok (put5 wc w.heap.size (.slice (some ⟨hb, 0, none⟩) L.hands.length hc) (.int .i64 L.worn) (.int .i64 L.scr) (.int .i64 x) (.slice (some ⟨sb, 0, none⟩) L.squares.length sc)) b t cs := fun h ht => h.far5 (blok_ne h hres ht) _ _ _ _ _
            have hH5 := (hS.hands.keep (w' := put5 wc w.heap.size (.slice (some ⟨hb, 0, none⟩) L.hands.length hc) (.int .i64 L.worn) (.int .i64 L.scr) (.int .i64 x) (.slice (some ⟨sb, 0, none⟩) L.squares.length sc)) fun _ _ _ h ht => hfar h (by rcases ht with rfl | rfl <;> decide)).done (n := L.hands.length) (c := hc) (fun _ _ _ _ _ _ => trivial) rfl
            have hS5 := (hS.sqs.keep (w' := put5 wc w.heap.size (.slice (some ⟨hb, 0, none⟩) L.hands.length hc) (.int .i64 L.worn) (.int .i64 L.scr) (.int .i64 x) (.slice (some ⟨sb, 0, none⟩) L.squares.length sc)) fun _ _ _ h ht => hfar h (by rcases ht with rfl | rfl <;> decide)).done (n := L.squares.length) (c := sc) (fun _ _ _ _ _ _ => trivial) rfl
            have hu5 : UrnAt (put5 wc w.heap.size (.slice (some ⟨hb, 0, none⟩) L.hands.length hc) (.int .i64 L.worn) (.int .i64 L.scr) (.int .i64 x) (.slice (some ⟨sb, 0, none⟩) L.squares.length sc)) g := by
              obtain ⟨a, b, h⟩ := hS.urn
              exact ⟨a, b, hfar h (by decide)⟩
            refine bodyPost_ret (v := .agg #[.slice (some ⟨hb, 0, none⟩) L.hands.length hc, .int .i64 L.worn, .int .i64 L.scr, .int .i64 x, .slice (some ⟨sb, 0, none⟩) L.squares.length sc]) ?_ ?_ ?_
            · exact results_cell_row Try.results40 _ _ w.heap.size 25 _ (0, 0) _ rfl y8 Try.underlying25 rfl (by kernel_rfl)
            · rfl
            · exact ⟨slimL L x, _, rfl, ⟨_, _, rfl, hH5, hS5⟩, slim_slim HOK.out (by have := HN.out; omega) HSM.out (by have := HM.out; omega) hx40, hu5, hS.kg.put5 (Nat.le_refl _) _ _ _ _ _⟩
end Go.Proofs.Ythhajbgddifenaa
