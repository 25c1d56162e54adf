/- CopyDating, once more: the years of the copy's notes lie in blocks of their own, each. -/
import Derived.Test.YtcbdcdpoackplaaJa
import Derived.Test.YtcbdcdpoackplaaGg
namespace Go.Proofs.Ytcbdcdpoackplaa
open Go.RowKit Dt

/-- The years of notes lie in blocks of their own, each. -/
def Apart (xs : List (Nt × Value)) : Prop := xs.Pairwise fun p q => ∀ b, p.2.ownBlock = some b → q.2.ownBlock ≠ some b
theorem Apart.snoc {xs : List (Nt × Value)} {x : Nt} {v : Value} (h : Apart xs) (hn : ∀ p ∈ xs, ∀ b, p.2.ownBlock = some b → v.ownBlock ≠ some b) : Apart (xs ++ [(x, v)]) := by
  unfold Apart
  rw [List.pairwise_append]
  exact ⟨h, List.pairwise_singleton _ _, fun a ha c hc => by rw [List.mem_singleton.1 hc]; exact hn a ha⟩
/-- A dating whose notes' years lie in blocks of their own, each. -/
def DatX (w : World) (B : Nat) (v : Value) (d : Dat) : Prop := ∃ ve vn xs, v = .agg #[.int .i64 d.stones, ve, vn] ∧ SpansO w B ve d.eras ∧ xs.map Prod.fst = d.notes ∧ w.ownsRow B 51 6 vn d.notes.length (cellsN xs) ∧ (∀ p ∈ xs, IntsO w B p.2 p.1.years) ∧ Apart xs
section
/-- A copy under way: k notes are there. -/
structure CpX (w : World) (d : Dat) (k : Nat) (ve vn : Value) (xs : List (Nt × Value)) (wr : World) : Prop where
  k0 : Blok wr w.heap.size 28 [.int .i64 d.stones, ve, vn]
  k1 : Blok wr (w.heap.size + 1) 28 zeroD
  oe : SpansO wr w.heap.size ve d.eras
  map : xs.map Prod.fst = d.notes.take k
  on : wr.ownsRow w.heap.size 51 6 vn k (cellsN xs)
  years : ∀ p ∈ xs, IntsO wr w.heap.size p.2 p.1.years
  apart : Apart xs
  below : Below w.heap.size w wr
section
variable {w wr W : World} {d : Dat} {k : Nat} {ve vn : Value} {xs : List (Nt × Value)}
theorem CpX.to (h : CpX w d k ve vn xs wr) (hb : Below wr.heap.size wr W) : CpX w d k ve vn xs W :=
  ⟨h.k0.below hb h.k0.size, h.k1.below hb h.k1.size, own_fx h.oe (Fx.of_all hb) (fun _ _ _ _ => trivial), h.map, own_fx h.on (Fx.of_all hb) (fun _ _ _ _ => trivial), fun p hp => own_fx (h.years p hp) (Fx.of_all hb) (fun _ _ _ _ => trivial), h.apart, h.below.trans (hb.mono h.below.size)⟩
theorem CpX.snoc {W' : World} {vn' v : Value} {x : Nt} {gg : Nat} (h : CpX w d k ve vn xs W) (hx : d.notes[k]? = some x) (hv : IntsO W w.heap.size v x.years) (hg : W.grownBy W' vn.ownBlock) (hn : W'.ownsRow w.heap.size 51 6 vn' (k + 1) (cellsN xs ++ ntL x v)) (hnew : ∀ p ∈ xs, ∀ b, p.2.ownBlock = some b → v.ownBlock ≠ some b) (_ : gg = 0) :
    CpX w d (k + 1) ve vn' (xs ++ [(x, v)]) (W'.setCell ⟨w.heap.size, 2, none⟩ vn') := by
  have q0 := h.k0.grown hg (own_ne h.on h.k0 (by decide))
  have q1 := h.k1.grown hg (own_ne h.on h.k1 (by decide))
  have far : ∀ {base size n : Nat} {e : TypeId} {u : Value} {cs : List Value}, e ≠ 51 → e ≠ 28 → W.ownsRow base e size u n cs → (W'.setCell ⟨w.heap.size, 2, none⟩ vn').ownsRow base e size u n cs := fun h1 h2 ho =>
    have ho' := own_fx ho (Fx.of_grown hg) (fun b _ _ hb => own_disj ho h.on h1 b hb)
    own_far ho' (own_ne ho' q0 h2) _
  refine ⟨q0.put 2 vn', q1.far (by simp) _, far (by decide) (by decide) h.oe, ?_, ?_, fun p hp => ?_, h.apart.snoc hnew, (h.below.grown hg h.below.size (fun j hj => (h.on.lt j hj).1)).setCell (p := ⟨w.heap.size, 2, none⟩) (Nat.le_refl _) _⟩
  · rw [List.map_append, h.map, List.map_cons, List.map_nil, List.take_add_one, hx]
    rfl
  · rw [cellsN_snoc]
    exact own_far hn (own_ne hn q0 (by decide)) _
  · rcases List.mem_append.1 hp with hp | hp
    · exact far (by decide) (by decide) (h.years p hp)
    · rw [List.mem_singleton.1 hp]
      exact far (by decide) (by decide) hv
end
set_option maxRecDepth 100000 in
set_option maxHeartbeats 4000000 in
theorem copyDatingX_any (d : Dat) (hd : d.Ok) (B : Nat) (v : Value) (w : World) (hv : DatO w B v d) :
    Calls Try.prog 21 #[v] w fun e w' => ∃ v', e = .returned v' ∧ DatX w' w.heap.size v' d ∧ Below w.heap.size w w' := by
  obtain ⟨ve, vn, rfl, hE, ys0, hmap, hN, hY⟩ := hv
  obtain ⟨Ae, ce, rfl⟩ := own_slice hE
  obtain ⟨n, hn⟩ : ∃ n, n = d.notes.length := ⟨_, rfl⟩
  have hn8 : n ≤ 8 := by rw [hn]; exact hd.notes.1
  have he3 := hd.eras.1
  have HE := Lib.hid hE
  rw [← hn] at hN
  obtain ⟨An, cn, rfl⟩ := own_slice hN
  have HN := Lib.hid hN
  have HY := Lib.hid hY
  have HM := Lib.hid hmap
  have HNN := Lib.hid hn
  obtain ⟨ne, hne⟩ : ∃ ne, ne = d.eras.length := ⟨_, rfl⟩
  obtain ⟨kI, hi, hz0, hz1, hz2⟩ := info_parts info_napi
  have HQ := Lib.hid hi
  have HQ0 := Lib.hid hz0
  have HQ1 := Lib.hid hz1
  have HQ2 := Lib.hid hz2
  clear hE hN hY hmap hi hz0 hz1 hz2
  rw [← hne]
  have HNE := Lib.hid hne
  clear hne hn
  go_enter Try.func21, Try.ntmps21
  go_wp2_with fail
  obtain ⟨W, hW⟩ : ∃ W, W = (w.alloc (.cells #[.int .i64 d.stones, .slice Ae ne ce, .slice An n cn] 28)).alloc (.cells zeroD.toArray 28) := ⟨_, rfl⟩
  have b0 : Below w.heap.size w W := by rw [hW]; exact ((Below.refl _ w).alloc (Nat.le_refl _) _).alloc (by simp) _
  have k0 : Blok W w.heap.size 28 [.int .i64 d.stones, .slice Ae ne ce, .slice An n cn] := by rw [hW]; exact (Blok.new w _ _).alloc _
  have k1 : Blok W (w.heap.size + 1) 28 zeroD := by
    rw [hW]
    have := Blok.new (w.alloc (.cells #[.int .i64 d.stones, .slice Ae ne ce, .slice An n cn] 28)) 28 zeroD
    simpa only [World.size_alloc] using this
  unfold zeroD at hW
  rw [← hW]
  clear hW
  refine (spansC_any d.eras (by omega) B (.slice Ae ne ce) W (by rw [HNE.out]; exact own_fx HE.out (Fx.of_all b0) (fun _ _ _ _ => trivial))).mono ?_
  rintro e w1 ⟨ve', rfl, hs, hb1⟩
  obtain ⟨Ae', ce', rfl⟩ := own_slice hs
  have q0 := k0.below hb1 k0.size
  have q1 := k1.below hb1 k1.size
  have c1 := q0.cell 1
  have c2 := q0.cell 2
  have f1 := q0.free 1
  have f2 := q0.free 2
  simp at c1 c2
  have hst : CpX w d 0 (.slice Ae' d.eras.length ce') (.slice none 0 0) [] ((w1.setCell ⟨w.heap.size, 1, none⟩ (.slice Ae' d.eras.length ce')).setCell ⟨w.heap.size, 2, none⟩ (.slice none 0 0)) :=
    ⟨(q0.put 1 _).put 2 _, (q1.far (by simp) _).far (by simp) _, own_far (own_far (hs.mono b0.size) (own_ne hs q0 (by decide)) _) (own_ne hs q0 (by decide)) _, rfl, World.ownsRow_nil _ _ _ _, by simp, List.Pairwise.nil, ((b0.trans (hb1.mono b0.size)).setCell (p := ⟨w.heap.size, 1, none⟩) (Nat.le_refl _) _).setCell (p := ⟨w.heap.size, 2, none⟩) (Nat.le_refl _) _⟩
  have HST := Lib.hid hst
  have zz := q0.size
  clear hst hs hb1 q0 q1 b0 k0 k1
  go_wp2_with fail
  go_loopg [4] n (fun g i wr => ∃ (k : Nat) (vn : Value) (xs : List (Nt × Value)), i = .int .i64 (k : Nat) ∧ k + g = n ∧ CpX w d k (.slice Ae' d.eras.length ce') vn xs wr)
  case atStart => exact ⟨0, _, [], rfl, by omega, HST.out⟩
  case round =>
    clear HST
    obtain ⟨k, vn, xs, rfl, hkn, hcp⟩ := hrel
    have HC := Lib.hid hcp
    obtain ⟨Av, cv, rfl⟩ := own_slice hcp.on
    by_cases hlt : k < n
    · obtain ⟨p, hp⟩ : ∃ p, ys0[k]? = some p := ⟨_, List.getElem?_eq_getElem (by have := congrArg List.length HM.out; rw [List.length_map, ← HNN.out] at this; omega)⟩
      have hx : d.notes[k]? = some p.1 := by rw [← HM.out, List.getElem?_map, hp]; rfl
      obtain ⟨gn, rfl⟩ := own_addr HN.out (by omega)
      have hcell : ∀ i, i < 6 → wr.cell? ⟨gn, k * 6 + i, none⟩ = (ntL p.1 p.2)[i]? := fun i hi => by
        have hN' := own_fx HN.out (Fx.of_below (B := w.heap.size) hcp.below) (fun b _ hb _ => hb)
        rw [hN'.cellAt (k * 6 + i) (by omega)]
        exact cellsN_at ys0 k p i hp hi
      have hyo := HY.out p (List.mem_of_getElem? hp)
      obtain ⟨Ay, cy, hpy⟩ := own_slice hyo
      obtain ⟨x, hx1⟩ : ∃ x : Nt, x = p.1 := ⟨_, rfl⟩
      obtain ⟨ny, hny⟩ : ∃ ny, ny = x.years.length := ⟨_, rfl⟩
      rw [← hx1] at hcell hyo hx hpy
      rw [hpy, ← hny] at hcell
      rw [hpy, ← hny] at hyo
      have d0 : wr.cell? ⟨gn, k * 6, none⟩ = some (.int .i64 (x.kind : Int)) := hcell 0 (by omega)
      have d1 : wr.cell? ⟨gn, k * 6 + 1, none⟩ = some (.int .i64 (x.stone : Int)) := hcell 1 (by omega)
      have d2 : wr.cell? ⟨gn, k * 6 + 2, none⟩ = some (.int .i64 (x.other : Int)) := hcell 2 (by omega)
      have d3 : wr.cell? ⟨gn, k * 6 + 3, none⟩ = some (.slice Ay ny cy) := hcell 3 (by omega)
      have d4 : wr.cell? ⟨gn, k * 6 + 4, none⟩ = some (.int .i64 x.lo) := hcell 4 (by omega)
      have d5 : wr.cell? ⟨gn, k * 6 + 5, none⟩ = some (.int .i64 x.hi) := hcell 5 (by omega)
      have hyl : ny ≤ 3 := by
        rw [hny]
        have ho := hd.notes.2 x (List.mem_of_getElem? hx)
        by_cases h1 : x.kind = 1
        · exact (ho.years h1).2.2.2.2.1
        · rw [(ho.span h1).1]; simp
      have HX := Lib.hid hx
      have HYO := Lib.hid (show w.ownsRow B 3 1 (.slice Ay ny cy) ny (intCells x.years) by have h := hyo; unfold IntsO at h; rw [← hny] at h; exact h)
      have HNY := Lib.hid hny
      clear hcell hp hx hx1 hpy hcp hyo hny
      go_wp2_with fail
      have ba : Below wr.heap.size wr (wr.alloc (.cells #[.int .i64 x.kind, .int .i64 x.stone, .int .i64 x.other, .slice Ay ny cy, .int .i64 x.lo, .int .i64 x.hi] 51)) := (Below.refl _ wr).alloc (Nat.le_refl _) _
      refine (ints_any x.years (by rw [← HNY.out]; omega) B (.slice Ay ny cy) _ (by unfold IntsO; rw [← HNY.out]; exact own_fx HYO.out (Fx.of_below (B := w.heap.size) (HC.out.below.trans (ba.mono HC.out.below.size))) (fun b _ hb _ => hb))).mono ?_
      rintro e w2 ⟨vy', rfl, hi2, hb2⟩
      obtain ⟨Ay', cy', rfl⟩ := own_slice hi2
      rw [← HNY.out] at hi2 ⊢
      have bx := (Blok.new wr 51 [.int .i64 x.kind, .int .i64 x.stone, .int .i64 x.other, .slice Ay ny cy, .int .i64 x.lo, .int .i64 x.hi]).below hb2 (by simp)
      have x3 := bx.cell 3
      have g3 := bx.free 3
      simp at x3
      have zx := bx.size
      have HBX := Lib.hid (bx.put 3 (.slice Ay' ny cy'))
      have hb12 : Below wr.heap.size wr w2 := ba.trans (hb2.mono ba.size)
      have HC2 := Lib.hid (HC.out.to (hb12.setCell (p := ⟨wr.heap.size, 3, none⟩) (Nat.le_refl _) (.slice Ay' ny cy')))
      have HI2 := Lib.hid (own_far hi2 (own_ne hi2 bx (by decide)) (.slice Ay' ny cy') (p := ⟨wr.heap.size, 3, none⟩))
      have hwr := HC.out.below.size
      have HNEW := Lib.hid (fun (p : Nt × Value) (hp : p ∈ xs) (b : Nat) (hb : p.2.ownBlock = some b) (e : (Value.slice Ay' ny cy').ownBlock = some b) => (show False by
        have k1 := ((HC.out.years p hp).lt b hb).2
        have k2 := (hi2.lt b e).1
        simp at k2
        omega))
      clear d0 d1 d2 d3 d4 d5 ba hb2 hb12 bx hi2
      go_upto_region 8 with fail
      obtain ⟨U, hU⟩ : ∃ U, U = w2.setCell ⟨wr.heap.size, 3, none⟩ (.slice Ay' ny cy') := ⟨_, rfl⟩
      rw [← hU] at HBX HC2 HI2 ⊢
      have zU : w2.heap.size = U.heap.size := by rw [hU]; simp
      clear hU x3 g3
      have e0 := HBX.out.cell 0
      have e1 := HBX.out.cell 1
      have e2 := HBX.out.cell 2
      have e3 := HBX.out.cell 3
      have e4 := HBX.out.cell 4
      have e5 := HBX.out.cell 5
      simp at e0 e1 e2 e3 e4 e5
      have t2 : U.cell? ⟨w.heap.size, 2, none⟩ = some (.slice Av k cv) := HC2.out.k0.cell 2
      have zu := HBX.out.size
      have HCA := Lib.hid (HC2.out.to ((Below.refl _ U).alloc (Nat.le_refl _) (.cells #[.int .i64 x.kind, .int .i64 x.stone, .int .i64 x.other, .slice Ay' ny cy', .int .i64 x.lo, .int .i64 x.hi] 51)))
      have HIA := Lib.hid (HI2.out.alloc (.cells #[.int .i64 x.kind, .int .i64 x.stone, .int .i64 x.other, .slice Ay' ny cy', .int .i64 x.lo, .int .i64 x.hi] 51))
      have hCz : w.heap.size ≤ U.heap.size := HC2.out.below.size
      go_wp2_with (at_builtin; refine wpList_append_lies _ rfl _ _ 26 rfl w.heap.size 51 kI _ 6 64 Try.underlying26 HQ.out HQ0.out HQ1.out HQ2.out rfl (by decide) (.slice Av k cv) k (cellsN xs) (by rfl) HCA.out.on ⟨U.heap.size, 0, none⟩ 1 1 [.int .i64 x.kind, .int .i64 x.stone, .int .i64 x.other, .slice Ay' ny cy', .int .i64 x.lo, .int .i64 x.hi] (by rfl) (by rfl) (World.news_of_block (cs := #[.int .i64 x.kind, .int .i64 x.stone, .int .i64 x.other, .slice Ay' ny cy', .int .i64 x.lo, .int .i64 x.hi]) (t := 51) (fr := (0, 0)) (heap_alloc_new U _)) (by simp [Value.oneCell']) (by omega) (by unfold maxLen; omega) (by omega) (by simp; omega) _ rfl ?_; intro g8 c8 w8 hown8 hgrow8 hat8 hlt8; have hk8 := HCA.out.k0.grown hgrow8 (own_ne HCA.out.on HCA.out.k0 (by decide)); have q8 : w8.cell? ⟨w.heap.size, 2, none⟩ = some (.slice Av k cv) := hk8.cell 2; have f8 := hk8.free 2; have HO8 := Lib.hid hown8; have HG8 := Lib.hid hgrow8; clear hown8 hgrow8 hat8 hk8)
      go_roundg (gk - 1)
      case measure => omega
      case rel => exact ⟨k + 1, _, xs ++ [(x, .slice Ay' ny cy')], by go_num, by omega, HCA.out.snoc (x := x) (v := .slice Ay' ny cy') HX.out (by
        have h := HIA.out.mono (base' := w.heap.size) (by simp; omega)
        exact h) HG8.out HO8.out HNEW.out rfl⟩
    · obtain rfl : k = n := by omega
      have e0 : wr.cell? ⟨w.heap.size, 0, none⟩ = some (.int .i64 d.stones) := hcp.k0.cell 0
      have e1 : wr.cell? ⟨w.heap.size, 1, none⟩ = some (.slice Ae' d.eras.length ce') := hcp.k0.cell 1
      have e2 : wr.cell? ⟨w.heap.size, 2, none⟩ = some (.slice Av k cv) := hcp.k0.cell 2
      have r0 : wr.cell? ⟨w.heap.size + 1, 0, none⟩ = some (.int .i64 0) := hcp.k1.cell 0
      have r1 : wr.cell? ⟨w.heap.size + 1, 1, none⟩ = some (.slice none 0 0) := hcp.k1.cell 1
      have r2 : wr.cell? ⟨w.heap.size + 1, 2, none⟩ = some (.slice none 0 0) := hcp.k1.cell 2
      have g0 := hcp.k1.free 0
      have g1 := hcp.k1.free 1
      have g2 := hcp.k1.free 2
      clear hcp
      go_wp2_with fail
      have hC := HC.out
      refine bodyPost_ret (v := .agg #[.int .i64 d.stones, .slice Ae' d.eras.length ce', .slice Av k cv]) ?_ rfl ⟨_, rfl, ⟨_, _, xs, rfl, ?_, ?_, ?_, fun p hp => ?_, hC.apart⟩, ((hC.below.setCell (p := ⟨w.heap.size + 1, 0, none⟩) (Nat.le_succ _) _).setCell (p := ⟨w.heap.size + 1, 1, none⟩) (Nat.le_succ _) _).setCell (p := ⟨w.heap.size + 1, 2, none⟩) (Nat.le_succ _) _⟩
      · exact results_cell_row Try.results21 _ _ (w.heap.size + 1) 28 _ (0, 0) _ rfl (((hC.k1.put 0 (.int .i64 d.stones)).put 1 (.slice Ae' d.eras.length ce')).put 2 (.slice Av k cv)) Try.underlying28 rfl (by kernel_rfl)
      · exact own_far (own_far (own_far hC.oe (own_ne hC.oe hC.k1 (by decide)) _) (own_ne hC.oe hC.k1 (by decide)) _) (own_ne hC.oe hC.k1 (by decide)) _
      · rw [hC.map, HNN.out]
        exact List.take_length
      · rw [← HNN.out]
        exact own_far (own_far (own_far hC.on (own_ne hC.on hC.k1 (by decide)) _) (own_ne hC.on hC.k1 (by decide)) _) (own_ne hC.on hC.k1 (by decide)) _
      · have hy := hC.years p hp
        exact own_far (own_far (own_far hy (own_ne hy hC.k1 (by decide)) _) (own_ne hy hC.k1 (by decide)) _) (own_ne hy hC.k1 (by decide)) _
end
end Go.Proofs.Ytcbdcdpoackplaa
