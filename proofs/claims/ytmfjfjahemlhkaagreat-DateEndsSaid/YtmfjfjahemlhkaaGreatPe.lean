/- truths: through the eras, through the stones. -/
import Derived.Test.YtmfjfjahemlhkaaGreatPd
namespace Go.Proofs.YtmfjfjahemlhkaaGreat
open Go.RowKit Dt

set_option maxRecDepth 100000 in
set_option maxHeartbeats 8000000 in
theorem truths_eras (d : Dat) (hd : d.Ok) (hes : ∀ s ∈ d.eras, -1000 ≤ s.1 ∧ s.2 ≤ 1000) (ys : List Int) (hly : ys.length = d.stones) (hys : ∀ y ∈ ys, -1000 ≤ y ∧ y ≤ 1000) : ∀ (m : Nat) (fs : List Int), fs.length + m = d.eras.length → (∀ y ∈ fs, -1000 ≤ y ∧ y ≤ 1000) → ∀ (B : Nat) (w : World), B ≤ w.heap.size → ∀ (ve vn vy vf vo : Value) (Lo : List (List Int × List Int)),
    DatO w B (.agg #[.int .i64 d.stones, ve, vn]) d → IntsO w B vy ys → IntsO w B vf fs → WhensO w B vo Lo → Lo.length + (erasP d ys m fs).length ≤ 5000 →
    Calls Tryz.prog 7 #[.agg #[.int .i64 d.stones, ve, vn], .agg #[.int .i64 0, .int .i64 7], .agg #[vy, vf], vo] w (TruthsPost B vo (Lo ++ erasP d ys m fs) w) := by
  intro m
  induction m with
  | zero =>
    intro fs hlf hfs B w hB ve vn vy vf vo Lo hdat hoy hof hout hlen
    exact truths_base d hd hes ys fs hly (by simpa using hlf) hys hfs B w hB ve vn vy vf vo Lo hdat hoy hof hout (by omega)
  | succ m ih =>
    intro fs hlf hfs B w hB ve vn vy vf vo Lo hdat hoy hof hout hlen
    have HIH := Lib.hid ih
    clear ih
    obtain ⟨Ae, ce, An, cn, hve⟩ := hdat.slices
    injection hve with hve
    simp at hve
    obtain ⟨rfl, rfl⟩ := hve
    obtain ⟨Ay, cy, rfl⟩ := own_slice hoy
    obtain ⟨Af, cf, rfl⟩ := own_slice hof
    obtain ⟨Ao, co, rfl⟩ := hout.slice
    have h8 := hd.notes.1
    have he3 := hd.eras.1
    have hs6 := hd.stones
    obtain ⟨row, hrow⟩ : ∃ row, row = (Value.slice Ao Lo.length co).ownBlock := ⟨_, rfl⟩
    have HROW := Lib.hid hrow
    obtain ⟨kN, hi, hz0, hz1, hz2⟩ := info_parts info_num
    have HI := Lib.hid hi
    have HI0 := Lib.hid hz0
    have HI1 := Lib.hid hz1
    have HI2 := Lib.hid hz2
    clear hi hz0 hz1 hz2
    obtain ⟨kW, hi, hz0, hz1, hz2⟩ := info_parts info_when
    have HWI := Lib.hid hi
    have HWI0 := Lib.hid hz0
    have HWI1 := Lib.hid hz1
    have HWI2 := Lib.hid hz2
    clear hi hz0 hz1 hz2
    have HD := Lib.hid hd
    have HDAT := Lib.hid hdat
    have HOY := Lib.hid hoy
    have HOF := Lib.hid hof
    have HOUT := Lib.hid hout
    have HES := Lib.hid hes
    have HYS := Lib.hid hys
    have HFS := Lib.hid hfs
    obtain ⟨nl, hnl⟩ : ∃ nl, nl = Lo.length := ⟨_, rfl⟩
    have HNL := Lib.hid hnl
    rw [← hnl] at HOUT HROW ⊢
    obtain ⟨ny, hny⟩ : ∃ ny, ny = ys.length := ⟨_, rfl⟩
    obtain ⟨nf, hnf⟩ : ∃ nf, nf = fs.length := ⟨_, rfl⟩
    have HNY := Lib.hid hny
    have HNF := Lib.hid hnf
    unfold IntsO at HOY HOF
    rw [← hny] at HOY hly ⊢
    rw [← hnf] at HOF hlf ⊢
    have HLY := Lib.hid hly
    have HLF := Lib.hid hlf
    clear hrow hd hdat hoy hof hout hes hys hfs hnl hny hnf hly hlf
    go_enter Tryz.func7, Tryz.ntmps7
    go_upto_region 1 with fail
    obtain ⟨w0, hw0⟩ : ∃ w0, w0 = ((w.alloc (.cells #[.int .i64 d.stones, .slice Ae d.eras.length ce, .slice An d.notes.length cn] 28)).alloc (.cells #[.int .i64 0, .int .i64 7] 33)).alloc (.cells #[.slice Ay ny cy, .slice Af nf cf] 36) := ⟨_, rfl⟩
    have hb0 : Below w.heap.size w w0 := by rw [hw0]; exact (((Below.refl _ w).alloc (Nat.le_refl _) _).alloc (by simp) _).alloc (by simp; omega) _
    have hts : TS w B d (.slice Ae d.eras.length ce) (.slice An d.notes.length cn) (.slice Ay ny cy) (.slice Af nf cf) ys fs row (.slice Ao nl co) Lo w0 := by
      refine ⟨?_, ?_, ?_, HDAT.out.below hb0, ?_, ?_, HOUT.out.to hb0, ⟨hb0.os, hb0.tape, hb0.output, hb0.size, fun b h1 _ => hb0.block b h1⟩, fun b hb => ?_⟩
      · rw [hw0]; exact ((Blok.new w _ _).alloc _).alloc _
      · rw [hw0]
        have := (Blok.new (w.alloc (.cells #[.int .i64 d.stones, .slice Ae d.eras.length ce, .slice An d.notes.length cn] 28)) 33 [.int .i64 0, .int .i64 7]).alloc (.cells #[.slice Ay ny cy, .slice Af nf cf] 36)
        simpa only [World.size_alloc] using this
      · rw [hw0]
        have := Blok.new ((w.alloc (.cells #[.int .i64 d.stones, .slice Ae d.eras.length ce, .slice An d.notes.length cn] 28)).alloc (.cells #[.int .i64 0, .int .i64 7] 33)) 36 [.slice Ay ny cy, .slice Af nf cf]
        simpa only [World.size_alloc] using this
      · unfold IntsO
        rw [← HNY.out]
        exact own_fx HOY.out (Fx.of_all hb0) (fun _ _ _ _ => trivial)
      · unfold IntsO
        rw [← HNF.out]
        exact own_fx HOF.out (Fx.of_all hb0) (fun _ _ _ _ => trivial)
      · have h1 := HOUT.out.lt b hb
        exact .inl ⟨by rw [HROW.out]; exact hb, h1⟩
    rw [← hw0]
    have HS := Lib.hid hts
    clear hts hw0 hb0
    have d0 := HS.out.b0.cell 0
    have d1 := HS.out.b0.cell 1
    have d2 := HS.out.b0.cell 2
    have m0 := HS.out.b2.cell 0
    have m1 := HS.out.b2.cell 1
    have s0 := HS.out.b1.cell 0
    have s1 := HS.out.b1.cell 1
    simp at d0 d1 d2 m0 m1 s0 s1
    have hcy : ¬ ny < d.stones := by have := HLY.out; omega
    have hcf : nf < d.eras.length := by have := HLF.out; omega
    obtain ⟨ge, rfl⟩ : ∃ ge, Ae = some ⟨ge, 0, none⟩ := by
      obtain ⟨ve', vn', e', h1, _⟩ := HDAT.out
      injection e' with e'
      simp at e'
      obtain ⟨rfl, rfl⟩ := e'
      exact own_addr h1 (by omega)
    obtain ⟨s, hs⟩ : ∃ s, d.eras[nf]? = some s := ⟨_, List.getElem?_eq_getElem hcf⟩
    have hsd : d.eras.getD fs.length (0, 0) = s := by rw [← HNF.out, List.getD_eq_getElem?_getD, hs]; rfl
    have hso := HES.out s (List.mem_of_getElem? hs)
    obtain ⟨so1, so2⟩ := hso
    have hss := (HD.out.eras.2 s (List.mem_of_getElem? hs)).2.1
    have HEC := Lib.hid (fun (W : World) (h : DatO W B (.agg #[.int .i64 d.stones, .slice (some ⟨ge, 0, none⟩) d.eras.length ce, .slice An d.notes.length cn]) d) => (show W.cell? ⟨ge, nf * 2, none⟩ = some (.int .i64 s.1) ∧ W.cell? ⟨ge, nf * 2 + 1, none⟩ = some (.int .i64 s.2) by
      obtain ⟨ve', vn', e', h1, _⟩ := h
      injection e' with e'
      simp at e'
      obtain ⟨rfl, rfl⟩ := e'
      obtain ⟨u1, u2⟩ := flatS_at d.eras nf s hs
      exact ⟨(h1.cellAt (nf * 2) (by omega)).trans u1, (h1.cellAt (nf * 2 + 1) (by omega)).trans u2⟩))
    have HSD := Lib.hid hsd
    clear hs hsd
    obtain ⟨e0, e1⟩ := HEC.out _ HS.out.dat
    obtain ⟨cnt, hcnt⟩ : ∃ cnt, cnt = (s.2 - s.1 + 1).toNat := ⟨_, rfl⟩
    have hcI : (cnt : Int) = s.2 - s.1 + 1 := by omega
    have HCN := Lib.hid hcnt
    have hflat : erasP d ys (m + 1) fs = (rangeI s.1 s.2).flatMap (fun n => erasP d ys m (fs ++ [n])) := by
      show (rangeI (d.eras.getD fs.length (0, 0)).1 (d.eras.getD fs.length (0, 0)).2).flatMap (fun n => erasP d ys m (fs ++ [n])) = _
      rw [HSD.out]
    have HFL := Lib.hid hflat
    rw [hflat] at hlen
    clear hcnt hflat
    have HLE := Lib.hid hlen
    clear hlen
    go_wp2_with fail
    go_loopg [3, 11] cnt (fun r vo' nv wr => ∃ j : Nat, nv = .int .i64 (s.1 + (j : Int)) ∧ j + r = cnt ∧ TS w B d (.slice (some ⟨ge, 0, none⟩) d.eras.length ce) (.slice An d.notes.length cn) (.slice Ay ny cy) (.slice Af nf cf) ys fs row vo' (Lo ++ ((rangeI s.1 s.2).take j).flatMap (fun n => erasP d ys m (fs ++ [n]))) wr)
    case atStart => exact ⟨0, by simp, by omega, by simpa using HS.out⟩
    case round =>
      rename_i vo' _ _
      clear HS d0 d1 d2 m0 m1 s0 s1 e0 e1
      obtain ⟨j, rfl, hjr, hs⟩ := hrel
      have HS := Lib.hid hs
      clear hs
      have d1 := HS.out.b0.cell 1
      simp at d1
      obtain ⟨e0, e1⟩ := HEC.out _ HS.out.dat
      obtain ⟨n, hn⟩ : ∃ n, n = s.1 + (j : Int) := ⟨_, rfl⟩
      rw [← hn]
      by_cases hj : j < cnt
      · have hnh : n ≤ s.2 := by omega
        have hn1 : -1000 ≤ n := by omega
        have hn2 : n ≤ 1000 := by omega
        have q1 : IntKind.i64.wrap (n + 1) = n + 1 := IntWalk.i64_in _ (by omega)
        have hat : (rangeI s.1 s.2)[j]? = some n := by rw [hn]; exact rangeI_at s.1 s.2 j (by have := HCN.out; omega)
        have HAT := Lib.hid hat
        have hfl := flat_le (fun n => erasP d ys m (fs ++ [n])) (rangeI s.1 s.2) j n hat
        try dsimp only at hfl
        have HFB := Lib.hid (show (Lo ++ ((rangeI s.1 s.2).take j).flatMap (fun n => erasP d ys m (fs ++ [n]))).length + (erasP d ys m (fs ++ [n])).length ≤ 5000 by
          rw [List.length_append]
          have hle := HLE.out
          try dsimp only at hle
          try dsimp only
          omega)
        have HNN := Lib.hid hn
        clear hat hfl hn
        go_wp2_with fail
        clear d1 e0 e1
        refine wp_region_v [(fun j => j == 0 || j == 1 || j == 3 || j == 5 || j == 6 || j == 8 || j == 9 || j == 10 || j == 12 || j == 13, fun W => W.cell? ⟨w.heap.size, 0, none⟩ = some (.int .i64 d.stones) ∧ W.cell? ⟨w.heap.size, 1, none⟩ = some (.slice (some ⟨ge, 0, none⟩) d.eras.length ce) ∧ W.cell? ⟨w.heap.size, 2, none⟩ = some (.slice An d.notes.length cn)), (fun j => j == 1 || j == 3 || j == 5 || j == 6 || j == 8 || j == 9 || j == 10 || j == 12 || j == 13, fun W => W.cell? ⟨w.heap.size + 1, 0, none⟩ = some (.int .i64 0) ∧ W.cell? ⟨w.heap.size + 1, 1, none⟩ = some (.int .i64 7)), (fun j => j == 3 || j == 5 || j == 6 || j == 8 || j == 9 || j == 10 || j == 12 || j == 13, fun W => W.cell? ⟨w.heap.size + 2, 0, none⟩ = some (.slice Ay ny cy)), (fun j => j == 5 || j == 6 || j == 8 || j == 9 || j == 10 || j == 12 || j == 13, fun W => W.cell? ⟨w.heap.size + 2, 1, none⟩ = some (.slice Af nf cf))] (by kernel_rfl) ?_
        refine wpAnyV_world (fun W => Below wr.heap.size wr W) (show Below wr.heap.size wr wr.drew from (Below.refl _ wr).drew) (fun V hV => ?_)
        have HV := Lib.hid hV
        clear hV
        refine wpAnyV_free (i := 2) (v := ?_) (by simp only [List.getElem?_toArray, List.getElem?_cons_zero, List.getElem?_cons_succ]; rfl) (by kernel_rfl) (by kernel_rfl) (by kernel_rfl) (by kernel_rfl) (by exact fun _ _ _ h => h) (Or.inl ⟨by rfl, ?hye2⟩) (behind_cons (fun h => by simp at h) (behind_cons (fun h => by simp at h) (behind_cons (fun h => by simp at h) (behind_cons (fun h => by simp at h) (fun p hp => by cases hp))))) ?reste2
        case hye2 => (intro W' _; go_simp; try with_reducible rfl)
        try simp only [Act.put, List.setIfInBounds_toArray, List.set_cons_zero, List.set_cons_succ]
        refine wpAnyV_free (i := 4) (v := ?_) (by simp only [List.getElem?_toArray, List.getElem?_cons_zero, List.getElem?_cons_succ]; rfl) (by kernel_rfl) (by kernel_rfl) (by kernel_rfl) (by kernel_rfl) (by exact fun _ _ _ h => h) (Or.inl ⟨by rfl, ?hye3⟩) (behind_cons (fun h => by simp at h) (behind_cons (fun h => by simp at h) (behind_cons (fun h => by simp at h) (behind_cons (fun h => by simp at h) (fun p hp => by cases hp))))) ?reste3
        case hye3 => (intro W' _; go_simp; try with_reducible rfl)
        try simp only [Act.put, List.setIfInBounds_toArray, List.set_cons_zero, List.set_cons_succ]
        refine wpAnyV_free (i := 7) (v := ?_) (by simp only [List.getElem?_toArray, List.getElem?_cons_zero, List.getElem?_cons_succ]; rfl) (by kernel_rfl) (by kernel_rfl) (by kernel_rfl) (by kernel_rfl) (by exact fun _ _ _ h => h) (Or.inl ⟨by rfl, ?hye4⟩) (behind_cons (fun h => by simp at h) (behind_cons (fun h => by simp at h) (behind_cons (fun h => by simp at h) (behind_cons (fun h => by simp at h) (fun p hp => by cases hp))))) ?reste4
        case hye4 => (intro W' _; go_simp; try with_reducible rfl)
        try simp only [Act.put, List.setIfInBounds_toArray, List.set_cons_zero, List.set_cons_succ]
        refine wpAnyV_free (i := 11) (v := ?_) (by simp only [List.getElem?_toArray, List.getElem?_cons_zero, List.getElem?_cons_succ]; rfl) (by kernel_rfl) (by kernel_rfl) (by kernel_rfl) (by kernel_rfl) (by exact fun _ _ _ h => h) (Or.inl ⟨by rfl, ?hye5⟩) (behind_cons (fun h => by simp at h) (behind_cons (fun h => by simp at h) (behind_cons (fun h => by simp at h) (behind_cons (fun h => by simp at h) (fun p hp => by cases hp))))) ?reste5
        case hye5 => (intro W' _; go_simp; try with_reducible rfl)
        try simp only [Act.put, List.setIfInBounds_toArray, List.set_cons_zero, List.set_cons_succ]
        refine wpAnyV_take (i := 0) (m := 0) (v := ?_) (by simp only [List.getElem?_toArray, List.getElem?_cons_zero]; rfl) (by rfl) (by kernel_rfl) (by kernel_rfl) (by kernel_rfl) (by kernel_rfl) (by exact fun _ _ _ h => h) (Or.inl ⟨by rfl, ?hye6⟩) ((And.intro ((HS.out.to HV.out).b0.cell 0) (And.intro ((HS.out.to HV.out).b0.cell 1) ((HS.out.to HV.out).b0.cell 2)))) (behind_cons (fun _ => (And.intro ((HS.out.to HV.out).b0.cell 0) (And.intro ((HS.out.to HV.out).b0.cell 1) ((HS.out.to HV.out).b0.cell 2)))) (behind_cons (fun h => by simp at h) (behind_cons (fun h => by simp at h) (behind_cons (fun h => by simp at h) (fun p hp => by cases hp))))) ?reste6
        case hye6 => (intro W' hSW; go_simp; try with_reducible rfl)
        try simp only [Act.put, List.setIfInBounds_toArray, List.set_cons_zero, List.set_cons_succ]
        refine wpAnyV_take (i := 1) (m := 1) (v := ?_) (by simp only [List.getElem?_toArray, List.getElem?_cons_zero, List.getElem?_cons_succ]; rfl) (by rfl) (by kernel_rfl) (by kernel_rfl) (by kernel_rfl) (by kernel_rfl) (by exact fun _ _ _ h => h) (Or.inl ⟨by rfl, ?hye7⟩) ((And.intro ((HS.out.to HV.out).b1.cell 0) ((HS.out.to HV.out).b1.cell 1))) (behind_cons (fun _ => (And.intro ((HS.out.to HV.out).b0.cell 0) (And.intro ((HS.out.to HV.out).b0.cell 1) ((HS.out.to HV.out).b0.cell 2)))) (behind_cons (fun _ => (And.intro ((HS.out.to HV.out).b1.cell 0) ((HS.out.to HV.out).b1.cell 1))) (behind_cons (fun h => by simp at h) (behind_cons (fun h => by simp at h) (fun p hp => by cases hp))))) ?reste7
        case hye7 => (intro W' hSW; go_simp; try with_reducible rfl)
        try simp only [Act.put, List.setIfInBounds_toArray, List.set_cons_zero, List.set_cons_succ]
        refine wpAnyV_take (i := 3) (m := 2) (v := ?_) (by simp only [List.getElem?_toArray, List.getElem?_cons_zero, List.getElem?_cons_succ]; rfl) (by rfl) (by kernel_rfl) (by kernel_rfl) (by kernel_rfl) (by kernel_rfl) (by exact fun _ _ _ h => h) (Or.inl ⟨by rfl, ?hye8⟩) (((HS.out.to HV.out).b2.cell 0)) (behind_cons (fun _ => (And.intro ((HS.out.to HV.out).b0.cell 0) (And.intro ((HS.out.to HV.out).b0.cell 1) ((HS.out.to HV.out).b0.cell 2)))) (behind_cons (fun _ => (And.intro ((HS.out.to HV.out).b1.cell 0) ((HS.out.to HV.out).b1.cell 1))) (behind_cons (fun _ => ((HS.out.to HV.out).b2.cell 0)) (behind_cons (fun h => by simp at h) (fun p hp => by cases hp))))) ?reste8
        case hye8 => (intro W' hSW; go_simp; try with_reducible rfl)
        try simp only [Act.put, List.setIfInBounds_toArray, List.set_cons_zero, List.set_cons_succ]
        refine wpAnyV_take (i := 5) (m := 3) (v := ?_) (by simp only [List.getElem?_toArray, List.getElem?_cons_zero, List.getElem?_cons_succ]; rfl) (by rfl) (by kernel_rfl) (by kernel_rfl) (by kernel_rfl) (by kernel_rfl) (by exact fun _ _ _ h => h) (Or.inl ⟨by rfl, ?hye9⟩) (((HS.out.to HV.out).b2.cell 1)) (behind_cons (fun _ => (And.intro ((HS.out.to HV.out).b0.cell 0) (And.intro ((HS.out.to HV.out).b0.cell 1) ((HS.out.to HV.out).b0.cell 2)))) (behind_cons (fun _ => (And.intro ((HS.out.to HV.out).b1.cell 0) ((HS.out.to HV.out).b1.cell 1))) (behind_cons (fun _ => ((HS.out.to HV.out).b2.cell 0)) (behind_cons (fun _ => ((HS.out.to HV.out).b2.cell 1)) (fun p hp => by cases hp))))) ?reste9
        case hye9 => (intro W' hSW; go_simp; try with_reducible rfl)
        try simp only [Act.put, List.setIfInBounds_toArray, List.set_cons_zero, List.set_cons_succ]
        refine wpAnyV_ready (rs := [6, 8]) (by kernel_rfl) (by simp) ?_
        refine AllReadyV.cons (by simp only [List.getElem?_toArray, List.getElem?_cons_zero, List.getElem?_cons_succ]; rfl) (fun K hK => ?_) (AllReadyV.cons (by simp only [List.getElem?_toArray, List.getElem?_cons_zero, List.getElem?_cons_succ]; rfl) (fun K hK => ?_) AllReadyV.nil)
        · go_simp
          go_at_call 29
          refine (ints_any fs (by have := HNF.out; have := HLY.out; have := HLF.out; omega) B (.slice Af nf cf) _ (HS.out.to HV.out).of).mono ?_
          rintro e w503 ⟨va, rfl, hv, hb⟩
          obtain ⟨Aa, ca, rfl⟩ := own_slice hv
          have hv2 : w503.ownsRow wr.heap.size 3 1 (.slice Aa nf ca) nf (intCells fs) := by rw [HNF.out]; exact hv.mono HV.out.size
          rw [← HNF.out]
          have HV503 := Lib.hid hv2
          have HC503 := Lib.hid (HV.out.trans (hb.mono HV.out.size))
          clear hb hv hv2
          refine hK.out _ _ (behind_cons (fun _ => (And.intro ((HS.out.to HC503.out).b0.cell 0) (And.intro ((HS.out.to HC503.out).b0.cell 1) ((HS.out.to HC503.out).b0.cell 2)))) (behind_cons (fun _ => (And.intro ((HS.out.to HC503.out).b1.cell 0) ((HS.out.to HC503.out).b1.cell 1))) (behind_cons (fun _ => ((HS.out.to HC503.out).b2.cell 0)) (behind_cons (fun _ => ((HS.out.to HC503.out).b2.cell 1)) (fun p hp => by cases hp))))) ?_
          clear hK K
          try simp only [Act.put, List.setIfInBounds_toArray, List.set_cons_zero, List.set_cons_succ]
          refine wpAnyV_ready (rs := [8]) (by kernel_rfl) (by simp) ?_
          refine AllReadyV.cons (by simp only [List.getElem?_toArray, List.getElem?_cons_zero, List.getElem?_cons_succ]; rfl) (fun K hK => ?_) AllReadyV.nil
          go_simp
          have HC504 := Lib.hid (HC503.out.alloc HC503.out.size (.cells #[.int .i64 n] 3))
          have HN504 := Lib.hid (Blok.new w503 3 [.int .i64 n])
          have HV504 := Lib.hid (HV503.out.alloc (.cells #[.int .i64 n] 3))
          refine hK.out _ _ (behind_cons (fun _ => (And.intro ((HS.out.to HC504.out).b0.cell 0) (And.intro ((HS.out.to HC504.out).b0.cell 1) ((HS.out.to HC504.out).b0.cell 2)))) (behind_cons (fun _ => (And.intro ((HS.out.to HC504.out).b1.cell 0) ((HS.out.to HC504.out).b1.cell 1))) (behind_cons (fun _ => ((HS.out.to HC504.out).b2.cell 0)) (behind_cons (fun _ => ((HS.out.to HC504.out).b2.cell 1)) (fun p hp => by cases hp))))) ?_
          clear hK K
          try simp only [Act.put, List.setIfInBounds_toArray, List.set_cons_zero, List.set_cons_succ]
          refine wpAnyV_ready (rs := [9]) (by kernel_rfl) (by simp) ?_
          refine AllReadyV.cons (by simp only [List.getElem?_toArray, List.getElem?_cons_zero, List.getElem?_cons_succ]; rfl) (fun K hK => ?_) AllReadyV.nil
          refine step_append_lies (w503.alloc (.cells #[.int .i64 n] 3)) (by rfl) _ _ 22 (by rfl) wr.heap.size 3 kN _ 1 8 Tryz.underlying22 HI.out HI0.out HI1.out HI2.out rfl (by omega) (.slice Aa nf ca) nf (intCells fs) (by rfl) HV504.out ⟨w503.heap.size, 0, none⟩ 1 1 [.int .i64 n] (by rfl) (by rfl) (World.news_of_block HN504.out) (by simp [Value.oneCell']) (by omega) (by have := HLY.out; have := HLF.out; unfold maxLen; omega) (by have := HLY.out; have := HLF.out; omega) HC504.out.size _ rfl ?_
          intro g8 c8 w505 hown hgrow hat hlt8
          have HC505 := Lib.hid (HC504.out.grown hgrow HC504.out.size (fun k hk => (HV504.out.lt k hk).1))
          have HV505 := Lib.hid hown
          clear hown hgrow hat hlt8
          try go_simp
          refine hK.out _ _ (behind_cons (fun _ => (And.intro ((HS.out.to HC505.out).b0.cell 0) (And.intro ((HS.out.to HC505.out).b0.cell 1) ((HS.out.to HC505.out).b0.cell 2)))) (behind_cons (fun _ => (And.intro ((HS.out.to HC505.out).b1.cell 0) ((HS.out.to HC505.out).b1.cell 1))) (behind_cons (fun _ => ((HS.out.to HC505.out).b2.cell 0)) (behind_cons (fun _ => ((HS.out.to HC505.out).b2.cell 1)) (fun p hp => by cases hp))))) ?_
          clear hK K
          try simp only [Act.put, List.setIfInBounds_toArray, List.set_cons_zero, List.set_cons_succ]
          refine wpAnyV_free (i := 10) (v := ?_) (by simp only [List.getElem?_toArray, List.getElem?_cons_zero, List.getElem?_cons_succ]; rfl) (by kernel_rfl) (by kernel_rfl) (by kernel_rfl) (by kernel_rfl) (by exact fun _ _ _ h => h) (Or.inl ⟨by rfl, ?hye13⟩) (behind_cons (fun _ => (And.intro ((HS.out.to HC505.out).b0.cell 0) (And.intro ((HS.out.to HC505.out).b0.cell 1) ((HS.out.to HC505.out).b0.cell 2)))) (behind_cons (fun _ => (And.intro ((HS.out.to HC505.out).b1.cell 0) ((HS.out.to HC505.out).b1.cell 1))) (behind_cons (fun _ => ((HS.out.to HC505.out).b2.cell 0)) (behind_cons (fun _ => ((HS.out.to HC505.out).b2.cell 1)) (fun p hp => by cases hp))))) ?reste13
          case hye13 => (intro W' _; go_simp; try with_reducible rfl)
          try simp only [Act.put, List.setIfInBounds_toArray, List.set_cons_zero, List.set_cons_succ]
          refine wpAnyV_ready (rs := [12]) (by kernel_rfl) (by simp) ?_
          refine AllReadyV.cons (by simp only [List.getElem?_toArray, List.getElem?_cons_zero, List.getElem?_cons_succ]; rfl) (fun K hK => ?_) AllReadyV.nil
          go_simp
          go_at_call 7
          refine (HIH.out (fs ++ [n]) (by rw [List.length_append, ← HNF.out]; have := HLF.out; simp; omega) (fun y hy => by rcases List.mem_append.1 hy with hy | hy; exact HFS.out y hy; rw [List.mem_singleton.1 hy]; exact ⟨hn1, hn2⟩) B _ (Nat.le_trans hB (Nat.le_trans HS.out.grown.size HC505.out.size)) _ _ _ _ _ (Lo ++ ((rangeI s.1 s.2).take j).flatMap (fun n => erasP d ys m (fs ++ [n]))) (HS.out.to HC505.out).dat (HS.out.to HC505.out).oy (show IntsO w505 B (.slice (some ⟨g8, 0, none⟩) (nf + 1) c8) (fs ++ [n]) by unfold IntsO; rw [List.length_append, ← HNF.out, show intCells (fs ++ [n]) = intCells fs ++ [.int .i64 n] by simp [intCells]]; exact HV505.out.mono (Nat.le_trans hB (Nat.le_trans HS.out.grown.size (Nat.le_refl _)))) (HS.out.to HC505.out).out HFB.out).mono ?_
          rintro e w506 ⟨vo2, rfl, hwo, hg, hf⟩
          have HTS := Lib.hid ((HS.out.to HC505.out).grow hg hwo hf)
          clear hwo hg hf
          refine hK.out _ _ (behind_cons (fun _ => (And.intro (HTS.out.b0.cell 0) (And.intro (HTS.out.b0.cell 1) (HTS.out.b0.cell 2)))) (behind_cons (fun _ => (And.intro (HTS.out.b1.cell 0) (HTS.out.b1.cell 1))) (behind_cons (fun _ => (HTS.out.b2.cell 0)) (behind_cons (fun _ => (HTS.out.b2.cell 1)) (fun p hp => by cases hp))))) ?_
          clear hK K
          try simp only [Act.put, List.setIfInBounds_toArray, List.set_cons_zero, List.set_cons_succ]
          refine wpAnyV_free (i := 13) (v := ?_) (by simp only [List.getElem?_toArray, List.getElem?_cons_zero, List.getElem?_cons_succ]; rfl) (by kernel_rfl) (by kernel_rfl) (by kernel_rfl) (by kernel_rfl) (by exact fun _ _ _ h => h) (Or.inl ⟨by rfl, ?hye15⟩) (behind_cons (fun _ => (And.intro (HTS.out.b0.cell 0) (And.intro (HTS.out.b0.cell 1) (HTS.out.b0.cell 2)))) (behind_cons (fun _ => (And.intro (HTS.out.b1.cell 0) (HTS.out.b1.cell 1))) (behind_cons (fun _ => (HTS.out.b2.cell 0)) (behind_cons (fun _ => (HTS.out.b2.cell 1)) (fun p hp => by cases hp))))) ?reste15
          case hye15 => (intro W' _; go_simp; try with_reducible rfl)
          try simp only [Act.put, List.setIfInBounds_toArray, List.set_cons_zero, List.set_cons_succ]
          refine wpAnyV_done (by kernel_rfl) ?_ _
          go_wp2_with fail
          go_roundg (gk - 1)
          case measure => omega
          case rel => exact ⟨j + 1, by rw [show s.1 + ((j + 1 : Nat) : Int) = n + 1 by have := HNN.out; omega], by omega, by rw [flat_take _ _ _ _ HAT.out, ← List.append_assoc]; exact HTS.out⟩
        · go_simp
          have HC507 := Lib.hid (HV.out.alloc HV.out.size (.cells #[.int .i64 n] 3))
          have HN507 := Lib.hid (Blok.new V 3 [.int .i64 n])
          refine hK.out _ _ (behind_cons (fun _ => (And.intro ((HS.out.to HC507.out).b0.cell 0) (And.intro ((HS.out.to HC507.out).b0.cell 1) ((HS.out.to HC507.out).b0.cell 2)))) (behind_cons (fun _ => (And.intro ((HS.out.to HC507.out).b1.cell 0) ((HS.out.to HC507.out).b1.cell 1))) (behind_cons (fun _ => ((HS.out.to HC507.out).b2.cell 0)) (behind_cons (fun _ => ((HS.out.to HC507.out).b2.cell 1)) (fun p hp => by cases hp))))) ?_
          clear hK K
          try simp only [Act.put, List.setIfInBounds_toArray, List.set_cons_zero, List.set_cons_succ]
          refine wpAnyV_ready (rs := [6]) (by kernel_rfl) (by simp) ?_
          refine AllReadyV.cons (by simp only [List.getElem?_toArray, List.getElem?_cons_zero, List.getElem?_cons_succ]; rfl) (fun K hK => ?_) AllReadyV.nil
          go_simp
          go_at_call 29
          refine (ints_any fs (by have := HNF.out; have := HLY.out; have := HLF.out; omega) B (.slice Af nf cf) _ (HS.out.to HC507.out).of).mono ?_
          rintro e w508 ⟨va, rfl, hv, hb⟩
          obtain ⟨Aa, ca, rfl⟩ := own_slice hv
          have hv2 : w508.ownsRow wr.heap.size 3 1 (.slice Aa nf ca) nf (intCells fs) := by rw [HNF.out]; exact hv.mono HC507.out.size
          rw [← HNF.out]
          have HV508 := Lib.hid hv2
          have HC508 := Lib.hid (HC507.out.trans (hb.mono HC507.out.size))
          have HN508 := Lib.hid (HN507.out.below hb HN507.out.size)
          clear hb hv hv2
          refine hK.out _ _ (behind_cons (fun _ => (And.intro ((HS.out.to HC508.out).b0.cell 0) (And.intro ((HS.out.to HC508.out).b0.cell 1) ((HS.out.to HC508.out).b0.cell 2)))) (behind_cons (fun _ => (And.intro ((HS.out.to HC508.out).b1.cell 0) ((HS.out.to HC508.out).b1.cell 1))) (behind_cons (fun _ => ((HS.out.to HC508.out).b2.cell 0)) (behind_cons (fun _ => ((HS.out.to HC508.out).b2.cell 1)) (fun p hp => by cases hp))))) ?_
          clear hK K
          try simp only [Act.put, List.setIfInBounds_toArray, List.set_cons_zero, List.set_cons_succ]
          refine wpAnyV_ready (rs := [9]) (by kernel_rfl) (by simp) ?_
          refine AllReadyV.cons (by simp only [List.getElem?_toArray, List.getElem?_cons_zero, List.getElem?_cons_succ]; rfl) (fun K hK => ?_) AllReadyV.nil
          refine step_append_lies w508 (by rfl) _ _ 22 (by rfl) wr.heap.size 3 kN _ 1 8 Tryz.underlying22 HI.out HI0.out HI1.out HI2.out rfl (by omega) (.slice Aa nf ca) nf (intCells fs) (by rfl) HV508.out ⟨V.heap.size, 0, none⟩ 1 1 [.int .i64 n] (by rfl) (by rfl) (World.news_of_block HN508.out) (by simp [Value.oneCell']) (by omega) (by have := HLY.out; have := HLF.out; unfold maxLen; omega) (by have := HLY.out; have := HLF.out; omega) HC508.out.size _ rfl ?_
          intro g8 c8 w509 hown hgrow hat hlt8
          have HC509 := Lib.hid (HC508.out.grown hgrow HC508.out.size (fun k hk => (HV508.out.lt k hk).1))
          have HV509 := Lib.hid hown
          clear hown hgrow hat hlt8
          try go_simp
          refine hK.out _ _ (behind_cons (fun _ => (And.intro ((HS.out.to HC509.out).b0.cell 0) (And.intro ((HS.out.to HC509.out).b0.cell 1) ((HS.out.to HC509.out).b0.cell 2)))) (behind_cons (fun _ => (And.intro ((HS.out.to HC509.out).b1.cell 0) ((HS.out.to HC509.out).b1.cell 1))) (behind_cons (fun _ => ((HS.out.to HC509.out).b2.cell 0)) (behind_cons (fun _ => ((HS.out.to HC509.out).b2.cell 1)) (fun p hp => by cases hp))))) ?_
          clear hK K
          try simp only [Act.put, List.setIfInBounds_toArray, List.set_cons_zero, List.set_cons_succ]
          refine wpAnyV_free (i := 10) (v := ?_) (by simp only [List.getElem?_toArray, List.getElem?_cons_zero, List.getElem?_cons_succ]; rfl) (by kernel_rfl) (by kernel_rfl) (by kernel_rfl) (by kernel_rfl) (by exact fun _ _ _ h => h) (Or.inl ⟨by rfl, ?hye19⟩) (behind_cons (fun _ => (And.intro ((HS.out.to HC509.out).b0.cell 0) (And.intro ((HS.out.to HC509.out).b0.cell 1) ((HS.out.to HC509.out).b0.cell 2)))) (behind_cons (fun _ => (And.intro ((HS.out.to HC509.out).b1.cell 0) ((HS.out.to HC509.out).b1.cell 1))) (behind_cons (fun _ => ((HS.out.to HC509.out).b2.cell 0)) (behind_cons (fun _ => ((HS.out.to HC509.out).b2.cell 1)) (fun p hp => by cases hp))))) ?reste19
          case hye19 => (intro W' _; go_simp; try with_reducible rfl)
          try simp only [Act.put, List.setIfInBounds_toArray, List.set_cons_zero, List.set_cons_succ]
          refine wpAnyV_ready (rs := [12]) (by kernel_rfl) (by simp) ?_
          refine AllReadyV.cons (by simp only [List.getElem?_toArray, List.getElem?_cons_zero, List.getElem?_cons_succ]; rfl) (fun K hK => ?_) AllReadyV.nil
          go_simp
          go_at_call 7
          refine (HIH.out (fs ++ [n]) (by rw [List.length_append, ← HNF.out]; have := HLF.out; simp; omega) (fun y hy => by rcases List.mem_append.1 hy with hy | hy; exact HFS.out y hy; rw [List.mem_singleton.1 hy]; exact ⟨hn1, hn2⟩) B _ (Nat.le_trans hB (Nat.le_trans HS.out.grown.size HC509.out.size)) _ _ _ _ _ (Lo ++ ((rangeI s.1 s.2).take j).flatMap (fun n => erasP d ys m (fs ++ [n]))) (HS.out.to HC509.out).dat (HS.out.to HC509.out).oy (show IntsO w509 B (.slice (some ⟨g8, 0, none⟩) (nf + 1) c8) (fs ++ [n]) by unfold IntsO; rw [List.length_append, ← HNF.out, show intCells (fs ++ [n]) = intCells fs ++ [.int .i64 n] by simp [intCells]]; exact HV509.out.mono (Nat.le_trans hB (Nat.le_trans HS.out.grown.size (Nat.le_refl _)))) (HS.out.to HC509.out).out HFB.out).mono ?_
          rintro e w510 ⟨vo2, rfl, hwo, hg, hf⟩
          have HTS := Lib.hid ((HS.out.to HC509.out).grow hg hwo hf)
          clear hwo hg hf
          refine hK.out _ _ (behind_cons (fun _ => (And.intro (HTS.out.b0.cell 0) (And.intro (HTS.out.b0.cell 1) (HTS.out.b0.cell 2)))) (behind_cons (fun _ => (And.intro (HTS.out.b1.cell 0) (HTS.out.b1.cell 1))) (behind_cons (fun _ => (HTS.out.b2.cell 0)) (behind_cons (fun _ => (HTS.out.b2.cell 1)) (fun p hp => by cases hp))))) ?_
          clear hK K
          try simp only [Act.put, List.setIfInBounds_toArray, List.set_cons_zero, List.set_cons_succ]
          refine wpAnyV_free (i := 13) (v := ?_) (by simp only [List.getElem?_toArray, List.getElem?_cons_zero, List.getElem?_cons_succ]; rfl) (by kernel_rfl) (by kernel_rfl) (by kernel_rfl) (by kernel_rfl) (by exact fun _ _ _ h => h) (Or.inl ⟨by rfl, ?hye21⟩) (behind_cons (fun _ => (And.intro (HTS.out.b0.cell 0) (And.intro (HTS.out.b0.cell 1) (HTS.out.b0.cell 2)))) (behind_cons (fun _ => (And.intro (HTS.out.b1.cell 0) (HTS.out.b1.cell 1))) (behind_cons (fun _ => (HTS.out.b2.cell 0)) (behind_cons (fun _ => (HTS.out.b2.cell 1)) (fun p hp => by cases hp))))) ?reste21
          case hye21 => (intro W' _; go_simp; try with_reducible rfl)
          try simp only [Act.put, List.setIfInBounds_toArray, List.set_cons_zero, List.set_cons_succ]
          refine wpAnyV_done (by kernel_rfl) ?_ _
          go_wp2_with fail
          go_roundg (gk - 1)
          case measure => omega
          case rel => exact ⟨j + 1, by rw [show s.1 + ((j + 1 : Nat) : Int) = n + 1 by have := HNN.out; omega], by omega, by rw [flat_take _ _ _ _ HAT.out, ← List.append_assoc]; exact HTS.out⟩
      · have hnh : ¬ n ≤ s.2 := by omega
        have htk : (rangeI s.1 s.2).take j = (rangeI s.1 s.2) := List.take_of_length_le (by rw [rangeI_len, ← HCN.out]; omega)
        have HTK := Lib.hid htk
        clear htk hn
        go_wp2_with fail
        go_ret
        have h := HS.out
        rw [HTK.out, ← HFL.out] at h
        exact ⟨_, rfl, h.out, by rw [← HROW.out]; exact h.grown, fun b hb => (h.old b hb).elim (fun h1 => .inl (by rw [← HROW.out]; exact h1.1)) (fun h1 => .inr (by omega))⟩
set_option maxRecDepth 100000 in
set_option maxHeartbeats 8000000 in
theorem truths_any (d : Dat) (hd : d.Ok) (hes : ∀ s ∈ d.eras, -1000 ≤ s.1 ∧ s.2 ≤ 1000) : ∀ (m : Nat) (ys : List Int), ys.length + m = d.stones → (∀ y ∈ ys, -1000 ≤ y ∧ y ≤ 1000) → ∀ (B : Nat) (w : World), B ≤ w.heap.size → ∀ (ve vn vy vf vo : Value) (Lo : List (List Int × List Int)),
    DatO w B (.agg #[.int .i64 d.stones, ve, vn]) d → IntsO w B vy ys → IntsO w B vf [] → WhensO w B vo Lo → Lo.length + (stonesP d m ys).length ≤ 5000 →
    Calls Tryz.prog 7 #[.agg #[.int .i64 d.stones, ve, vn], .agg #[.int .i64 0, .int .i64 7], .agg #[vy, vf], vo] w (TruthsPost B vo (Lo ++ stonesP d m ys) w) := by
  intro m
  induction m with
  | zero =>
    intro ys hly hys B w hB ve vn vy vf vo Lo hdat hoy hof hout hlen
    exact truths_eras d hd hes ys (by simpa using hly) hys d.eras.length [] (by simp) (by simp) B w hB ve vn vy vf vo Lo hdat hoy hof hout hlen
  | succ m ih =>
    intro ys hly hys B w hB ve vn vy vf vo Lo hdat hoy hof hout hlen
    have HIH := Lib.hid ih
    obtain ⟨fs, hfe⟩ : ∃ fs : List Int, fs = [] := ⟨_, rfl⟩
    rw [← hfe] at hof
    have hfs : ∀ y ∈ fs, -1000 ≤ y ∧ y ≤ 1000 := by rw [hfe]; simp
    have hlf : fs.length = 0 := by rw [hfe]; rfl
    clear ih hfe
    obtain ⟨Ae, ce, An, cn, hve⟩ := hdat.slices
    injection hve with hve
    simp at hve
    obtain ⟨rfl, rfl⟩ := hve
    obtain ⟨Ay, cy, rfl⟩ := own_slice hoy
    obtain ⟨Af, cf, rfl⟩ := own_slice hof
    obtain ⟨Ao, co, rfl⟩ := hout.slice
    have h8 := hd.notes.1
    have he3 := hd.eras.1
    have hs6 := hd.stones
    obtain ⟨row, hrow⟩ : ∃ row, row = (Value.slice Ao Lo.length co).ownBlock := ⟨_, rfl⟩
    have HROW := Lib.hid hrow
    obtain ⟨kN, hi, hz0, hz1, hz2⟩ := info_parts info_num
    have HI := Lib.hid hi
    have HI0 := Lib.hid hz0
    have HI1 := Lib.hid hz1
    have HI2 := Lib.hid hz2
    clear hi hz0 hz1 hz2
    obtain ⟨kW, hi, hz0, hz1, hz2⟩ := info_parts info_when
    have HWI := Lib.hid hi
    have HWI0 := Lib.hid hz0
    have HWI1 := Lib.hid hz1
    have HWI2 := Lib.hid hz2
    clear hi hz0 hz1 hz2
    have HD := Lib.hid hd
    have HDAT := Lib.hid hdat
    have HOY := Lib.hid hoy
    have HOF := Lib.hid hof
    have HOUT := Lib.hid hout
    have HES := Lib.hid hes
    have HYS := Lib.hid hys
    have HFS := Lib.hid hfs
    obtain ⟨nl, hnl⟩ : ∃ nl, nl = Lo.length := ⟨_, rfl⟩
    have HNL := Lib.hid hnl
    rw [← hnl] at HOUT HROW ⊢
    obtain ⟨ny, hny⟩ : ∃ ny, ny = ys.length := ⟨_, rfl⟩
    obtain ⟨nf, hnf⟩ : ∃ nf, nf = fs.length := ⟨_, rfl⟩
    have HNY := Lib.hid hny
    have HNF := Lib.hid hnf
    unfold IntsO at HOY HOF
    rw [← hny] at HOY hly ⊢
    rw [← hnf] at HOF hlf ⊢
    have HLY := Lib.hid hly
    have HLF := Lib.hid hlf
    clear hrow hd hdat hoy hof hout hes hys hfs hnl hny hnf hly hlf
    go_enter Tryz.func7, Tryz.ntmps7
    go_upto_region 1 with fail
    obtain ⟨w0, hw0⟩ : ∃ w0, w0 = ((w.alloc (.cells #[.int .i64 d.stones, .slice Ae d.eras.length ce, .slice An d.notes.length cn] 28)).alloc (.cells #[.int .i64 0, .int .i64 7] 33)).alloc (.cells #[.slice Ay ny cy, .slice Af nf cf] 36) := ⟨_, rfl⟩
    have hb0 : Below w.heap.size w w0 := by rw [hw0]; exact (((Below.refl _ w).alloc (Nat.le_refl _) _).alloc (by simp) _).alloc (by simp; omega) _
    have hts : TS w B d (.slice Ae d.eras.length ce) (.slice An d.notes.length cn) (.slice Ay ny cy) (.slice Af nf cf) ys fs row (.slice Ao nl co) Lo w0 := by
      refine ⟨?_, ?_, ?_, HDAT.out.below hb0, ?_, ?_, HOUT.out.to hb0, ⟨hb0.os, hb0.tape, hb0.output, hb0.size, fun b h1 _ => hb0.block b h1⟩, fun b hb => ?_⟩
      · rw [hw0]; exact ((Blok.new w _ _).alloc _).alloc _
      · rw [hw0]
        have := (Blok.new (w.alloc (.cells #[.int .i64 d.stones, .slice Ae d.eras.length ce, .slice An d.notes.length cn] 28)) 33 [.int .i64 0, .int .i64 7]).alloc (.cells #[.slice Ay ny cy, .slice Af nf cf] 36)
        simpa only [World.size_alloc] using this
      · rw [hw0]
        have := Blok.new ((w.alloc (.cells #[.int .i64 d.stones, .slice Ae d.eras.length ce, .slice An d.notes.length cn] 28)).alloc (.cells #[.int .i64 0, .int .i64 7] 33)) 36 [.slice Ay ny cy, .slice Af nf cf]
        simpa only [World.size_alloc] using this
      · unfold IntsO
        rw [← HNY.out]
        exact own_fx HOY.out (Fx.of_all hb0) (fun _ _ _ _ => trivial)
      · unfold IntsO
        rw [← HNF.out]
        exact own_fx HOF.out (Fx.of_all hb0) (fun _ _ _ _ => trivial)
      · have h1 := HOUT.out.lt b hb
        exact .inl ⟨by rw [HROW.out]; exact hb, h1⟩
    rw [← hw0]
    have HS := Lib.hid hts
    clear hts hw0 hb0
    have d0 := HS.out.b0.cell 0
    have d1 := HS.out.b0.cell 1
    have d2 := HS.out.b0.cell 2
    have m0 := HS.out.b2.cell 0
    have m1 := HS.out.b2.cell 1
    have s0 := HS.out.b1.cell 0
    have s1 := HS.out.b1.cell 1
    simp at d0 d1 d2 m0 m1 s0 s1
    have hcy : ny < d.stones := by have := HLY.out; omega
    obtain ⟨cnt, hcnt⟩ : ∃ cnt, cnt = (7 - 0 + 1 : Int).toNat := ⟨_, rfl⟩
    have hcI : (cnt : Int) = 8 := by omega
    have HCN := Lib.hid hcnt
    have HFL : Hid (stonesP d (m + 1) ys = (rangeI 0 7).flatMap (fun n => stonesP d m (ys ++ [n]))) := Lib.hid rfl
    rw [HFL.out] at hlen
    clear hcnt
    have HLE := Lib.hid hlen
    clear hlen
    go_wp2_with fail
    go_loopg [3, 9] cnt (fun r vo' nv wr => ∃ j : Nat, nv = .int .i64 (0 + (j : Int)) ∧ j + r = cnt ∧ TS w B d (.slice Ae d.eras.length ce) (.slice An d.notes.length cn) (.slice Ay ny cy) (.slice Af nf cf) ys fs row vo' (Lo ++ ((rangeI 0 7).take j).flatMap (fun n => stonesP d m (ys ++ [n]))) wr)
    case atStart => exact ⟨0, by simp, by omega, by simpa using HS.out⟩
    case round =>
      rename_i vo' _ _
      clear HS d0 d1 d2 m0 m1 s0 s1 
      obtain ⟨j, rfl, hjr, hs⟩ := hrel
      have HS := Lib.hid hs
      clear hs
      have s1 := HS.out.b1.cell 1
      simp at s1
      obtain ⟨n, hn⟩ : ∃ n, n = 0 + (j : Int) := ⟨_, rfl⟩
      rw [← hn]
      by_cases hj : j < cnt
      · have hnh : n ≤ 7 := by omega
        have hn1 : -1000 ≤ n := by omega
        have hn2 : n ≤ 1000 := by omega
        have q1 : IntKind.i64.wrap (n + 1) = n + 1 := IntWalk.i64_in _ (by omega)
        have hat : (rangeI 0 7)[j]? = some n := by rw [hn]; exact rangeI_at 0 7 j (by have := HCN.out; omega)
        have HAT := Lib.hid hat
        have hfl := flat_le (fun n => stonesP d m (ys ++ [n])) (rangeI 0 7) j n hat
        try dsimp only at hfl
        have HFB := Lib.hid (show (Lo ++ ((rangeI 0 7).take j).flatMap (fun n => stonesP d m (ys ++ [n]))).length + (stonesP d m (ys ++ [n])).length ≤ 5000 by
          rw [List.length_append]
          have hle := HLE.out
          try dsimp only at hle
          try dsimp only
          omega)
        have HNN := Lib.hid hn
        clear hat hfl hn
        go_wp2_with fail
        clear s1
        refine wp_region_v [(fun j => j == 0 || j == 1 || j == 3 || j == 4 || j == 6 || j == 7 || j == 8 || j == 10 || j == 11, fun W => W.cell? ⟨w.heap.size, 0, none⟩ = some (.int .i64 d.stones) ∧ W.cell? ⟨w.heap.size, 1, none⟩ = some (.slice Ae d.eras.length ce) ∧ W.cell? ⟨w.heap.size, 2, none⟩ = some (.slice An d.notes.length cn)), (fun j => j == 1 || j == 3 || j == 4 || j == 6 || j == 7 || j == 8 || j == 10 || j == 11, fun W => W.cell? ⟨w.heap.size + 1, 0, none⟩ = some (.int .i64 0) ∧ W.cell? ⟨w.heap.size + 1, 1, none⟩ = some (.int .i64 7)), (fun j => j == 3 || j == 4 || j == 6 || j == 7 || j == 8 || j == 10 || j == 11, fun W => W.cell? ⟨w.heap.size + 2, 0, none⟩ = some (.slice Ay ny cy))] (by kernel_rfl) ?_
        refine wpAnyV_world (fun W => Below wr.heap.size wr W) (show Below wr.heap.size wr wr.drew from (Below.refl _ wr).drew) (fun V hV => ?_)
        have HV := Lib.hid hV
        clear hV
        refine wpAnyV_free (i := 2) (v := ?_) (by simp only [List.getElem?_toArray, List.getElem?_cons_zero, List.getElem?_cons_succ]; rfl) (by kernel_rfl) (by kernel_rfl) (by kernel_rfl) (by kernel_rfl) (by exact fun _ _ _ h => h) (Or.inl ⟨by rfl, ?hys2⟩) (behind_cons (fun h => by simp at h) (behind_cons (fun h => by simp at h) (behind_cons (fun h => by simp at h) (fun p hp => by cases hp)))) ?rests2
        case hys2 => (intro W' _; go_simp; try with_reducible rfl)
        try simp only [Act.put, List.setIfInBounds_toArray, List.set_cons_zero, List.set_cons_succ]
        refine wpAnyV_free (i := 5) (v := ?_) (by simp only [List.getElem?_toArray, List.getElem?_cons_zero, List.getElem?_cons_succ]; rfl) (by kernel_rfl) (by kernel_rfl) (by kernel_rfl) (by kernel_rfl) (by exact fun _ _ _ h => h) (Or.inl ⟨by rfl, ?hys3⟩) (behind_cons (fun h => by simp at h) (behind_cons (fun h => by simp at h) (behind_cons (fun h => by simp at h) (fun p hp => by cases hp)))) ?rests3
        case hys3 => (intro W' _; go_simp; try with_reducible rfl)
        try simp only [Act.put, List.setIfInBounds_toArray, List.set_cons_zero, List.set_cons_succ]
        refine wpAnyV_free (i := 9) (v := ?_) (by simp only [List.getElem?_toArray, List.getElem?_cons_zero, List.getElem?_cons_succ]; rfl) (by kernel_rfl) (by kernel_rfl) (by kernel_rfl) (by kernel_rfl) (by exact fun _ _ _ h => h) (Or.inl ⟨by rfl, ?hys4⟩) (behind_cons (fun h => by simp at h) (behind_cons (fun h => by simp at h) (behind_cons (fun h => by simp at h) (fun p hp => by cases hp)))) ?rests4
        case hys4 => (intro W' _; go_simp; try with_reducible rfl)
        try simp only [Act.put, List.setIfInBounds_toArray, List.set_cons_zero, List.set_cons_succ]
        refine wpAnyV_take (i := 0) (m := 0) (v := ?_) (by simp only [List.getElem?_toArray, List.getElem?_cons_zero]; rfl) (by rfl) (by kernel_rfl) (by kernel_rfl) (by kernel_rfl) (by kernel_rfl) (by exact fun _ _ _ h => h) (Or.inl ⟨by rfl, ?hys5⟩) ((And.intro ((HS.out.to HV.out).b0.cell 0) (And.intro ((HS.out.to HV.out).b0.cell 1) ((HS.out.to HV.out).b0.cell 2)))) (behind_cons (fun _ => (And.intro ((HS.out.to HV.out).b0.cell 0) (And.intro ((HS.out.to HV.out).b0.cell 1) ((HS.out.to HV.out).b0.cell 2)))) (behind_cons (fun h => by simp at h) (behind_cons (fun h => by simp at h) (fun p hp => by cases hp)))) ?rests5
        case hys5 => (intro W' hSW; go_simp; try with_reducible rfl)
        try simp only [Act.put, List.setIfInBounds_toArray, List.set_cons_zero, List.set_cons_succ]
        refine wpAnyV_take (i := 1) (m := 1) (v := ?_) (by simp only [List.getElem?_toArray, List.getElem?_cons_zero, List.getElem?_cons_succ]; rfl) (by rfl) (by kernel_rfl) (by kernel_rfl) (by kernel_rfl) (by kernel_rfl) (by exact fun _ _ _ h => h) (Or.inl ⟨by rfl, ?hys6⟩) ((And.intro ((HS.out.to HV.out).b1.cell 0) ((HS.out.to HV.out).b1.cell 1))) (behind_cons (fun _ => (And.intro ((HS.out.to HV.out).b0.cell 0) (And.intro ((HS.out.to HV.out).b0.cell 1) ((HS.out.to HV.out).b0.cell 2)))) (behind_cons (fun _ => (And.intro ((HS.out.to HV.out).b1.cell 0) ((HS.out.to HV.out).b1.cell 1))) (behind_cons (fun h => by simp at h) (fun p hp => by cases hp)))) ?rests6
        case hys6 => (intro W' hSW; go_simp; try with_reducible rfl)
        try simp only [Act.put, List.setIfInBounds_toArray, List.set_cons_zero, List.set_cons_succ]
        refine wpAnyV_take (i := 3) (m := 2) (v := ?_) (by simp only [List.getElem?_toArray, List.getElem?_cons_zero, List.getElem?_cons_succ]; rfl) (by rfl) (by kernel_rfl) (by kernel_rfl) (by kernel_rfl) (by kernel_rfl) (by exact fun _ _ _ h => h) (Or.inl ⟨by rfl, ?hys7⟩) (((HS.out.to HV.out).b2.cell 0)) (behind_cons (fun _ => (And.intro ((HS.out.to HV.out).b0.cell 0) (And.intro ((HS.out.to HV.out).b0.cell 1) ((HS.out.to HV.out).b0.cell 2)))) (behind_cons (fun _ => (And.intro ((HS.out.to HV.out).b1.cell 0) ((HS.out.to HV.out).b1.cell 1))) (behind_cons (fun _ => ((HS.out.to HV.out).b2.cell 0)) (fun p hp => by cases hp)))) ?rests7
        case hys7 => (intro W' hSW; go_simp; try with_reducible rfl)
        try simp only [Act.put, List.setIfInBounds_toArray, List.set_cons_zero, List.set_cons_succ]
        refine wpAnyV_ready (rs := [4, 6]) (by kernel_rfl) (by simp) ?_
        refine AllReadyV.cons (by simp only [List.getElem?_toArray, List.getElem?_cons_zero, List.getElem?_cons_succ]; rfl) (fun K hK => ?_) (AllReadyV.cons (by simp only [List.getElem?_toArray, List.getElem?_cons_zero, List.getElem?_cons_succ]; rfl) (fun K hK => ?_) AllReadyV.nil)
        · go_simp
          go_at_call 29
          refine (ints_any ys (by have := HNY.out; have := HLY.out; have := HLF.out; omega) B (.slice Ay ny cy) _ (HS.out.to HV.out).oy).mono ?_
          rintro e w511 ⟨va, rfl, hv, hb⟩
          obtain ⟨Aa, ca, rfl⟩ := own_slice hv
          have hv2 : w511.ownsRow wr.heap.size 3 1 (.slice Aa ny ca) ny (intCells ys) := by rw [HNY.out]; exact hv.mono HV.out.size
          rw [← HNY.out]
          have HV511 := Lib.hid hv2
          have HC511 := Lib.hid (HV.out.trans (hb.mono HV.out.size))
          clear hb hv hv2
          refine hK.out _ _ (behind_cons (fun _ => (And.intro ((HS.out.to HC511.out).b0.cell 0) (And.intro ((HS.out.to HC511.out).b0.cell 1) ((HS.out.to HC511.out).b0.cell 2)))) (behind_cons (fun _ => (And.intro ((HS.out.to HC511.out).b1.cell 0) ((HS.out.to HC511.out).b1.cell 1))) (behind_cons (fun _ => ((HS.out.to HC511.out).b2.cell 0)) (fun p hp => by cases hp)))) ?_
          clear hK K
          try simp only [Act.put, List.setIfInBounds_toArray, List.set_cons_zero, List.set_cons_succ]
          refine wpAnyV_ready (rs := [6]) (by kernel_rfl) (by simp) ?_
          refine AllReadyV.cons (by simp only [List.getElem?_toArray, List.getElem?_cons_zero, List.getElem?_cons_succ]; rfl) (fun K hK => ?_) AllReadyV.nil
          go_simp
          have HC512 := Lib.hid (HC511.out.alloc HC511.out.size (.cells #[.int .i64 n] 3))
          have HN512 := Lib.hid (Blok.new w511 3 [.int .i64 n])
          have HV512 := Lib.hid (HV511.out.alloc (.cells #[.int .i64 n] 3))
          refine hK.out _ _ (behind_cons (fun _ => (And.intro ((HS.out.to HC512.out).b0.cell 0) (And.intro ((HS.out.to HC512.out).b0.cell 1) ((HS.out.to HC512.out).b0.cell 2)))) (behind_cons (fun _ => (And.intro ((HS.out.to HC512.out).b1.cell 0) ((HS.out.to HC512.out).b1.cell 1))) (behind_cons (fun _ => ((HS.out.to HC512.out).b2.cell 0)) (fun p hp => by cases hp)))) ?_
          clear hK K
          try simp only [Act.put, List.setIfInBounds_toArray, List.set_cons_zero, List.set_cons_succ]
          refine wpAnyV_ready (rs := [7]) (by kernel_rfl) (by simp) ?_
          refine AllReadyV.cons (by simp only [List.getElem?_toArray, List.getElem?_cons_zero, List.getElem?_cons_succ]; rfl) (fun K hK => ?_) AllReadyV.nil
          refine step_append_lies (w511.alloc (.cells #[.int .i64 n] 3)) (by rfl) _ _ 22 (by rfl) wr.heap.size 3 kN _ 1 8 Tryz.underlying22 HI.out HI0.out HI1.out HI2.out rfl (by omega) (.slice Aa ny ca) ny (intCells ys) (by rfl) HV512.out ⟨w511.heap.size, 0, none⟩ 1 1 [.int .i64 n] (by rfl) (by rfl) (World.news_of_block HN512.out) (by simp [Value.oneCell']) (by omega) (by have := HLY.out; have := HLF.out; unfold maxLen; omega) (by have := HLY.out; have := HLF.out; omega) HC512.out.size _ rfl ?_
          intro g8 c8 w513 hown hgrow hat hlt8
          have HC513 := Lib.hid (HC512.out.grown hgrow HC512.out.size (fun k hk => (HV512.out.lt k hk).1))
          have HV513 := Lib.hid hown
          clear hown hgrow hat hlt8
          try go_simp
          refine hK.out _ _ (behind_cons (fun _ => (And.intro ((HS.out.to HC513.out).b0.cell 0) (And.intro ((HS.out.to HC513.out).b0.cell 1) ((HS.out.to HC513.out).b0.cell 2)))) (behind_cons (fun _ => (And.intro ((HS.out.to HC513.out).b1.cell 0) ((HS.out.to HC513.out).b1.cell 1))) (behind_cons (fun _ => ((HS.out.to HC513.out).b2.cell 0)) (fun p hp => by cases hp)))) ?_
          clear hK K
          try simp only [Act.put, List.setIfInBounds_toArray, List.set_cons_zero, List.set_cons_succ]
          refine wpAnyV_free (i := 8) (v := ?_) (by simp only [List.getElem?_toArray, List.getElem?_cons_zero, List.getElem?_cons_succ]; rfl) (by kernel_rfl) (by kernel_rfl) (by kernel_rfl) (by kernel_rfl) (by exact fun _ _ _ h => h) (Or.inl ⟨by rfl, ?hys11⟩) (behind_cons (fun _ => (And.intro ((HS.out.to HC513.out).b0.cell 0) (And.intro ((HS.out.to HC513.out).b0.cell 1) ((HS.out.to HC513.out).b0.cell 2)))) (behind_cons (fun _ => (And.intro ((HS.out.to HC513.out).b1.cell 0) ((HS.out.to HC513.out).b1.cell 1))) (behind_cons (fun _ => ((HS.out.to HC513.out).b2.cell 0)) (fun p hp => by cases hp)))) ?rests11
          case hys11 => (intro W' _; go_simp; try with_reducible rfl)
          try simp only [Act.put, List.setIfInBounds_toArray, List.set_cons_zero, List.set_cons_succ]
          refine wpAnyV_ready (rs := [10]) (by kernel_rfl) (by simp) ?_
          refine AllReadyV.cons (by simp only [List.getElem?_toArray, List.getElem?_cons_zero, List.getElem?_cons_succ]; rfl) (fun K hK => ?_) AllReadyV.nil
          go_simp
          go_at_call 7
          refine (HIH.out (ys ++ [n]) (by rw [List.length_append, ← HNY.out]; have := HLY.out; simp; omega) (fun y hy => by rcases List.mem_append.1 hy with hy | hy; exact HYS.out y hy; rw [List.mem_singleton.1 hy]; exact ⟨hn1, hn2⟩) B _ (Nat.le_trans hB (Nat.le_trans HS.out.grown.size HC513.out.size)) _ _ _ _ _ (Lo ++ ((rangeI 0 7).take j).flatMap (fun n => stonesP d m (ys ++ [n]))) (HS.out.to HC513.out).dat (show IntsO w513 B (.slice (some ⟨g8, 0, none⟩) (ny + 1) c8) (ys ++ [n]) by unfold IntsO; rw [List.length_append, ← HNY.out, show intCells (ys ++ [n]) = intCells ys ++ [.int .i64 n] by simp [intCells]]; exact HV513.out.mono (Nat.le_trans hB (Nat.le_trans HS.out.grown.size (Nat.le_refl _)))) (World.ownsRow_nil _ _ _ _) (HS.out.to HC513.out).out HFB.out).mono ?_
          rintro e w514 ⟨vo2, rfl, hwo, hg, hf⟩
          have HTS := Lib.hid ((HS.out.to HC513.out).grow hg hwo hf)
          clear hwo hg hf
          refine hK.out _ _ (behind_cons (fun _ => (And.intro (HTS.out.b0.cell 0) (And.intro (HTS.out.b0.cell 1) (HTS.out.b0.cell 2)))) (behind_cons (fun _ => (And.intro (HTS.out.b1.cell 0) (HTS.out.b1.cell 1))) (behind_cons (fun _ => (HTS.out.b2.cell 0)) (fun p hp => by cases hp)))) ?_
          clear hK K
          try simp only [Act.put, List.setIfInBounds_toArray, List.set_cons_zero, List.set_cons_succ]
          refine wpAnyV_free (i := 11) (v := ?_) (by simp only [List.getElem?_toArray, List.getElem?_cons_zero, List.getElem?_cons_succ]; rfl) (by kernel_rfl) (by kernel_rfl) (by kernel_rfl) (by kernel_rfl) (by exact fun _ _ _ h => h) (Or.inl ⟨by rfl, ?hys13⟩) (behind_cons (fun _ => (And.intro (HTS.out.b0.cell 0) (And.intro (HTS.out.b0.cell 1) (HTS.out.b0.cell 2)))) (behind_cons (fun _ => (And.intro (HTS.out.b1.cell 0) (HTS.out.b1.cell 1))) (behind_cons (fun _ => (HTS.out.b2.cell 0)) (fun p hp => by cases hp)))) ?rests13
          case hys13 => (intro W' _; go_simp; try with_reducible rfl)
          try simp only [Act.put, List.setIfInBounds_toArray, List.set_cons_zero, List.set_cons_succ]
          refine wpAnyV_done (by kernel_rfl) ?_ _
          go_wp2_with fail
          go_roundg (gk - 1)
          case measure => omega
          case rel => exact ⟨j + 1, by rw [show 0 + ((j + 1 : Nat) : Int) = n + 1 by have := HNN.out; omega], by omega, by rw [flat_take _ _ _ _ HAT.out, ← List.append_assoc]; exact HTS.out⟩
        · go_simp
          have HC515 := Lib.hid (HV.out.alloc HV.out.size (.cells #[.int .i64 n] 3))
          have HN515 := Lib.hid (Blok.new V 3 [.int .i64 n])
          refine hK.out _ _ (behind_cons (fun _ => (And.intro ((HS.out.to HC515.out).b0.cell 0) (And.intro ((HS.out.to HC515.out).b0.cell 1) ((HS.out.to HC515.out).b0.cell 2)))) (behind_cons (fun _ => (And.intro ((HS.out.to HC515.out).b1.cell 0) ((HS.out.to HC515.out).b1.cell 1))) (behind_cons (fun _ => ((HS.out.to HC515.out).b2.cell 0)) (fun p hp => by cases hp)))) ?_
          clear hK K
          try simp only [Act.put, List.setIfInBounds_toArray, List.set_cons_zero, List.set_cons_succ]
          refine wpAnyV_ready (rs := [4]) (by kernel_rfl) (by simp) ?_
          refine AllReadyV.cons (by simp only [List.getElem?_toArray, List.getElem?_cons_zero, List.getElem?_cons_succ]; rfl) (fun K hK => ?_) AllReadyV.nil
          go_simp
          go_at_call 29
          refine (ints_any ys (by have := HNY.out; have := HLY.out; have := HLF.out; omega) B (.slice Ay ny cy) _ (HS.out.to HC515.out).oy).mono ?_
          rintro e w516 ⟨va, rfl, hv, hb⟩
          obtain ⟨Aa, ca, rfl⟩ := own_slice hv
          have hv2 : w516.ownsRow wr.heap.size 3 1 (.slice Aa ny ca) ny (intCells ys) := by rw [HNY.out]; exact hv.mono HC515.out.size
          rw [← HNY.out]
          have HV516 := Lib.hid hv2
          have HC516 := Lib.hid (HC515.out.trans (hb.mono HC515.out.size))
          have HN516 := Lib.hid (HN515.out.below hb HN515.out.size)
          clear hb hv hv2
          refine hK.out _ _ (behind_cons (fun _ => (And.intro ((HS.out.to HC516.out).b0.cell 0) (And.intro ((HS.out.to HC516.out).b0.cell 1) ((HS.out.to HC516.out).b0.cell 2)))) (behind_cons (fun _ => (And.intro ((HS.out.to HC516.out).b1.cell 0) ((HS.out.to HC516.out).b1.cell 1))) (behind_cons (fun _ => ((HS.out.to HC516.out).b2.cell 0)) (fun p hp => by cases hp)))) ?_
          clear hK K
          try simp only [Act.put, List.setIfInBounds_toArray, List.set_cons_zero, List.set_cons_succ]
          refine wpAnyV_ready (rs := [7]) (by kernel_rfl) (by simp) ?_
          refine AllReadyV.cons (by simp only [List.getElem?_toArray, List.getElem?_cons_zero, List.getElem?_cons_succ]; rfl) (fun K hK => ?_) AllReadyV.nil
          refine step_append_lies w516 (by rfl) _ _ 22 (by rfl) wr.heap.size 3 kN _ 1 8 Tryz.underlying22 HI.out HI0.out HI1.out HI2.out rfl (by omega) (.slice Aa ny ca) ny (intCells ys) (by rfl) HV516.out ⟨V.heap.size, 0, none⟩ 1 1 [.int .i64 n] (by rfl) (by rfl) (World.news_of_block HN516.out) (by simp [Value.oneCell']) (by omega) (by have := HLY.out; have := HLF.out; unfold maxLen; omega) (by have := HLY.out; have := HLF.out; omega) HC516.out.size _ rfl ?_
          intro g8 c8 w517 hown hgrow hat hlt8
          have HC517 := Lib.hid (HC516.out.grown hgrow HC516.out.size (fun k hk => (HV516.out.lt k hk).1))
          have HV517 := Lib.hid hown
          clear hown hgrow hat hlt8
          try go_simp
          refine hK.out _ _ (behind_cons (fun _ => (And.intro ((HS.out.to HC517.out).b0.cell 0) (And.intro ((HS.out.to HC517.out).b0.cell 1) ((HS.out.to HC517.out).b0.cell 2)))) (behind_cons (fun _ => (And.intro ((HS.out.to HC517.out).b1.cell 0) ((HS.out.to HC517.out).b1.cell 1))) (behind_cons (fun _ => ((HS.out.to HC517.out).b2.cell 0)) (fun p hp => by cases hp)))) ?_
          clear hK K
          try simp only [Act.put, List.setIfInBounds_toArray, List.set_cons_zero, List.set_cons_succ]
          refine wpAnyV_free (i := 8) (v := ?_) (by simp only [List.getElem?_toArray, List.getElem?_cons_zero, List.getElem?_cons_succ]; rfl) (by kernel_rfl) (by kernel_rfl) (by kernel_rfl) (by kernel_rfl) (by exact fun _ _ _ h => h) (Or.inl ⟨by rfl, ?hys17⟩) (behind_cons (fun _ => (And.intro ((HS.out.to HC517.out).b0.cell 0) (And.intro ((HS.out.to HC517.out).b0.cell 1) ((HS.out.to HC517.out).b0.cell 2)))) (behind_cons (fun _ => (And.intro ((HS.out.to HC517.out).b1.cell 0) ((HS.out.to HC517.out).b1.cell 1))) (behind_cons (fun _ => ((HS.out.to HC517.out).b2.cell 0)) (fun p hp => by cases hp)))) ?rests17
          case hys17 => (intro W' _; go_simp; try with_reducible rfl)
          try simp only [Act.put, List.setIfInBounds_toArray, List.set_cons_zero, List.set_cons_succ]
          refine wpAnyV_ready (rs := [10]) (by kernel_rfl) (by simp) ?_
          refine AllReadyV.cons (by simp only [List.getElem?_toArray, List.getElem?_cons_zero, List.getElem?_cons_succ]; rfl) (fun K hK => ?_) AllReadyV.nil
          go_simp
          go_at_call 7
          refine (HIH.out (ys ++ [n]) (by rw [List.length_append, ← HNY.out]; have := HLY.out; simp; omega) (fun y hy => by rcases List.mem_append.1 hy with hy | hy; exact HYS.out y hy; rw [List.mem_singleton.1 hy]; exact ⟨hn1, hn2⟩) B _ (Nat.le_trans hB (Nat.le_trans HS.out.grown.size HC517.out.size)) _ _ _ _ _ (Lo ++ ((rangeI 0 7).take j).flatMap (fun n => stonesP d m (ys ++ [n]))) (HS.out.to HC517.out).dat (show IntsO w517 B (.slice (some ⟨g8, 0, none⟩) (ny + 1) c8) (ys ++ [n]) by unfold IntsO; rw [List.length_append, ← HNY.out, show intCells (ys ++ [n]) = intCells ys ++ [.int .i64 n] by simp [intCells]]; exact HV517.out.mono (Nat.le_trans hB (Nat.le_trans HS.out.grown.size (Nat.le_refl _)))) (World.ownsRow_nil _ _ _ _) (HS.out.to HC517.out).out HFB.out).mono ?_
          rintro e w518 ⟨vo2, rfl, hwo, hg, hf⟩
          have HTS := Lib.hid ((HS.out.to HC517.out).grow hg hwo hf)
          clear hwo hg hf
          refine hK.out _ _ (behind_cons (fun _ => (And.intro (HTS.out.b0.cell 0) (And.intro (HTS.out.b0.cell 1) (HTS.out.b0.cell 2)))) (behind_cons (fun _ => (And.intro (HTS.out.b1.cell 0) (HTS.out.b1.cell 1))) (behind_cons (fun _ => (HTS.out.b2.cell 0)) (fun p hp => by cases hp)))) ?_
          clear hK K
          try simp only [Act.put, List.setIfInBounds_toArray, List.set_cons_zero, List.set_cons_succ]
          refine wpAnyV_free (i := 11) (v := ?_) (by simp only [List.getElem?_toArray, List.getElem?_cons_zero, List.getElem?_cons_succ]; rfl) (by kernel_rfl) (by kernel_rfl) (by kernel_rfl) (by kernel_rfl) (by exact fun _ _ _ h => h) (Or.inl ⟨by rfl, ?hys19⟩) (behind_cons (fun _ => (And.intro (HTS.out.b0.cell 0) (And.intro (HTS.out.b0.cell 1) (HTS.out.b0.cell 2)))) (behind_cons (fun _ => (And.intro (HTS.out.b1.cell 0) (HTS.out.b1.cell 1))) (behind_cons (fun _ => (HTS.out.b2.cell 0)) (fun p hp => by cases hp)))) ?rests19
          case hys19 => (intro W' _; go_simp; try with_reducible rfl)
          try simp only [Act.put, List.setIfInBounds_toArray, List.set_cons_zero, List.set_cons_succ]
          refine wpAnyV_done (by kernel_rfl) ?_ _
          go_wp2_with fail
          go_roundg (gk - 1)
          case measure => omega
          case rel => exact ⟨j + 1, by rw [show 0 + ((j + 1 : Nat) : Int) = n + 1 by have := HNN.out; omega], by omega, by rw [flat_take _ _ _ _ HAT.out, ← List.append_assoc]; exact HTS.out⟩
      · have hnh : ¬ n ≤ 7 := by omega
        have htk : (rangeI 0 7).take j = (rangeI 0 7) := List.take_of_length_le (by rw [rangeI_len, ← HCN.out]; omega)
        have HTK := Lib.hid htk
        clear htk hn
        go_wp2_with fail
        go_ret
        have h := HS.out
        rw [HTK.out, ← HFL.out] at h
        exact ⟨_, rfl, h.out, by rw [← HROW.out]; exact h.grown, fun b hb => (h.old b hb).elim (fun h1 => .inl (by rw [← HROW.out]; exact h1.1)) (fun h1 => .inr (by omega))⟩
end Go.Proofs.YtmfjfjahemlhkaaGreat
