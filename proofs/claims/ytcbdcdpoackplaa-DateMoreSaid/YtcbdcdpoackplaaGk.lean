/- DateMore, walked. -/
import Derived.Test.YtcbdcdpoackplaaGm
namespace Go.Proofs.Ytcbdcdpoackplaa
open Go.RowKit Dt

set_option maxRecDepth 100000 in
set_option maxHeartbeats 8000000 in
theorem more_walk (a0 : Option Addr) (len cap : Nat) (w : World) (hr : NumRow w a0 len) :
    Calls Try.prog 4 #[.slice a0 len cap] w fun e w' => e = .returned (.bool true) ∧ Below w.heap.size w w' := by
  obtain ⟨kI, hi, hz0, hz1, hz2⟩ := info_parts info_napi
  have HQ := Lib.hid hi
  have HQ0 := Lib.hid hz0
  have HQ1 := Lib.hid hz1
  have HQ2 := Lib.hid hz2
  clear hi hz0 hz1 hz2
  go_enter Try.func4, Try.ntmps4
  go_wp2_with fail
  refine (newUrn_any a0 len cap _ hr).mono ?_
  rintro e w0 ⟨rfl, hu1, hb1⟩
  have HU0 := Lib.hid hu1
  have HB0 := Lib.hid hb1
  have hg0 := hu1.size
  clear hu1 hb1 hr
  go_wp2_with fail
  obtain ⟨w1, rfl⟩ : ∃ w1 : World, w1 = w0 := ⟨_, rfl⟩
  have HU1 := HU0
  have HB1 := HB0
  clear HU0 HB0
  refine (datingOf_any w.heap.size 4 6 12 w1 (by omega) (by omega) (by omega) (by omega) (by omega) HU1.out).mono ?_
  rintro e w2 ⟨d, ys, fs, vd, vy, vf, rfl, hm, hD, hY, hF, hu2, hk2⟩
  obtain ⟨Ae, ce, An, cn, rfl⟩ := hD.slices
  obtain ⟨Ay, cy, rfl⟩ := own_slice hY
  obtain ⟨Af, cf, rfl⟩ := own_slice hF
  have hst := hm.ok.stones
  obtain ⟨gy, rfl⟩ := own_addr hY (by have := hm.ny; omega)
  have HG := Lib.hid (LG.of (LC.start (smax := 0) HB1.out (Nat.le_refl _) hD hY hF hu2 hk2 rfl))
  have HM := Lib.hid hm
  have hn7 := hm.notes
  have he2 := hm.eras
  have hs6 := hm.stones
  have HNY := Lib.hid hm.ny
  have HNF := Lib.hid hm.nf
  have hyes := (may_iff hm.ok).1 ⟨_, hm.is⟩
  have HYES := Lib.hid hyes
  have HD := Lib.hid hm.ok
  have hlen : ∀ (d : Dat) (p n : Nat), (spanList d p n).length = n := fun d p n => by simp [spanList]
  have HLEN := Lib.hid hlen
  clear hD hY hF hu2 hk2 hm HU1 HB1 hyes hlen
  go_wp2_with fail
  refine (copyDating_any d HD.out _ _ _ HG.out.lc.dat).mono ?_
  rintro e w6 ⟨vx, rfl, hX, hb6⟩
  obtain ⟨Ax, cx, Bn, bn, rfl⟩ := hX.slices
  have h5 := HG.out.below.size
  have h56 := hb6.size
  have hbelow : ∀ b, (Value.slice Ae d.eras.length ce).ownBlock = some b → b < w6.heap.size := fun b hb => by
    obtain ⟨ve', vn', e, h1, _⟩ := HG.out.lc.dat
    injection e with e
    simp at e
    obtain ⟨rfl, rfl⟩ := e
    have := (h1.lt b hb).2
    omega
  have hfresh : ∀ gx, Ax = some ⟨gx, 0, none⟩ → (Value.slice Ae d.eras.length ce).ownBlock ≠ some gx := fun gx e hb => by
    obtain ⟨ve', vn', e', h1, _⟩ := HG.out.lc.dat
    injection e' with e'
    simp at e'
    obtain ⟨rfl, rfl⟩ := e'
    have h2 := (h1.lt gx hb).2
    obtain ⟨ve'', vn'', e'', h3, _⟩ := hX
    injection e'' with e''
    simp at e''
    obtain ⟨rfl, rfl⟩ := e''
    have h4 := (h3.lt gx (by rw [e]; rfl)).1
    omega
  have HFR := Lib.hid hfresh
  have hdis : ∀ b, (Value.slice Bn d.notes.length bn).ownBlock = some b → (Value.slice An d.notes.length cn).ownBlock ≠ some b := fun b hb hb' => by
    obtain ⟨ve', vn', e', _, xs', _, h1, _⟩ := HG.out.lc.dat
    injection e' with e'
    simp at e'
    obtain ⟨rfl, rfl⟩ := e'
    have h2 := (h1.lt b hb').2
    obtain ⟨ve'', vn'', e'', _, xs'', _, h3, _⟩ := hX
    injection e'' with e''
    simp at e''
    obtain ⟨rfl, rfl⟩ := e''
    have h4 := (h3.lt b hb).1
    omega
  have HDIS := Lib.hid hdis
  clear hdis
  have hst1 : LG w w.heap.size w2.heap.size d ys fs (.slice Ae d.eras.length ce) (.slice An d.notes.length cn) (.slice (some ⟨gy, 0, none⟩) ys.length cy) (.slice Af fs.length cf) [⟨w6.heap.size, 28, [.int .i64 d.stones, .slice Ax d.eras.length cx, .slice Bn d.notes.length bn]⟩] [⟨39, 2, .slice Ax d.eras.length cx, d.eras.length, flatS d.eras⟩] [(.slice Bn d.notes.length bn, d.notes)] [] (w6.alloc (.cells #[.int .i64 d.stones, .slice Ax d.eras.length cx, .slice Bn d.notes.length bn] 28)) := by
    have hg := (HG.out.to hb6).alloc (.cells #[.int .i64 d.stones, .slice Ax d.eras.length cx, .slice Bn d.notes.length bn] 28)
    obtain ⟨ve'', vn'', e'', h3, h4⟩ := (hX.mono (by omega : w.heap.size ≤ _)).below ((Below.refl _ w6).alloc (Nat.le_refl _) (.cells #[.int .i64 d.stones, .slice Ax d.eras.length cx, .slice Bn d.notes.length bn] 28))
    injection e'' with e''
    simp at e''
    obtain ⟨rfl, rfl⟩ := e''
    exact ((hg.addB ⟨w6.heap.size, 28, [.int .i64 d.stones, .slice Ax d.eras.length cx, .slice Bn d.notes.length bn]⟩ (by show (28 : TypeId) ≠ _; decide) (by show w.heap.size ≤ w6.heap.size; omega) (Blok.new w6 _ _)).addR ⟨39, 2, .slice Ax d.eras.length cx, d.eras.length, flatS d.eras⟩ (by show (39 : TypeId) ≠ _; decide) h3).addN (.slice Bn d.notes.length bn, d.notes) h4
  have HS := Lib.hid hst1
  have hw6 : w.heap.size ≤ w6.heap.size := by omega
  have hbx : w2.heap.size + 1 < w6.heap.size := by have := HG.out.lc.kw.size; omega
  clear hst1 hX hb6 hbelow hfresh HG h5 h56
  go_wp2_with fail
  go_loopg [7] d.eras.length (fun r i wr => ∃ (k : Nat) (es' : List (Int × Int)), i = .int .i64 (k : Nat) ∧ k + r = d.eras.length ∧ Narrowed d.eras k es' ∧ LG w w.heap.size w2.heap.size d ys fs (.slice Ae d.eras.length ce) (.slice An d.notes.length cn) (.slice (some ⟨gy, 0, none⟩) ys.length cy) (.slice Af fs.length cf) [⟨w6.heap.size, 28, [.int .i64 d.stones, .slice Ax d.eras.length cx, .slice Bn d.notes.length bn]⟩] [⟨39, 2, .slice Ax d.eras.length cx, d.eras.length, flatS es'⟩] [(.slice Bn d.notes.length bn, d.notes)] [] wr)
  case atStart => exact ⟨0, _, rfl, by omega, Narrowed.start HD.out.eras.2, HS.out⟩
  case round =>
    clear HS
    obtain ⟨k, es', rfl, hkr, hnr, hs⟩ := hrel
    have HS := Lib.hid hs
    have HN := Lib.hid hnr
    clear hs hnr
    have dx : wr.cell? ⟨w6.heap.size, 1, none⟩ = some (.slice Ax d.eras.length cx) := (HS.out.blok 0 rfl).cell 1
    by_cases hlt : k < d.eras.length
    · obtain ⟨gx, rfl⟩ := own_addr (HS.out.row 0 rfl) (by exact (by omega : 0 < d.eras.length))
      obtain ⟨gf, rfl⟩ := own_addr HS.out.lc.of (by have := HNF.out; omega)
      obtain ⟨f, hf⟩ : ∃ f, fs[k]? = some f := ⟨_, List.getElem?_eq_getElem (by rw [HNF.out]; exact hlt)⟩
      obtain ⟨p, hp⟩ : ∃ p, d.eras[k]? = some p := ⟨_, List.getElem?_eq_getElem hlt⟩
      have hes : es'[k]? = some p := by rw [HN.out.rest k (Nat.le_refl _)]; exact hp
      have hpb : p.1 ≤ f ∧ f ≤ p.2 := by
        have hb := HM.out.is.base (7 + k) (by omega)
        unfold Dat.base at hb
        rw [if_neg (by omega), if_neg (by omega), xOf_era ys fs k f hf, List.getD_eq_getElem?_getD, show 7 + k - 7 = k by omega, hp] at hb
        exact hb
      have hps := HM.out.smallE p (List.mem_of_getElem? hp)
      obtain ⟨pb1, pb2⟩ := hpb
      obtain ⟨ps1, ps2⟩ := hps
      obtain ⟨u1, u2⟩ := flatS_at es' k p hes
      have HCF := Lib.hid (fun (W : World) (h : LG w w.heap.size w2.heap.size d ys fs (.slice Ae d.eras.length ce) (.slice An d.notes.length cn) (.slice (some ⟨gy, 0, none⟩) ys.length cy) (.slice (some ⟨gf, 0, none⟩) fs.length cf) [⟨w6.heap.size, 28, [.int .i64 d.stones, .slice (some ⟨gx, 0, none⟩) d.eras.length cx, .slice Bn d.notes.length bn]⟩] [⟨39, 2, .slice (some ⟨gx, 0, none⟩) d.eras.length cx, d.eras.length, flatS es'⟩] [(.slice Bn d.notes.length bn, d.notes)] [] W) => (show W.cell? ⟨gf, k, none⟩ = some (.int .i64 f) by
        rw [h.lc.of.cellAt k (by have := HNF.out; omega)]
        simp [intCells, hf]))
      have HC1 := Lib.hid (fun (W : World) (h : LG w w.heap.size w2.heap.size d ys fs (.slice Ae d.eras.length ce) (.slice An d.notes.length cn) (.slice (some ⟨gy, 0, none⟩) ys.length cy) (.slice (some ⟨gf, 0, none⟩) fs.length cf) [⟨w6.heap.size, 28, [.int .i64 d.stones, .slice (some ⟨gx, 0, none⟩) d.eras.length cx, .slice Bn d.notes.length bn]⟩] [⟨39, 2, .slice (some ⟨gx, 0, none⟩) d.eras.length cx, d.eras.length, flatS es'⟩] [(.slice Bn d.notes.length bn, d.notes)] [] W) => (show W.cell? ⟨gx, k * 2, none⟩ = some (.int .i64 p.1) from ((h.row 0 rfl).cellAt (k * 2) (by show k * 2 < d.eras.length * 2; omega)).trans u1))
      have HC2 := Lib.hid (fun (W : World) (h : LG w w.heap.size w2.heap.size d ys fs (.slice Ae d.eras.length ce) (.slice An d.notes.length cn) (.slice (some ⟨gy, 0, none⟩) ys.length cy) (.slice (some ⟨gf, 0, none⟩) fs.length cf) [⟨w6.heap.size, 28, [.int .i64 d.stones, .slice (some ⟨gx, 0, none⟩) d.eras.length cx, .slice Bn d.notes.length bn]⟩] [⟨39, 2, .slice (some ⟨gx, 0, none⟩) d.eras.length cx, d.eras.length, flatS es'⟩] [(.slice Bn d.notes.length bn, d.notes)] [] W) => (show W.cell? ⟨gx, k * 2 + 1, none⟩ = some (.int .i64 p.2) from ((h.row 0 rfl).cellAt (k * 2 + 1) (by show k * 2 + 1 < d.eras.length * 2; omega)).trans u2))
      have HPK := Lib.hid hp
      have hkf : k < fs.length := by have := HNF.out; omega
      clear hf hp hes u1 u2
      go_wp2_with fail
      refine wp_region_v [(fun j => j == 1 || j == 5 || j == 7 || j == 8 || j == 10 || j == 12 || j == 13 || j == 14 || j == 15, fun W => W.cell? ⟨w6.heap.size, 1, none⟩ = some (.slice (some ⟨gx, 0, none⟩) d.eras.length cx)), (fun j => j == 8 || j == 10 || j == 12 || j == 13 || j == 14 || j == 15, fun W => W.cell? ⟨gx, k * 2, none⟩ = some (.int .i64 p.1) ∧ W.cell? ⟨gx, k * 2 + 1, none⟩ = some (.int .i64 p.2)), (fun j => j == 10 || j == 12 || j == 13 || j == 14 || j == 15, fun W => W.cell? ⟨w2.heap.size + 1, 1, none⟩ = some (.slice (some ⟨gf, 0, none⟩) fs.length cf)), (fun j => j == 13 || j == 14 || j == 15, fun W => W.cell? ⟨gf, k, none⟩ = some (.int .i64 f))] (by kernel_rfl) ?_
      refine wpAnyV_world (fun W => LG w w.heap.size w2.heap.size d ys fs (.slice Ae d.eras.length ce) (.slice An d.notes.length cn) (.slice (some ⟨gy, 0, none⟩) ys.length cy) (.slice (some ⟨gf, 0, none⟩) fs.length cf) [⟨w6.heap.size, 28, [.int .i64 d.stones, .slice (some ⟨gx, 0, none⟩) d.eras.length cx, .slice Bn d.notes.length bn]⟩] [⟨39, 2, .slice (some ⟨gx, 0, none⟩) d.eras.length cx, d.eras.length, flatS es'⟩] [(.slice Bn d.notes.length bn, d.notes)] [] W) HS.out.drew (fun V hV => ?_)
      have HV := Lib.hid hV
      clear hV
      refine wpAnyV_free (i := 0) (v := ?_) (by simp only [List.getElem?_toArray, List.getElem?_cons_zero]; rfl) (by kernel_rfl) (by kernel_rfl) (by kernel_rfl) (by kernel_rfl) (by exact fun _ _ _ h => h) (Or.inl ⟨by rfl, ?hya2⟩) (behind_cons (fun h => by simp at h) (behind_cons (fun h => by simp at h) (behind_cons (fun h => by simp at h) (behind_cons (fun h => by simp at h) (fun p hp => by cases hp))))) ?resta2
      case hya2 => (intro W' _; go_simp; try with_reducible rfl)
      try simp only [Act.put, List.setIfInBounds_toArray, List.set_cons_zero, List.set_cons_succ]
      refine wpAnyV_free (i := 2) (v := ?_) (by simp only [List.getElem?_toArray, List.getElem?_cons_zero, List.getElem?_cons_succ]; rfl) (by kernel_rfl) (by kernel_rfl) (by kernel_rfl) (by kernel_rfl) (by exact fun _ _ _ h => h) (Or.inl ⟨by rfl, ?hya3⟩) (behind_cons (fun h => by simp at h) (behind_cons (fun h => by simp at h) (behind_cons (fun h => by simp at h) (behind_cons (fun h => by simp at h) (fun p hp => by cases hp))))) ?resta3
      case hya3 => (intro W' _; go_simp; try with_reducible rfl)
      try simp only [Act.put, List.setIfInBounds_toArray, List.set_cons_zero, List.set_cons_succ]
      refine wpAnyV_free (i := 3) (v := ?_) (by simp only [List.getElem?_toArray, List.getElem?_cons_zero, List.getElem?_cons_succ]; rfl) (by kernel_rfl) (by kernel_rfl) (by kernel_rfl) (by kernel_rfl) (by exact fun _ _ _ h => h) (Or.inl ⟨by rfl, ?hya4⟩) (behind_cons (fun h => by simp at h) (behind_cons (fun h => by simp at h) (behind_cons (fun h => by simp at h) (behind_cons (fun h => by simp at h) (fun p hp => by cases hp))))) ?resta4
      case hya4 => (intro W' _; go_simp; try with_reducible rfl)
      try simp only [Act.put, List.setIfInBounds_toArray, List.set_cons_zero, List.set_cons_succ]
      refine wpAnyV_free (i := 4) (v := ?_) (by simp only [List.getElem?_toArray, List.getElem?_cons_zero, List.getElem?_cons_succ]; rfl) (by kernel_rfl) (by kernel_rfl) (by kernel_rfl) (by kernel_rfl) (by exact fun _ _ _ h => h) (Or.inl ⟨by rfl, ?hya5⟩) (behind_cons (fun h => by simp at h) (behind_cons (fun h => by simp at h) (behind_cons (fun h => by simp at h) (behind_cons (fun h => by simp at h) (fun p hp => by cases hp))))) ?resta5
      case hya5 => (intro W' _; go_simp; try with_reducible rfl)
      try simp only [Act.put, List.setIfInBounds_toArray, List.set_cons_zero, List.set_cons_succ]
      refine wpAnyV_free (i := 6) (v := ?_) (by simp only [List.getElem?_toArray, List.getElem?_cons_zero, List.getElem?_cons_succ]; rfl) (by kernel_rfl) (by kernel_rfl) (by kernel_rfl) (by kernel_rfl) (by exact fun _ _ _ h => h) (Or.inl ⟨by rfl, ?hya6⟩) (behind_cons (fun h => by simp at h) (behind_cons (fun h => by simp at h) (behind_cons (fun h => by simp at h) (behind_cons (fun h => by simp at h) (fun p hp => by cases hp))))) ?resta6
      case hya6 => (intro W' _; go_simp; try with_reducible rfl)
      try simp only [Act.put, List.setIfInBounds_toArray, List.set_cons_zero, List.set_cons_succ]
      refine wpAnyV_free (i := 9) (v := ?_) (by simp only [List.getElem?_toArray, List.getElem?_cons_zero, List.getElem?_cons_succ]; rfl) (by kernel_rfl) (by kernel_rfl) (by kernel_rfl) (by kernel_rfl) (by exact fun _ _ _ h => h) (Or.inl ⟨by rfl, ?hya7⟩) (behind_cons (fun h => by simp at h) (behind_cons (fun h => by simp at h) (behind_cons (fun h => by simp at h) (behind_cons (fun h => by simp at h) (fun p hp => by cases hp))))) ?resta7
      case hya7 => (intro W' _; go_simp; try with_reducible rfl)
      try simp only [Act.put, List.setIfInBounds_toArray, List.set_cons_zero, List.set_cons_succ]
      refine wpAnyV_free (i := 11) (v := ?_) (by simp only [List.getElem?_toArray, List.getElem?_cons_zero, List.getElem?_cons_succ]; rfl) (by kernel_rfl) (by kernel_rfl) (by kernel_rfl) (by kernel_rfl) (by exact fun _ _ _ h => h) (Or.inl ⟨by rfl, ?hya8⟩) (behind_cons (fun h => by simp at h) (behind_cons (fun h => by simp at h) (behind_cons (fun h => by simp at h) (behind_cons (fun h => by simp at h) (fun p hp => by cases hp))))) ?resta8
      case hya8 => (intro W' _; go_simp; try with_reducible rfl)
      try simp only [Act.put, List.setIfInBounds_toArray, List.set_cons_zero, List.set_cons_succ]
      refine wpAnyV_take (i := 1) (m := 0) (v := ?_) (by simp only [List.getElem?_toArray, List.getElem?_cons_zero, List.getElem?_cons_succ]; rfl) (by rfl) (by kernel_rfl) (by kernel_rfl) (by kernel_rfl) (by kernel_rfl) (by exact fun _ _ _ h => h) (Or.inl ⟨by rfl, ?hya9⟩) ((HV.out.blok 0 rfl).cell 1) (behind_cons (fun _ => (HV.out.blok 0 rfl).cell 1) (behind_cons (fun h => by simp at h) (behind_cons (fun h => by simp at h) (behind_cons (fun h => by simp at h) (fun p hp => by cases hp))))) ?resta9
      case hya9 => (intro W' hSW; go_simp; try with_reducible rfl)
      try simp only [Act.put, List.setIfInBounds_toArray, List.set_cons_zero, List.set_cons_succ]
      refine wpAnyV_take (i := 5) (m := 0) (v := ?_) (by simp only [List.getElem?_toArray, List.getElem?_cons_zero, List.getElem?_cons_succ]; rfl) (by rfl) (by kernel_rfl) (by kernel_rfl) (by kernel_rfl) (by kernel_rfl) (by exact fun _ _ _ h => h) (Or.inl ⟨by rfl, ?hya10⟩) ((HV.out.blok 0 rfl).cell 1) (behind_cons (fun _ => (HV.out.blok 0 rfl).cell 1) (behind_cons (fun h => by simp at h) (behind_cons (fun h => by simp at h) (behind_cons (fun h => by simp at h) (fun p hp => by cases hp))))) ?resta10
      case hya10 => (intro W' hSW; go_simp; try with_reducible rfl)
      try simp only [Act.put, List.setIfInBounds_toArray, List.set_cons_zero, List.set_cons_succ]
      refine wpAnyV_free (i := 7) (v := ?_) (by simp only [List.getElem?_toArray, List.getElem?_cons_zero, List.getElem?_cons_succ]; rfl) (by kernel_rfl) (by kernel_rfl) (by kernel_rfl) (by kernel_rfl) (by exact fun _ _ _ h => h) (Or.inl ⟨by rfl, ?hya11⟩) (behind_cons (fun _ => (HV.out.blok 0 rfl).cell 1) (behind_cons (fun h => by simp at h) (behind_cons (fun h => by simp at h) (behind_cons (fun h => by simp at h) (fun p hp => by cases hp))))) ?resta11
      case hya11 => (intro W' _; go_simp; try with_reducible rfl)
      try simp only [Act.put, List.setIfInBounds_toArray, List.set_cons_zero, List.set_cons_succ]
      refine wpAnyV_take (i := 8) (m := 1) (v := ?_) (by simp only [List.getElem?_toArray, List.getElem?_cons_zero, List.getElem?_cons_succ]; rfl) (by rfl) (by kernel_rfl) (by kernel_rfl) (by kernel_rfl) (by kernel_rfl) (by exact fun _ _ _ h => h) (Or.inl ⟨by rfl, ?hya12⟩) ((And.intro (HC1.out _ HV.out) (HC2.out _ HV.out))) (behind_cons (fun _ => (HV.out.blok 0 rfl).cell 1) (behind_cons (fun _ => (And.intro (HC1.out _ HV.out) (HC2.out _ HV.out))) (behind_cons (fun h => by simp at h) (behind_cons (fun h => by simp at h) (fun p hp => by cases hp))))) ?resta12
      case hya12 => (intro W' hSW; go_simp; try with_reducible rfl)
      try simp only [Act.put, List.setIfInBounds_toArray, List.set_cons_zero, List.set_cons_succ]
      refine wpAnyV_take (i := 10) (m := 2) (v := ?_) (by simp only [List.getElem?_toArray, List.getElem?_cons_zero, List.getElem?_cons_succ]; rfl) (by rfl) (by kernel_rfl) (by kernel_rfl) (by kernel_rfl) (by kernel_rfl) (by exact fun _ _ _ h => h) (Or.inl ⟨by rfl, ?hya13⟩) ((HV.out.lc.kw.cell 1)) (behind_cons (fun _ => (HV.out.blok 0 rfl).cell 1) (behind_cons (fun _ => (And.intro (HC1.out _ HV.out) (HC2.out _ HV.out))) (behind_cons (fun _ => (HV.out.lc.kw.cell 1)) (behind_cons (fun h => by simp at h) (fun p hp => by cases hp))))) ?resta13
      case hya13 => (intro W' hSW; go_simp; try with_reducible rfl)
      try simp only [Act.put, List.setIfInBounds_toArray, List.set_cons_zero, List.set_cons_succ]
      refine wpAnyV_free (i := 12) (v := ?_) (by simp only [List.getElem?_toArray, List.getElem?_cons_zero, List.getElem?_cons_succ]; rfl) (by kernel_rfl) (by kernel_rfl) (by kernel_rfl) (by kernel_rfl) (by exact fun _ _ _ h => h) (Or.inl ⟨by rfl, ?hya14⟩) (behind_cons (fun _ => (HV.out.blok 0 rfl).cell 1) (behind_cons (fun _ => (And.intro (HC1.out _ HV.out) (HC2.out _ HV.out))) (behind_cons (fun _ => (HV.out.lc.kw.cell 1)) (behind_cons (fun h => by simp at h) (fun p hp => by cases hp))))) ?resta14
      case hya14 => (intro W' _; go_simp; try with_reducible rfl)
      try simp only [Act.put, List.setIfInBounds_toArray, List.set_cons_zero, List.set_cons_succ]
      refine wpAnyV_take (i := 13) (m := 3) (v := ?_) (by simp only [List.getElem?_toArray, List.getElem?_cons_zero, List.getElem?_cons_succ]; rfl) (by rfl) (by kernel_rfl) (by kernel_rfl) (by kernel_rfl) (by kernel_rfl) (by exact fun _ _ _ h => h) (Or.inl ⟨by rfl, ?hya15⟩) ((HCF.out _ HV.out)) (behind_cons (fun _ => (HV.out.blok 0 rfl).cell 1) (behind_cons (fun _ => (And.intro (HC1.out _ HV.out) (HC2.out _ HV.out))) (behind_cons (fun _ => (HV.out.lc.kw.cell 1)) (behind_cons (fun _ => (HCF.out _ HV.out)) (fun p hp => by cases hp))))) ?resta15
      case hya15 => (intro W' hSW; go_simp; try with_reducible rfl)
      try simp only [Act.put, List.setIfInBounds_toArray, List.set_cons_zero, List.set_cons_succ]
      refine wpAnyV_ready (rs := [14]) (by kernel_rfl) (by simp) ?_
      refine AllReadyV.cons (by simp only [List.getElem?_toArray, List.getElem?_cons_zero, List.getElem?_cons_succ]; rfl) (fun K hK => ?_) AllReadyV.nil
      go_simp
      go_at_call 22
      refine (narrow_any _ _ _ _ _ (by omega) (by omega) (by omega) (by omega) HV.out.urn).mono ?_
      rintro e w501 ⟨na, nb, rfl, na1, na2, nb1, nb2, hu, hk⟩
      have HC501 := Lib.hid (HV.out.calls hu hk)
      clear hu hk
      refine hK.out _ _ (behind_cons (fun _ => (HC501.out.blok 0 rfl).cell 1) (behind_cons (fun _ => (And.intro (HC1.out _ HC501.out) (HC2.out _ HC501.out))) (behind_cons (fun _ => (HC501.out.lc.kw.cell 1)) (behind_cons (fun _ => (HCF.out _ HC501.out)) (fun p hp => by cases hp))))) ?_
      clear hK K
      try simp only [Act.put, List.setIfInBounds_toArray, List.set_cons_zero, List.set_cons_succ]
      refine wpAnyV_free (i := 15) (v := ?_) (by simp only [List.getElem?_toArray, List.getElem?_cons_zero, List.getElem?_cons_succ]; rfl) (by kernel_rfl) (by kernel_rfl) (by kernel_rfl) (by kernel_rfl) (by exact fun _ _ _ h => h) (Or.inl ⟨by rfl, ?hya17⟩) (behind_cons (fun _ => (HC501.out.blok 0 rfl).cell 1) (behind_cons (fun _ => (And.intro (HC1.out _ HC501.out) (HC2.out _ HC501.out))) (behind_cons (fun _ => (HC501.out.lc.kw.cell 1)) (behind_cons (fun _ => (HCF.out _ HC501.out)) (fun p hp => by cases hp))))) ?resta17
      case hya17 => (intro W' _; go_simp; try with_reducible rfl)
      try simp only [Act.put, List.setIfInBounds_toArray, List.set_cons_zero, List.set_cons_succ]
      refine wpAnyV_ready (rs := [16]) (by kernel_rfl) (by simp) ?_
      refine AllReadyV.cons (by simp only [List.getElem?_toArray, List.getElem?_cons_zero, List.getElem?_cons_succ]; rfl) (fun K hK => ?_) AllReadyV.nil
      have x0 := HC1.out _ HC501.out
      have x1 := HC2.out _ HC501.out
      have y0 := (HC501.out.row 0 rfl).frozenAt (k * 2)
      have y1 := (HC501.out.row 0 rfl).frozenAt (k * 2 + 1)
      go_simp
      clear x0 x1 y0 y1
      refine hK.out _ _ (behind_cons (fun h => by simp at h) (behind_cons (fun h => by simp at h) (behind_cons (fun h => by simp at h) (behind_cons (fun h => by simp at h) (fun p hp => by cases hp))))) ?_
      clear hK K
      try simp only [Act.put, List.setIfInBounds_toArray, List.set_cons_zero, List.set_cons_succ]
      refine wpAnyV_done (by kernel_rfl) ?_ _
      have hsp := HC501.out.span (k := k) (a := na) (b := nb) (HFR.out gx rfl) (fun p hp => by rw [List.mem_singleton.1 hp]; show (28 : TypeId) ≠ _; decide)
      have HSP := Lib.hid hsp
      clear hsp
      go_wp2_with fail
      go_roundg (gk - 1)
      case measure => omega
      case rel => exact ⟨k + 1, _, by go_num, by omega, HN.out.step HPK.out na1 (by omega) nb2, HSP.out⟩
    · have HN := Lib.hid (show Narrowed d.eras d.eras.length es' by have e : k = d.eras.length := (by omega); rw [← e]; exact HN.out)
      have ds : wr.cell? ⟨w2.heap.size, 0, none⟩ = some (.int .i64 d.stones) := HS.out.lc.kd.cell 0
      go_wp2_with fail
      refine (up_any _ _ _ (by omega) HS.out.lc.urn).mono ?_
      rintro e w7 ⟨q, rfl, hq, hu, hk⟩
      have HS7 := Lib.hid (HS.out.calls hu hk)
      have hqs : q < d.stones := by omega
      have hqy : q < ys.length := by have := HNY.out; omega
      obtain ⟨y, hy⟩ : ∃ y, ys[q]? = some y := ⟨_, List.getElem?_eq_getElem hqy⟩
      obtain ⟨yb1, yb2⟩ := HM.out.years y (List.mem_of_getElem? hy)
      have HCY := Lib.hid (fun (W : World) (h : LG w w.heap.size w2.heap.size d ys fs (.slice Ae d.eras.length ce) (.slice An d.notes.length cn) (.slice (some ⟨gy, 0, none⟩) ys.length cy) (.slice Af fs.length cf) [⟨w6.heap.size, 28, [.int .i64 d.stones, .slice Ax d.eras.length cx, .slice Bn d.notes.length bn]⟩] [⟨39, 2, .slice Ax d.eras.length cx, d.eras.length, flatS es'⟩] [(.slice Bn d.notes.length bn, d.notes)] [] W) => (show W.cell? ⟨gy, q, none⟩ = some (.int .i64 y) by
        rw [h.lc.oy.cellAt q (by omega)]
        simp [intCells, hy]))
      clear hu hk dx ds hq HS hy
      go_wp2_with fail
      refine wp_region_v [(fun j => j == 1 || j == 3 || j == 4 || j == 6 || j == 7 || j == 8, fun W => W.cell? ⟨w2.heap.size + 1, 0, none⟩ = some (.slice (some ⟨gy, 0, none⟩) ys.length cy)), (fun j => j == 4 || j == 6 || j == 7 || j == 8, fun W => W.cell? ⟨gy, q, none⟩ = some (.int .i64 y))] (by kernel_rfl) ?_
      refine wpAnyV_world (fun W => LG w w.heap.size w2.heap.size d ys fs (.slice Ae d.eras.length ce) (.slice An d.notes.length cn) (.slice (some ⟨gy, 0, none⟩) ys.length cy) (.slice Af fs.length cf) [⟨w6.heap.size, 28, [.int .i64 d.stones, .slice Ax d.eras.length cx, .slice Bn d.notes.length bn]⟩] [⟨39, 2, .slice Ax d.eras.length cx, d.eras.length, flatS es'⟩] [(.slice Bn d.notes.length bn, d.notes)] [] W) HS7.out.drew (fun V hV => ?_)
      have HV := Lib.hid hV
      clear hV
      refine wpAnyV_free (i := 0) (v := ?_) (by simp only [List.getElem?_toArray, List.getElem?_cons_zero]; rfl) (by kernel_rfl) (by kernel_rfl) (by kernel_rfl) (by kernel_rfl) (by exact fun _ _ _ h => h) (Or.inl ⟨by rfl, ?hyb2⟩) (behind_cons (fun h => by simp at h) (behind_cons (fun h => by simp at h) (fun p hp => by cases hp))) ?restb2
      case hyb2 => (intro W' _; go_simp; try with_reducible rfl)
      try simp only [Act.put, List.setIfInBounds_toArray, List.set_cons_zero, List.set_cons_succ]
      refine wpAnyV_free (i := 2) (v := ?_) (by simp only [List.getElem?_toArray, List.getElem?_cons_zero, List.getElem?_cons_succ]; rfl) (by kernel_rfl) (by kernel_rfl) (by kernel_rfl) (by kernel_rfl) (by exact fun _ _ _ h => h) (Or.inl ⟨by rfl, ?hyb3⟩) (behind_cons (fun h => by simp at h) (behind_cons (fun h => by simp at h) (fun p hp => by cases hp))) ?restb3
      case hyb3 => (intro W' _; go_simp; try with_reducible rfl)
      try simp only [Act.put, List.setIfInBounds_toArray, List.set_cons_zero, List.set_cons_succ]
      refine wpAnyV_free (i := 5) (v := ?_) (by simp only [List.getElem?_toArray, List.getElem?_cons_zero, List.getElem?_cons_succ]; rfl) (by kernel_rfl) (by kernel_rfl) (by kernel_rfl) (by kernel_rfl) (by exact fun _ _ _ h => h) (Or.inl ⟨by rfl, ?hyb4⟩) (behind_cons (fun h => by simp at h) (behind_cons (fun h => by simp at h) (fun p hp => by cases hp))) ?restb4
      case hyb4 => (intro W' _; go_simp; try with_reducible rfl)
      try simp only [Act.put, List.setIfInBounds_toArray, List.set_cons_zero, List.set_cons_succ]
      refine wpAnyV_take (i := 1) (m := 0) (v := ?_) (by simp only [List.getElem?_toArray, List.getElem?_cons_zero, List.getElem?_cons_succ]; rfl) (by rfl) (by kernel_rfl) (by kernel_rfl) (by kernel_rfl) (by kernel_rfl) (by exact fun _ _ _ h => h) (Or.inl ⟨by rfl, ?hyb5⟩) ((HV.out.lc.kw.cell 0)) (behind_cons (fun _ => (HV.out.lc.kw.cell 0)) (behind_cons (fun h => by simp at h) (fun p hp => by cases hp))) ?restb5
      case hyb5 => (intro W' hSW; go_simp; try with_reducible rfl)
      try simp only [Act.put, List.setIfInBounds_toArray, List.set_cons_zero, List.set_cons_succ]
      refine wpAnyV_free (i := 3) (v := ?_) (by simp only [List.getElem?_toArray, List.getElem?_cons_zero, List.getElem?_cons_succ]; rfl) (by kernel_rfl) (by kernel_rfl) (by kernel_rfl) (by kernel_rfl) (by exact fun _ _ _ h => h) (Or.inl ⟨by rfl, ?hyb6⟩) (behind_cons (fun _ => (HV.out.lc.kw.cell 0)) (behind_cons (fun h => by simp at h) (fun p hp => by cases hp))) ?restb6
      case hyb6 => (intro W' _; go_simp; try with_reducible rfl)
      try simp only [Act.put, List.setIfInBounds_toArray, List.set_cons_zero, List.set_cons_succ]
      refine wpAnyV_take (i := 4) (m := 1) (v := ?_) (by simp only [List.getElem?_toArray, List.getElem?_cons_zero, List.getElem?_cons_succ]; rfl) (by rfl) (by kernel_rfl) (by kernel_rfl) (by kernel_rfl) (by kernel_rfl) (by exact fun _ _ _ h => h) (Or.inl ⟨by rfl, ?hyb7⟩) ((HCY.out _ HV.out)) (behind_cons (fun _ => (HV.out.lc.kw.cell 0)) (behind_cons (fun _ => (HCY.out _ HV.out)) (fun p hp => by cases hp))) ?restb7
      case hyb7 => (intro W' hSW; go_simp; try with_reducible rfl)
      try simp only [Act.put, List.setIfInBounds_toArray, List.set_cons_zero, List.set_cons_succ]
      refine wpAnyV_ready (rs := [6]) (by kernel_rfl) (by simp) ?_
      refine AllReadyV.cons (by simp only [List.getElem?_toArray, List.getElem?_cons_zero, List.getElem?_cons_succ]; rfl) (fun K hK => ?_) AllReadyV.nil
      go_simp
      go_at_call 16
      refine (up_any _ _ _ (by omega) HV.out.urn).mono ?_
      rintro e w502 ⟨o, rfl, ho, hu, hk⟩
      have HC502 := Lib.hid (HV.out.calls hu hk)
      clear hu hk
      have ho8 : (o : Int) ≤ 8 := by omega
      have q5 : IntKind.i64.wrap (y - (o : Int)) = y - o := IntWalk.i64_in _ (by omega)
      clear ho
      refine hK.out _ _ (behind_cons (fun _ => (HC502.out.lc.kw.cell 0)) (behind_cons (fun _ => (HCY.out _ HC502.out)) (fun p hp => by cases hp))) ?_
      clear hK K
      try simp only [Act.put, List.setIfInBounds_toArray, List.set_cons_zero, List.set_cons_succ]
      refine wpAnyV_free (i := 7) (v := ?_) (by simp only [List.getElem?_toArray, List.getElem?_cons_zero, List.getElem?_cons_succ]; rfl) (by kernel_rfl) (by kernel_rfl) (by kernel_rfl) (by kernel_rfl) (by exact fun _ _ _ h => h) (Or.inl ⟨by rfl, ?hyb9⟩) (behind_cons (fun _ => (HC502.out.lc.kw.cell 0)) (behind_cons (fun _ => (HCY.out _ HC502.out)) (fun p hp => by cases hp))) ?restb9
      case hyb9 => (intro W' _; go_simp; try with_reducible rfl)
      try simp only [Act.put, List.setIfInBounds_toArray, List.set_cons_zero, List.set_cons_succ]
      refine wpAnyV_free (i := 8) (v := ?_) (by simp only [List.getElem?_toArray, List.getElem?_cons_zero, List.getElem?_cons_succ]; rfl) (by kernel_rfl) (by kernel_rfl) (by kernel_rfl) (by kernel_rfl) (by exact fun _ _ _ h => h) (Or.inl ⟨by rfl, ?hyb10⟩) (behind_cons (fun _ => (HC502.out.lc.kw.cell 0)) (behind_cons (fun _ => (HCY.out _ HC502.out)) (fun p hp => by cases hp))) ?restb10
      case hyb10 => (intro W' _; go_simp; try with_reducible rfl)
      try simp only [Act.put, List.setIfInBounds_toArray, List.set_cons_zero, List.set_cons_succ]
      refine wpAnyV_done (by kernel_rfl) ?_ _
      obtain ⟨w8, rfl⟩ : ∃ w8 : World, w8 = w502 := ⟨_, rfl⟩
      have HS8 := HC502
      obtain ⟨lo, hlo⟩ : ∃ lo, lo = y - (o : Int) := ⟨_, rfl⟩
      rw [← hlo]
      have lo1 : -500 ≤ lo := by omega
      have lo2 : lo ≤ 300 := by omega
      clear hlo q5 ho8
      go_wp2_with fail
      refine wp_region_v [(fun j => j == 1 || j == 6 || j == 7 || j == 8 || j == 9 || j == 10 || j == 11 || j == 12, fun W => W.cell? ⟨w6.heap.size, 2, none⟩ = some (.slice Bn d.notes.length bn))] (by kernel_rfl) ?_
      refine wpAnyV_world (fun W => LG w w.heap.size w2.heap.size d ys fs (.slice Ae d.eras.length ce) (.slice An d.notes.length cn) (.slice (some ⟨gy, 0, none⟩) ys.length cy) (.slice Af fs.length cf) [⟨w6.heap.size, 28, [.int .i64 d.stones, .slice Ax d.eras.length cx, .slice Bn d.notes.length bn]⟩] [⟨39, 2, .slice Ax d.eras.length cx, d.eras.length, flatS es'⟩] [(.slice Bn d.notes.length bn, d.notes)] [] W) HS8.out.drew (fun V hV => ?_)
      have HV := Lib.hid hV
      clear hV
      refine wpAnyV_free (i := 0) (v := ?_) (by simp only [List.getElem?_toArray, List.getElem?_cons_zero]; rfl) (by kernel_rfl) (by kernel_rfl) (by kernel_rfl) (by kernel_rfl) (by exact fun _ _ _ h => h) (Or.inl ⟨by rfl, ?hyc2⟩) (behind_cons (fun h => by simp at h) (fun p hp => by cases hp)) ?restc2
      case hyc2 => (intro W' _; go_simp; try with_reducible rfl)
      try simp only [Act.put, List.setIfInBounds_toArray, List.set_cons_zero, List.set_cons_succ]
      refine wpAnyV_free (i := 2) (v := ?_) (by simp only [List.getElem?_toArray, List.getElem?_cons_zero, List.getElem?_cons_succ]; rfl) (by kernel_rfl) (by kernel_rfl) (by kernel_rfl) (by kernel_rfl) (by exact fun _ _ _ h => h) (Or.inl ⟨by rfl, ?hyc3⟩) (behind_cons (fun h => by simp at h) (fun p hp => by cases hp)) ?restc3
      case hyc3 => (intro W' _; go_simp; try with_reducible rfl)
      try simp only [Act.put, List.setIfInBounds_toArray, List.set_cons_zero, List.set_cons_succ]
      refine wpAnyV_free (i := 3) (v := ?_) (by simp only [List.getElem?_toArray, List.getElem?_cons_zero, List.getElem?_cons_succ]; rfl) (by kernel_rfl) (by kernel_rfl) (by kernel_rfl) (by kernel_rfl) (by exact fun _ _ _ h => h) (Or.inl ⟨by rfl, ?hyc4⟩) (behind_cons (fun h => by simp at h) (fun p hp => by cases hp)) ?restc4
      case hyc4 => (intro W' _; go_simp; try with_reducible rfl)
      try simp only [Act.put, List.setIfInBounds_toArray, List.set_cons_zero, List.set_cons_succ]
      refine wpAnyV_free (i := 4) (v := ?_) (by simp only [List.getElem?_toArray, List.getElem?_cons_zero, List.getElem?_cons_succ]; rfl) (by kernel_rfl) (by kernel_rfl) (by kernel_rfl) (by kernel_rfl) (by exact fun _ _ _ h => h) (Or.inl ⟨by rfl, ?hyc5⟩) (behind_cons (fun h => by simp at h) (fun p hp => by cases hp)) ?restc5
      case hyc5 => (intro W' _; go_simp; try with_reducible rfl)
      try simp only [Act.put, List.setIfInBounds_toArray, List.set_cons_zero, List.set_cons_succ]
      refine wpAnyV_free (i := 5) (v := ?_) (by simp only [List.getElem?_toArray, List.getElem?_cons_zero, List.getElem?_cons_succ]; rfl) (by kernel_rfl) (by kernel_rfl) (by kernel_rfl) (by kernel_rfl) (by exact fun _ _ _ h => h) (Or.inl ⟨by rfl, ?hyc6⟩) (behind_cons (fun h => by simp at h) (fun p hp => by cases hp)) ?restc6
      case hyc6 => (intro W' _; go_simp; try with_reducible rfl)
      try simp only [Act.put, List.setIfInBounds_toArray, List.set_cons_zero, List.set_cons_succ]
      refine wpAnyV_take (i := 1) (m := 0) (v := ?_) (by simp only [List.getElem?_toArray, List.getElem?_cons_zero, List.getElem?_cons_succ]; rfl) (by rfl) (by kernel_rfl) (by kernel_rfl) (by kernel_rfl) (by kernel_rfl) (by exact fun _ _ _ h => h) (Or.inl ⟨by rfl, ?hyc7⟩) ((HV.out.blok 0 rfl).cell 2) (behind_cons (fun _ => (HV.out.blok 0 rfl).cell 2) (fun p hp => by cases hp)) ?restc7
      case hyc7 => (intro W' hSW; go_simp; try with_reducible rfl)
      try simp only [Act.put, List.setIfInBounds_toArray, List.set_cons_zero, List.set_cons_succ]
      refine wpAnyV_ready (rs := [6]) (by kernel_rfl) (by simp) ?_
      refine AllReadyV.cons (by simp only [List.getElem?_toArray, List.getElem?_cons_zero, List.getElem?_cons_succ]; rfl) (fun K hK => ?_) AllReadyV.nil
      go_simp
      go_at_call 16
      refine (up_any _ _ _ (by omega) HV.out.urn).mono ?_
      rintro e w503 ⟨s, rfl, hs, hu, hk⟩
      have HC503 := Lib.hid (HV.out.calls hu hk)
      clear hu hk
      have hs11 : (s : Int) ≤ 11 := by omega
      have q6 : IntKind.i64.wrap (lo + (s : Int)) = lo + s := IntWalk.i64_in _ (by omega)
      clear hs
      refine hK.out _ _ (behind_cons (fun _ => (HC503.out.blok 0 rfl).cell 2) (fun p hp => by cases hp)) ?_
      clear hK K
      try simp only [Act.put, List.setIfInBounds_toArray, List.set_cons_zero, List.set_cons_succ]
      refine wpAnyV_free (i := 7) (v := ?_) (by simp only [List.getElem?_toArray, List.getElem?_cons_zero, List.getElem?_cons_succ]; rfl) (by kernel_rfl) (by kernel_rfl) (by kernel_rfl) (by kernel_rfl) (by exact fun _ _ _ h => h) (Or.inl ⟨by rfl, ?hyc9⟩) (behind_cons (fun _ => (HC503.out.blok 0 rfl).cell 2) (fun p hp => by cases hp)) ?restc9
      case hyc9 => (intro W' _; go_simp; try with_reducible rfl)
      try simp only [Act.put, List.setIfInBounds_toArray, List.set_cons_zero, List.set_cons_succ]
      refine wpAnyV_ready (rs := [8]) (by kernel_rfl) (by simp) ?_
      refine AllReadyV.cons (by simp only [List.getElem?_toArray, List.getElem?_cons_zero, List.getElem?_cons_succ]; rfl) (fun K hK => ?_) AllReadyV.nil
      go_simp
      go_at_call 23
      (with_reducible refine (to_any lo (lo + (s : Int)) _).mono ?_)
      rintro e w504 ⟨rfl, hb⟩
      have HC504 := Lib.hid (HC503.out.to hb)
      clear hb
      refine hK.out _ _ (behind_cons (fun _ => (HC504.out.blok 0 rfl).cell 2) (fun p hp => by cases hp)) ?_
      clear hK K
      try simp only [Act.put, List.setIfInBounds_toArray, List.set_cons_zero, List.set_cons_succ]
      refine wpAnyV_free (i := 9) (v := ?_) (by simp only [List.getElem?_toArray, List.getElem?_cons_zero, List.getElem?_cons_succ]; rfl) (by kernel_rfl) (by kernel_rfl) (by kernel_rfl) (by kernel_rfl) (by exact fun _ _ _ h => h) (Or.inl ⟨by rfl, ?hyc11⟩) (behind_cons (fun _ => (HC504.out.blok 0 rfl).cell 2) (fun p hp => by cases hp)) ?restc11
      case hyc11 => (intro W' _; go_simp; try with_reducible rfl)
      try simp only [Act.put, List.setIfInBounds_toArray, List.set_cons_zero, List.set_cons_succ]
      refine wpAnyV_ready (rs := [10]) (by kernel_rfl) (by simp) ?_
      refine AllReadyV.cons (by simp only [List.getElem?_toArray, List.getElem?_cons_zero, List.getElem?_cons_succ]; rfl) (fun K hK => ?_) AllReadyV.nil
      go_simp
      have HC505 := Lib.hid (HC504.out.alloc (.cells #[.int .i64 2, .int .i64 q, .int .i64 0, .slice none 0 0, .int .i64 lo, .int .i64 (lo + (s : Int))] 51))
      have HNB := Lib.hid (Blok.new w504 51 [.int .i64 2, .int .i64 q, .int .i64 0, .slice none 0 0, .int .i64 lo, .int .i64 (lo + (s : Int))])
      refine hK.out _ _ (behind_cons (fun _ => (HC505.out.blok 0 rfl).cell 2) (fun p hp => by cases hp)) ?_
      clear hK K
      try simp only [Act.put, List.setIfInBounds_toArray, List.set_cons_zero, List.set_cons_succ]
      refine wpAnyV_ready (rs := [11]) (by kernel_rfl) (by simp) ?_
      refine AllReadyV.cons (by simp only [List.getElem?_toArray, List.getElem?_cons_zero, List.getElem?_cons_succ]; rfl) (fun K hK => ?_) AllReadyV.nil
      obtain ⟨xs, hxs, hon, hyr⟩ := HC505.out.notes 0 rfl
      refine step_append_lies (w504.alloc (.cells #[.int .i64 2, .int .i64 q, .int .i64 0, .slice none 0 0, .int .i64 lo, .int .i64 (lo + (s : Int))] 51)) (by rfl) _ _ 26 (by rfl) w.heap.size 51 kI _ 6 64 Try.underlying26 HQ.out HQ0.out HQ1.out HQ2.out rfl (by omega) (.slice Bn d.notes.length bn) d.notes.length (cellsN xs) (by rfl) hon ⟨w504.heap.size, 0, none⟩ 1 1 [.int .i64 2, .int .i64 q, .int .i64 0, .slice none 0 0, .int .i64 lo, .int .i64 (lo + (s : Int))] (by rfl) (by rfl) (World.news_of_block HNB.out) (by simp [Value.oneCell']) (by omega) (by unfold maxLen; omega) (by omega) HC505.out.below.size _ rfl ?_
      intro g8 c8 w506 hown hgrow hat hlt8
      have HC506 := Lib.hid (HC505.out.note (x := spanN q lo (lo + (s : Int))) (vyx := .slice none 0 0) hxs hon hyr hgrow hown (World.ownsRow_nil _ _ _ _) HDIS.out (fun p hp => by rw [List.mem_singleton.1 hp]; show (28 : TypeId) ≠ _; decide) (fun r hr => by rw [List.mem_singleton.1 hr]; show (39 : TypeId) ≠ _; decide))
      clear hown hgrow hat hlt8 hon hyr hxs
      try go_simp
      refine hK.out _ _ (behind_cons (fun _ => (HC506.out.blok 0 rfl).cell 2) (fun p hp => by cases hp)) ?_
      clear hK K
      try simp only [Act.put, List.setIfInBounds_toArray, List.set_cons_zero, List.set_cons_succ]
      refine wpAnyV_free (i := 12) (v := ?_) (by simp only [List.getElem?_toArray, List.getElem?_cons_zero, List.getElem?_cons_succ]; rfl) (by kernel_rfl) (by kernel_rfl) (by kernel_rfl) (by kernel_rfl) (by exact fun _ _ _ h => h) (Or.inl ⟨by rfl, ?hyc14⟩) (behind_cons (fun _ => (HC506.out.blok 0 rfl).cell 2) (fun p hp => by cases hp)) ?restc14
      case hyc14 => (intro W' _; go_simp; try with_reducible rfl)
      try simp only [Act.put, List.setIfInBounds_toArray, List.set_cons_zero, List.set_cons_succ]
      refine wpAnyV_ready (rs := [13]) (by kernel_rfl) (by simp) ?_
      refine AllReadyV.cons (by simp only [List.getElem?_toArray, List.getElem?_cons_zero, List.getElem?_cons_succ]; rfl) (fun K hK => ?_) AllReadyV.nil
      have x0 : w506.cell? ⟨w6.heap.size, 2, none⟩ = some (.slice Bn d.notes.length bn) := (HC506.out.blok 0 rfl).cell 2
      have y0 := (HC506.out.blok 0 rfl).free 2
      go_simp
      clear x0 y0
      have HC507 := Lib.hid (HC506.out.put (show w6.heap.size ≠ w2.heap.size by omega) (show w6.heap.size ≠ w2.heap.size + 1 by omega) (show (28 : TypeId) ≠ _ ∧ (28 : TypeId) ≠ _ ∧ (28 : TypeId) ≠ _ by decide) (fun r hr => by rw [List.mem_singleton.1 hr]; show (39 : TypeId) ≠ _; decide) 2 (.slice (some ⟨g8, 0, none⟩) (d.notes.length + 1) c8))
      refine hK.out _ _ (behind_cons (fun h => by simp at h) (fun p hp => by cases hp)) ?_
      clear hK K
      try simp only [Act.put, List.setIfInBounds_toArray, List.set_cons_zero, List.set_cons_succ]
      refine wpAnyV_done (by kernel_rfl) ?_ _
      obtain ⟨w9, hw9⟩ : ∃ w9, w9 = (w506.setCell ⟨w6.heap.size, 2, none⟩ (.slice (some ⟨g8, 0, none⟩) (d.notes.length + 1) c8)) := ⟨_, rfl⟩
      have hs9 := HC507.out.mkD (st := d.stones) HN.out.len.symm
      have hmo : More d ((d.withEras es').plus (spanN q lo (lo + (s : Int)))) := more_mk HD.out HN.out hqs (by unfold SpanOk; omega) (by omega)
      obtain ⟨x, hx⟩ : ∃ x, x = (d.withEras es').plus (spanN q lo (lo + (s : Int))) := ⟨_, rfl⟩
      rw [← hx] at hmo
      rw [← hw9] at hs9 ⊢
      have HS9 : Hid (LG w w.heap.size w2.heap.size d ys fs (.slice Ae d.eras.length ce) (.slice An d.notes.length cn) (.slice (some ⟨gy, 0, none⟩) ys.length cy) (.slice Af fs.length cf) [⟨w6.heap.size, 28, [.int .i64 d.stones, .slice Ax d.eras.length cx, .slice (some ⟨g8, 0, none⟩) (d.notes.length + 1) c8]⟩] [] [] [(.agg #[.int .i64 d.stones, .slice Ax d.eras.length cx, .slice (some ⟨g8, 0, none⟩) (d.notes.length + 1) c8], x)] w9) := Lib.hid (by rw [hx]; exact hs9)
      have HMO := Lib.hid hmo
      clear hs9 hmo hx hw9 HC507 HNB q6
      have d0 := HS9.out.lc.kd.cell 0
      have d1 := HS9.out.lc.kd.cell 1
      have d2 := HS9.out.lc.kd.cell 2
      simp at d0 d1 d2
      go_wp2_with fail
      refine (years_yes d HD.out HYES.out _ _ w9 (Nat.le_refl _) HS9.out.lc.dat.dat).mono ?_
      rintro e w10 ⟨va, rfl, ha, hb⟩
      rw [HLEN.out] at ha
      obtain ⟨Aa, ca, rfl⟩ := own_slice ha
      obtain ⟨ga, rfl⟩ := own_addr ha (by omega)
      have HS10 := Lib.hid ((HS9.out.to hb).addR ⟨39, 2, .slice (some ⟨ga, 0, none⟩) d.stones ca, d.stones, flatS (spanList d 1 d.stones)⟩ (by show (39 : TypeId) ≠ _; decide) (ha.mono HS9.out.below.size))
      clear ha hb d0 d1 d2 HS9
      have e0 := (HS10.out.blok 0 rfl).cell 0
      have e1 := (HS10.out.blok 0 rfl).cell 1
      have e2 := (HS10.out.blok 0 rfl).cell 2
      simp at e0 e1 e2
      have d0 := HS10.out.lc.kd.cell 0
      have d1 := HS10.out.lc.kd.cell 1
      have d2 := HS10.out.lc.kd.cell 2
      simp at d0 d1 d2
      go_wp2_with fail
      by_cases hxa : x.all = []
      · refine (years_no x HMO.out.ok hxa _ _ w10 (Nat.le_refl _) (HS10.out.dat 0 rfl).dat).mono ?_
        rintro e w11 ⟨rfl, hb⟩
        have HS11 := Lib.hid (HS10.out.to hb)
        clear hb d0 d1 d2 e0 e1 e2 HS10
        have d0 := HS11.out.lc.kd.cell 0
        have d1 := HS11.out.lc.kd.cell 1
        have d2 := HS11.out.lc.kd.cell 2
        simp at d0 d1 d2
        go_wp2_with fail
        refine (firsts_yes d HD.out HYES.out _ _ w11 (Nat.le_refl _) HS11.out.lc.dat.dat).mono ?_
        rintro e w12 ⟨vc, rfl, hc, hb⟩
        rw [HLEN.out] at hc
        obtain ⟨Ac, cc, rfl⟩ := own_slice hc
        have HS12 := Lib.hid (HS11.out.to hb)
        clear hb hc d0 d1 d2 HS11
        have e0 := (HS12.out.blok 0 rfl).cell 0
        have e1 := (HS12.out.blok 0 rfl).cell 1
        have e2 := (HS12.out.blok 0 rfl).cell 2
        simp at e0 e1 e2
        go_wp2_with fail
        refine (firsts_no x HMO.out.ok hxa _ _ w12 (Nat.le_refl _) (HS12.out.dat 0 rfl).dat).mono ?_
        rintro e w13 ⟨rfl, hb⟩
        have HS13 := Lib.hid (HS12.out.to hb)
        clear hb e0 e1 e2 HS12
        have d0 := HS13.out.lc.kd.cell 0
        have d1 := HS13.out.lc.kd.cell 1
        have d2 := HS13.out.lc.kd.cell 2
        simp at d0 d1 d2
        go_wp2_with (go_at_call 20; refine (timely_any _).mono ?_; rintro e w14 ⟨rfl, hb⟩; have HB14 := Lib.hid (HS13.out.below.trans (hb.mono HS13.out.below.size)); clear hb)
        go_ret
        exact ⟨rfl, HB14.out⟩
      · refine (years_yes x HMO.out.ok hxa _ _ w10 (Nat.le_refl _) (HS10.out.dat 0 rfl).dat).mono ?_
        rintro e w11 ⟨vb, rfl, hv, hb⟩
        rw [HLEN.out, HMO.out.stones] at hv
        obtain ⟨Ab, cb, rfl⟩ := own_slice hv
        obtain ⟨gb, rfl⟩ := own_addr hv (by omega)
        have HS11 := Lib.hid ((HS10.out.to hb).addR ⟨39, 2, .slice (some ⟨gb, 0, none⟩) d.stones cb, d.stones, flatS (spanList x 1 d.stones)⟩ (by show (39 : TypeId) ≠ _; decide) (hv.mono HS10.out.below.size))
        clear hb hv d0 d1 d2 e0 e1 e2 HS10
        have d0 := HS11.out.lc.kd.cell 0
        have d1 := HS11.out.lc.kd.cell 1
        have d2 := HS11.out.lc.kd.cell 2
        simp at d0 d1 d2
        go_wp2_with fail
        refine (firsts_yes d HD.out HYES.out _ _ w11 (Nat.le_refl _) HS11.out.lc.dat.dat).mono ?_
        rintro e w12 ⟨vc, rfl, hc, hb⟩
        rw [HLEN.out] at hc
        obtain ⟨Ac, cc, rfl⟩ := own_slice hc
        have HS12 := Lib.hid ((HS11.out.to hb).addR ⟨39, 2, .slice Ac d.eras.length cc, d.eras.length, flatS (spanList d 7 d.eras.length)⟩ (by show (39 : TypeId) ≠ _; decide) (hc.mono HS11.out.below.size))
        clear hb hc d0 d1 d2 HS11
        have e0 := (HS12.out.blok 0 rfl).cell 0
        have e1 := (HS12.out.blok 0 rfl).cell 1
        have e2 := (HS12.out.blok 0 rfl).cell 2
        simp at e0 e1 e2
        go_wp2_with fail
        refine (firsts_yes x HMO.out.ok hxa _ _ w12 (Nat.le_refl _) (HS12.out.dat 0 rfl).dat).mono ?_
        rintro e w13 ⟨vy2, rfl, hc, hb⟩
        rw [HLEN.out, HMO.out.eras] at hc
        obtain ⟨Ay2, cy2, rfl⟩ := own_slice hc
        have HS13 := Lib.hid ((HS12.out.to hb).addR ⟨39, 2, .slice Ay2 d.eras.length cy2, d.eras.length, flatS (spanList x 7 d.eras.length)⟩ (by show (39 : TypeId) ≠ _; decide) (hc.mono HS12.out.below.size))
        clear hb hc e0 e1 e2 HS12
        have d0 := HS13.out.lc.kd.cell 0
        have d1 := HS13.out.lc.kd.cell 1
        have d2 := HS13.out.lc.kd.cell 2
        simp at d0 d1 d2
        have HS13 : Hid (LG w w.heap.size w2.heap.size d ys fs (.slice Ae d.eras.length ce) (.slice An d.notes.length cn) (.slice (some ⟨gy, 0, none⟩) ys.length cy) (.slice Af fs.length cf) [⟨w6.heap.size, 28, [.int .i64 d.stones, .slice Ax d.eras.length cx, .slice (some ⟨g8, 0, none⟩) (d.notes.length + 1) c8]⟩] [⟨39, 2, .slice (some ⟨ga, 0, none⟩) d.stones ca, d.stones, flatS (spanList d 1 d.stones)⟩, ⟨39, 2, .slice (some ⟨gb, 0, none⟩) d.stones cb, d.stones, flatS (spanList x 1 d.stones)⟩, ⟨39, 2, .slice Ac d.eras.length cc, d.eras.length, flatS (spanList d 7 d.eras.length)⟩, ⟨39, 2, .slice Ay2 d.eras.length cy2, d.eras.length, flatS (spanList x 7 d.eras.length)⟩] [] [(.agg #[.int .i64 d.stones, .slice Ax d.eras.length cx, .slice (some ⟨g8, 0, none⟩) (d.notes.length + 1) c8], x)] w13) := HS13
        go_wp2_with fail
        go_loopg [18] d.eras.length (fun r i wr => ∃ k : Nat, i = .int .i64 (k : Nat) ∧ k + r = d.eras.length ∧ LG w w.heap.size w2.heap.size d ys fs (.slice Ae d.eras.length ce) (.slice An d.notes.length cn) (.slice (some ⟨gy, 0, none⟩) ys.length cy) (.slice Af fs.length cf) [⟨w6.heap.size, 28, [.int .i64 d.stones, .slice Ax d.eras.length cx, .slice (some ⟨g8, 0, none⟩) (d.notes.length + 1) c8]⟩] [⟨39, 2, .slice (some ⟨ga, 0, none⟩) d.stones ca, d.stones, flatS (spanList d 1 d.stones)⟩, ⟨39, 2, .slice (some ⟨gb, 0, none⟩) d.stones cb, d.stones, flatS (spanList x 1 d.stones)⟩, ⟨39, 2, .slice Ac d.eras.length cc, d.eras.length, flatS (spanList d 7 d.eras.length)⟩, ⟨39, 2, .slice Ay2 d.eras.length cy2, d.eras.length, flatS (spanList x 7 d.eras.length)⟩] [] [(.agg #[.int .i64 d.stones, .slice Ax d.eras.length cx, .slice (some ⟨g8, 0, none⟩) (d.notes.length + 1) c8], x)] wr)
        case atStart => exact ⟨0, rfl, by omega, HS13.out⟩
        case round =>
          clear HS13
          obtain ⟨k2, rfl, hkr, hs⟩ := hrel
          have HS := Lib.hid hs
          clear hs
          have hmx : x.may := (may_iff HMO.out.ok).2 hxa
          have HMX := Lib.hid hmx
          clear hmx
          by_cases hlt : k2 < d.eras.length
          · obtain ⟨gc, rfl⟩ := own_addr (HS.out.row 2 rfl) (by exact (by omega : 0 < d.eras.length))
            obtain ⟨gz, rfl⟩ := own_addr (HS.out.row 3 rfl) (by exact (by omega : 0 < d.eras.length))
            obtain ⟨p, hp⟩ : ∃ p, p = d.span (7 + k2) := ⟨_, rfl⟩
            obtain ⟨p', hp'⟩ : ∃ p', p' = x.span (7 + k2) := ⟨_, rfl⟩
            obtain ⟨u1, u2⟩ := flatS_at (spanList d 7 d.eras.length) k2 p (by rw [hp]; simp [spanList, hlt])
            obtain ⟨v1, v2⟩ := flatS_at (spanList x 7 d.eras.length) k2 p' (by rw [hp']; simp [spanList, hlt])
            have c1 : wr.cell? ⟨gc, k2 * 2, none⟩ = some (.int .i64 p.1) := ((HS.out.row 2 rfl).cellAt (k2 * 2) (by show k2 * 2 < d.eras.length * 2; omega)).trans u1
            have c2 : wr.cell? ⟨gc, k2 * 2 + 1, none⟩ = some (.int .i64 p.2) := ((HS.out.row 2 rfl).cellAt (k2 * 2 + 1) (by show k2 * 2 + 1 < d.eras.length * 2; omega)).trans u2
            have z1 : wr.cell? ⟨gz, k2 * 2, none⟩ = some (.int .i64 p'.1) := ((HS.out.row 3 rfl).cellAt (k2 * 2) (by show k2 * 2 < d.eras.length * 2; omega)).trans v1
            have z2 : wr.cell? ⟨gz, k2 * 2 + 1, none⟩ = some (.int .i64 p'.2) := ((HS.out.row 3 rfl).cellAt (k2 * 2 + 1) (by show k2 * 2 + 1 < d.eras.length * 2; omega)).trans v2
            have hls := less_span HD.out HMO.out.ok HMX.out HMO.out.sub (7 + k2) (by omega)
            rw [← hp, ← hp'] at hls
            have hw : withinB p'.1 p'.2 p.1 p.2 = true := by simp [withinB, hls.1, hls.2]
            have HWI := Lib.hid (fun w => withinS_any p'.1 p'.2 p.1 p.2 w)
            rw [hw] at HWI
            have lc1 := World.block_lt_of_cell? wr _ c1
            have lz1 := World.block_lt_of_cell? wr _ z1
            simp only at lc1 lz1
            clear u1 u2 v1 v2 hp hp' hls hw
            go_wp2_with fail
            go_region_held3 (fun W' => W'.cell? ⟨gz, k2 * 2, none⟩ = some (.int .i64 p'.1) ∧ W'.cell? ⟨gz, k2 * 2 + 1, none⟩ = some (.int .i64 p'.2) ∧ W'.cell? ⟨gc, k2 * 2, none⟩ = some (.int .i64 p.1) ∧ W'.cell? ⟨gc, k2 * 2 + 1, none⟩ = some (.int .i64 p.2))
              (first
                | go_keep
                | (go_split_ands; exact ⟨bcell HB14.out lz1 z1, bcell HB14.out lz1 z2, bcell HB14.out lc1 c1, bcell HB14.out lc1 c2⟩))
              ((go_at_call 24; (with_reducible refine (HWI.out _).mono ?_); rintro e w14 ⟨rfl, hb14⟩; have HB14 := Lib.hid (show Below wr.heap.size wr w14 from ⟨hb14.os, hb14.tape, hb14.output, hb14.size, hb14.block⟩); clear hb14))
            have HS14 := Lib.hid (HS.out.to HB14.out)
            clear c1 c2 z1 z2
            go_wp2_with fail
            go_roundg (gk - 1)
            case measure => omega
            case rel => exact ⟨k2 + 1, by go_num, by omega, HS14.out⟩
          · skip
            go_wp2_with fail
            have HQY := Lib.hid hxa
            refine more_last w w2 w6 _ d x ys fs Ae An Af Ax Ac Ay2 ce cn cy cf cx g8 c8 gy ga gb ca cb cc cy2 HM.out HYES.out HMO.out HQY.out _ _ _ _ _ _ _ _ _ _ _ _ _ _ _ _ _ _ _ _ _ _ _ _ _ _ _ _ _ _ _ _ _ _ _ _ _ _ _ _ _ _ _ _ _ _ _ _ _ _ _ _ _ _ _ _ _ _ _ _ _ _ _ _ _ _ _ _ _ _ _ _ _ _ _ _ _ _ _ _ _ _ _ _ _ _ _ _ _ _ _ _ _ _ _ _ _ _ _ _ _ _ _ _ _ _ _ _ _ _ _ _ _ _ _ _ _ _ _ _ _ _ _ _ _ _ _ _ _ _ _ _ _ _ _ _ _ _ _ _ _ _ _ _ _ _ _ _ _ _ _ _ _ _ _ _ _ _ _ _ _ _ _ _ _ _ _ _ _ _ _ _ _ _ _ _ _ _ _ _ _ _ _ _ _ _ _ _ _ _ _ _ _ _ _ _ _ _ _ _ _ _ _ _ _ _ _ _ _ _ _ _ _ _ _ _ _ _ _ _ _ _ _ _ _ _ _ _ _ _ _ _ _ _ _ _ _ _ _ _ _ _ _ _ _ HS.out ?hqp ?_
            case hqp => (intro c a dst v w h; cases dst <;> exact h)
            intro _ _ _ _ _ _ _ _ _ _ _ _ _ _ _ _ _ _ _ _ _ _ _ _ _ _ _ _ _ _ _ _ _ _ _ _ _ _ _ _ _ _ _ _ _ _ _ _ _ _ _ _ _ _ _ _ _ _ _ _ _ _ _ _ _ _ _ _ _ _ _ _ _ _ _ _ _ _ _ _ _ _ _ _ _ _ _ _ _ _ _ _ _ _ _ _ _ _ _ _ _ _ wx hs
            have HS := Lib.hid hs
            clear hs
            go_wp2_with (go_at_call 20; refine (timely_any _).mono ?_; rintro e w14 ⟨rfl, hb⟩; have HB14 := Lib.hid (HS.out.below.trans (hb.mono HS.out.below.size)); clear hb)
            go_ret
            exact ⟨rfl, HB14.out⟩
end Go.Proofs.Ytcbdcdpoackplaa
