/- DateOrder, walked. -/
import Derived.Test.YtcbdcdpoackplaaHc
namespace Go.Proofs.Ytcbdcdpoackplaa
open Go.RowKit Dt

set_option maxRecDepth 100000 in
set_option maxHeartbeats 8000000 in
theorem order_walk (a0 : Option Addr) (len cap : Nat) (w : World) (hr : NumRow w a0 len) :
    Calls Try.prog 6 #[.slice a0 len cap] w fun e w' => e = .returned (.bool true) ∧ Below w.heap.size w w' := by
  obtain ⟨kI, hi, hz0, hz1, hz2⟩ := info_parts info_napi
  have HQ := Lib.hid hi
  have HQ0 := Lib.hid hz0
  have HQ1 := Lib.hid hz1
  have HQ2 := Lib.hid hz2
  clear hi hz0 hz1 hz2
  go_enter Try.func6, Try.ntmps6
  go_wp2_with fail
  refine (newUrn_any a0 len cap _ hr).mono ?_
  rintro e w0 ⟨rfl, hu1, hb1⟩
  have HU0 := Lib.hid hu1
  have HB0 := Lib.hid hb1
  have hg0 := hu1.size
  clear hu1 hb1 hr
  go_wp2_with fail
  refine (any_any w.heap.size w0.heap.size 2 2 3 [3, 12] _ rfl (by simp) (by simp) (Blok.new w0 _ _) (by omega) (HU0.out.alloc _)).mono ?_
  rintro e w1 ⟨far, rfl, hfar, hu1, hk1⟩
  have hfb : 3 ≤ far ∧ far ≤ 12 := by simp at hfar; omega
  obtain ⟨f3, f30⟩ := hfb
  have HU1 := Lib.hid hu1
  have HB1 := Lib.hid (HB0.out.trans ((((Kg.refl w.heap.size w0).alloc _).trans hk1).below HB0.out.size (Nat.le_refl _)))
  clear hu1 hk1 hfar HU0 HB0
  go_wp2_with fail
  refine (datingOf_any w.heap.size 4 7 far w1 (by omega) (by omega) (by omega) (by omega) (by omega) HU1.out).mono ?_
  rintro e w2 ⟨d, ys, fs, vd, vy, vf, rfl, hm, hD, hY, hF, hu2, hk2⟩
  obtain ⟨Ae, ce, An, cn, rfl⟩ := hD.slices
  obtain ⟨Ay, cy, rfl⟩ := own_slice hY
  obtain ⟨Af, cf, rfl⟩ := own_slice hF
  have hst := hm.ok.stones
  obtain ⟨gy, rfl⟩ := own_addr hY (by have := hm.ny; omega)
  have HG := Lib.hid (LG.of (LC.start (smax := 0) HB1.out (Nat.le_refl _) hD hY hF hu2 hk2 rfl))
  have HM := Lib.hid hm
  have hn7 := hm.notes
  have he2 := hm.eras
  have hs6 := hm.stones
  have HNY := Lib.hid hm.ny
  have HNF := Lib.hid hm.nf
  have hyes := (may_iff hm.ok).1 ⟨_, hm.is⟩
  have HYES := Lib.hid hyes
  have HD := Lib.hid hm.ok
  have hlen : ∀ (d : Dat) (p n : Nat), (spanList d p n).length = n := fun d p n => by simp [spanList]
  have HLEN := Lib.hid hlen
  clear hD hY hF hu2 hk2 hm HU1 HB1 hyes hlen
  go_wp2_with fail
  obtain ⟨kR, hi, hz0, hz1, hz2⟩ := info_parts info_row
  have HR := Lib.hid hi
  have HR0 := Lib.hid hz0
  have HR1 := Lib.hid hz1
  have HR2 := Lib.hid hz2
  clear hi hz0 hz1 hz2
  obtain ⟨kN, hi, hz0, hz1, hz2⟩ := info_parts info_num
  have HI := Lib.hid hi
  have HI0 := Lib.hid hz0
  have HI1 := Lib.hid hz1
  have HI2 := Lib.hid hz2
  clear hi hz0 hz1 hz2
  refine (copyDating_any d HD.out _ _ _ HG.out.lc.dat).mono ?_
  rintro e w6 ⟨vx, rfl, hX, hb6⟩
  obtain ⟨Ax, cx, Bn, bn, rfl⟩ := hX.slices
  have h5 := HG.out.below.size
  have h56 := hb6.size
  have hdis : ∀ b, (Value.slice Bn d.notes.length bn).ownBlock = some b → (Value.slice An d.notes.length cn).ownBlock ≠ some b := fun b hb hb' => by
    obtain ⟨ve', vn', e', _, xs', _, h1, _⟩ := HG.out.lc.dat
    injection e' with e'
    simp at e'
    obtain ⟨rfl, rfl⟩ := e'
    have h2 := (h1.lt b hb').2
    obtain ⟨ve'', vn'', e'', _, xs'', _, h3, _⟩ := hX
    injection e'' with e''
    simp at e''
    obtain ⟨rfl, rfl⟩ := e''
    have h4 := (h3.lt b hb).1
    omega
  have HDIS := Lib.hid hdis
  clear hdis
  have hst1 : LG w w.heap.size w2.heap.size d ys fs (.slice Ae d.eras.length ce) (.slice An d.notes.length cn) (.slice (some ⟨gy, 0, none⟩) ys.length cy) (.slice Af fs.length cf) [⟨w6.heap.size, 28, [.int .i64 d.stones, .slice Ax d.eras.length cx, .slice Bn d.notes.length bn]⟩] [⟨39, 2, .slice Ax d.eras.length cx, d.eras.length, flatS d.eras⟩] [(.slice Bn d.notes.length bn, d.notes)] [] (w6.alloc (.cells #[.int .i64 d.stones, .slice Ax d.eras.length cx, .slice Bn d.notes.length bn] 28)) := by
    have hg := (HG.out.to hb6).alloc (.cells #[.int .i64 d.stones, .slice Ax d.eras.length cx, .slice Bn d.notes.length bn] 28)
    obtain ⟨ve'', vn'', e'', h3, h4⟩ := (hX.mono (by omega : w.heap.size ≤ _)).below ((Below.refl _ w6).alloc (Nat.le_refl _) (.cells #[.int .i64 d.stones, .slice Ax d.eras.length cx, .slice Bn d.notes.length bn] 28))
    injection e'' with e''
    simp at e''
    obtain ⟨rfl, rfl⟩ := e''
    exact ((hg.addB ⟨w6.heap.size, 28, [.int .i64 d.stones, .slice Ax d.eras.length cx, .slice Bn d.notes.length bn]⟩ (by show (28 : TypeId) ≠ _; decide) (by show w.heap.size ≤ w6.heap.size; omega) (Blok.new w6 _ _)).addR ⟨39, 2, .slice Ax d.eras.length cx, d.eras.length, flatS d.eras⟩ (by show (39 : TypeId) ≠ _; decide) h3).addN (.slice Bn d.notes.length bn, d.notes) h4
  have HS := Lib.hid hst1
  have hw6 : w.heap.size ≤ w6.heap.size := by omega
  have hbx : w2.heap.size + 1 < w6.heap.size := by have := HG.out.lc.kw.size; omega
  clear hst1 hX hb6 HG h5 h56
  have d2 := HS.out.lc.kd.cell 2
  simp at d2
  go_wp2_with fail
  refine (row_any w.heap.size d.notes.length _ (by omega) HS.out.lc.urn).mono ?_
  rintro e w8 ⟨vo, ord, rfl, hperm, hord, hu, hk⟩
  obtain ⟨Ao, co, rfl⟩ := own_slice hord
  have HP := Lib.hid hperm
  have HS8 := Lib.hid ((HS.out.calls hu hk).addR ⟨3, 1, .slice Ao d.notes.length co, d.notes.length, intCells (ord.map fun (x : Nat) => (x : Int))⟩ (by show (3 : TypeId) ≠ _; decide) (hord.mono (HS.out.below.size)))
  clear hperm hord hu hk d2 HS
  have HS : Hid (LG w w.heap.size w2.heap.size d ys fs (.slice Ae d.eras.length ce) (.slice An d.notes.length cn) (.slice (some ⟨gy, 0, none⟩) ys.length cy) (.slice Af fs.length cf) [⟨w6.heap.size, 28, [.int .i64 d.stones, .slice Ax d.eras.length cx, .slice Bn d.notes.length bn]⟩] [⟨39, 2, .slice Ax d.eras.length cx, d.eras.length, flatS d.eras⟩, ⟨3, 1, .slice Ao d.notes.length co, d.notes.length, intCells (ord.map fun (x : Nat) => (x : Int))⟩] [(.slice Bn d.notes.length bn, d.notes)] [] w8) := HS8
  clear HS8
  go_wp2_with fail
  go_loopg [8] d.notes.length (fun r i wr => ∃ (k : Nat) (l' : List Nt), i = .int .i64 (k : Nat) ∧ k + r = d.notes.length ∧ Shuf d.notes ord k l' ∧ LG w w.heap.size w2.heap.size d ys fs (.slice Ae d.eras.length ce) (.slice An d.notes.length cn) (.slice (some ⟨gy, 0, none⟩) ys.length cy) (.slice Af fs.length cf) [⟨w6.heap.size, 28, [.int .i64 d.stones, .slice Ax d.eras.length cx, .slice Bn d.notes.length bn]⟩] [⟨39, 2, .slice Ax d.eras.length cx, d.eras.length, flatS d.eras⟩, ⟨3, 1, .slice Ao d.notes.length co, d.notes.length, intCells (ord.map fun (x : Nat) => (x : Int))⟩] [(.slice Bn l'.length bn, l')] [] wr)
  case atStart => exact ⟨0, _, rfl, by omega, Shuf.start _ _, HS.out⟩
  case round =>
    clear HS
    obtain ⟨k, l', rfl, hkr, hsh, hs⟩ := hrel
    have HS := Lib.hid hs
    have HN := Lib.hid hsh
    clear hs hsh
    by_cases hlt : k < d.notes.length
    · have hll := HN.out.len
      obtain ⟨xs, hxs, hxo, hxy⟩ := HS.out.notes 0 rfl
      have hxo : wr.ownsRow w.heap.size 51 6 (.slice Bn l'.length bn) l'.length (cellsN xs) := hxo
      obtain ⟨gx, rfl⟩ := own_addr hxo (by omega)
      have hxl : xs.length = l'.length := by
        have : (xs.map Prod.fst).length = l'.length := congrArg List.length hxs
        rw [List.length_map] at this
        exact this
      have h0 := HS.out.row 1 rfl
      obtain ⟨go, rfl⟩ := own_addr h0 (by show 0 < d.notes.length; omega)
      have hpl := HP.out.length_eq
      simp only [List.length_range] at hpl
      obtain ⟨j, hj⟩ : ∃ j, ord[k]? = some j := ⟨_, List.getElem?_eq_getElem (by omega)⟩
      have hjn : j < d.notes.length := List.mem_range.1 (HP.out.mem_iff.1 (List.mem_of_getElem? hj))
      have co0 : wr.cell? ⟨go, k, none⟩ = some (.int .i64 (j : Int)) := (h0.cellAt k (by show k < d.notes.length * 1; omega)).trans (cells_nat_at ord k j hj)
      obtain ⟨ve', vn', e', _, ys0, hys0, hyo, hyy⟩ := HS.out.lc.dat
      injection e' with e'
      simp at e'
      obtain ⟨rfl, rfl⟩ := e'
      obtain ⟨gn, rfl⟩ := own_addr hyo (by omega)
      have hyl : ys0.length = d.notes.length := by
        have : (ys0.map Prod.fst).length = d.notes.length := congrArg List.length hys0
        rw [List.length_map] at this
        exact this
      obtain ⟨p, hp⟩ : ∃ p, ys0[j]? = some p := ⟨_, List.getElem?_eq_getElem (by omega)⟩
      have hx : d.notes[j]? = some p.1 := by rw [← hys0, List.getElem?_map, hp]; rfl
      have hcell : ∀ i, i < 6 → wr.cell? ⟨gn, j * 6 + i, none⟩ = (ntL p.1 p.2)[i]? := fun i hi => by
        rw [hyo.cellAt (j * 6 + i) (by omega)]
        exact cellsN_at ys0 j p i hp hi
      have d00 : wr.cell? ⟨gn, j * 6, none⟩ = some (.int .i64 (p.1.kind : Int)) := hcell 0 (by omega)
      have d01 : wr.cell? ⟨gn, j * 6 + 1, none⟩ = some (.int .i64 (p.1.stone : Int)) := hcell 1 (by omega)
      have d02 : wr.cell? ⟨gn, j * 6 + 2, none⟩ = some (.int .i64 (p.1.other : Int)) := hcell 2 (by omega)
      have d03 : wr.cell? ⟨gn, j * 6 + 3, none⟩ = some (p.2) := hcell 3 (by omega)
      have d04 : wr.cell? ⟨gn, j * 6 + 4, none⟩ = some (.int .i64 p.1.lo) := hcell 4 (by omega)
      have d05 : wr.cell? ⟨gn, j * 6 + 5, none⟩ = some (.int .i64 p.1.hi) := hcell 5 (by omega)
      obtain ⟨q, hq⟩ : ∃ q, xs[k]? = some q := ⟨_, List.getElem?_eq_getElem (by omega)⟩
      have hcellx : ∀ i, i < 6 → wr.cell? ⟨gx, k * 6 + i, none⟩ = (ntL q.1 q.2)[i]? := fun i hi => by
        rw [hxo.cellAt (k * 6 + i) (by omega)]
        exact cellsN_at xs k q i hq hi
      have x00 : wr.cell? ⟨gx, k * 6, none⟩ = some (.int .i64 (q.1.kind : Int)) := hcellx 0 (by omega)
      have x01 : wr.cell? ⟨gx, k * 6 + 1, none⟩ = some (.int .i64 (q.1.stone : Int)) := hcellx 1 (by omega)
      have x02 : wr.cell? ⟨gx, k * 6 + 2, none⟩ = some (.int .i64 (q.1.other : Int)) := hcellx 2 (by omega)
      have x03 : wr.cell? ⟨gx, k * 6 + 3, none⟩ = some (q.2) := hcellx 3 (by omega)
      have x04 : wr.cell? ⟨gx, k * 6 + 4, none⟩ = some (.int .i64 q.1.lo) := hcellx 4 (by omega)
      have x05 : wr.cell? ⟨gx, k * 6 + 5, none⟩ = some (.int .i64 q.1.hi) := hcellx 5 (by omega)
      have fr0 := hxo.frozenAt (k * 6)
      have fr1 := hxo.frozenAt (k * 6 + 1)
      have fr2 := hxo.frozenAt (k * 6 + 2)
      have fr3 := hxo.frozenAt (k * 6 + 3)
      have fr4 := hxo.frozenAt (k * 6 + 4)
      have fr5 := hxo.frozenAt (k * 6 + 5)
      have HSET := Lib.hid (HS.out.noteSet (k := k) (q := p.1) (vq := p.2) (by omega) (hyy p (List.mem_of_getElem? hp)) (HDIS.out gx rfl) (fun p hp => by rw [List.mem_singleton.1 hp]; show (28 : TypeId) ≠ _; decide) (fun r hr => by
        rcases List.mem_cons.1 hr with rfl | hr
        · show (39 : TypeId) ≠ _; decide
        · rw [List.mem_singleton.1 hr]; show (3 : TypeId) ≠ _; decide))
      have HN2 := Lib.hid (HN.out.step hlt hj hx)
      obtain ⟨q1, hq1⟩ : ∃ q1, q1 = p.1 := ⟨_, rfl⟩
      obtain ⟨Aq, cq, hq2⟩ := own_slice (hyy p (List.mem_of_getElem? hp))
      obtain ⟨nq, hnq⟩ : ∃ nq, nq = p.1.years.length := ⟨_, rfl⟩
      rw [← hnq] at hq2
      rw [← hq1] at d00 d01 d02 d04 d05 HSET HN2
      rw [hq2] at d03 HSET
      have e2 := (HS.out.blok 0 rfl).cell 2
      have d2 := HS.out.lc.kd.cell 2
      simp at e2 d2
      clear hcell hcellx hp hx hq hxs hxo hxy hys0 hyo hyy h0 hj hq1 hq2 hnq hxl hyl hpl HN
      go_wp2_with fail
      go_still_tail 12, (by kernel_rfl)
      go_wp2_with fail
      go_roundg (gk - 1)
      case measure => omega
      case rel => exact ⟨k + 1, l'.set k q1, by go_num, by omega, HN2.out, HSET.out.drew⟩
    · obtain rfl : k = d.notes.length := by omega
      have hll := HN.out.len
      have hmem := HN.out.mem HP.out
      have hst0 : SameT d ⟨d.stones, d.eras, l'⟩ := samet_mk HD.out hll hmem
      have hx := LG.mkD2 (st := d.stones) 0 HS.out rfl rfl
      obtain ⟨x, hxe⟩ : ∃ x, x = (⟨d.stones, d.eras, l'⟩ : Dat) := ⟨_, rfl⟩
      rw [← hxe] at hx hst0
      rw [hll] at hx
      have HT := Lib.hid hst0
      have HSX : Hid (LG w w.heap.size w2.heap.size d ys fs (.slice Ae d.eras.length ce) (.slice An d.notes.length cn) (.slice (some ⟨gy, 0, none⟩) ys.length cy) (.slice Af fs.length cf) [⟨w6.heap.size, 28, [.int .i64 d.stones, .slice Ax d.eras.length cx, .slice Bn d.notes.length bn]⟩] [] [] [(.agg #[.int .i64 d.stones, .slice Ax d.eras.length cx, .slice Bn d.notes.length bn], x)] wr) := Lib.hid hx
      have hmay : d.may := (may_iff HD.out).2 HYES.out
      have HMAY := Lib.hid hmay
      have hxa := (may_iff HT.out.ok).1 (HT.out.may hmay)
      have HXA := Lib.hid hxa
      have hlist := samet_list HT.out HD.out hmay hst.2
      have HLI := Lib.hid hlist
      clear hll hmem hst0 hx hxe hmay hxa hlist HN HS HP
      have d0 := HSX.out.lc.kd.cell 0
      have d1 := HSX.out.lc.kd.cell 1
      have d2 := HSX.out.lc.kd.cell 2
      simp at d0 d1 d2
      have e0 := (HSX.out.blok 0 rfl).cell 0
      have e1 := (HSX.out.blok 0 rfl).cell 1
      have e2 := (HSX.out.blok 0 rfl).cell 2
      simp at e0 e1 e2
      go_wp2_with fail
      refine (years_yes d HD.out HYES.out _ _ wr (Nat.le_refl _) HSX.out.lc.dat.dat).mono ?_
      rintro e w10 ⟨va, rfl, ha, hb⟩
      rw [HLEN.out] at ha
      obtain ⟨Aa, ca, rfl⟩ := own_slice ha
      have HA10 := Lib.hid ha
      have HS10 := Lib.hid (HSX.out.to hb)
      clear ha hb d0 d1 d2 e0 e1 e2 HSX
      have e0 := (HS10.out.blok 0 rfl).cell 0
      have e1 := (HS10.out.blok 0 rfl).cell 1
      have e2 := (HS10.out.blok 0 rfl).cell 2
      simp at e0 e1 e2
      go_wp2_with fail
      refine (years_yes x HT.out.ok HXA.out _ _ w10 (Nat.le_refl _) (HS10.out.dat 0 rfl).dat).mono ?_
      rintro e w11 ⟨vb, rfl, hv, hb⟩
      rw [HLI.out, HLEN.out] at hv
      obtain ⟨Ab, cb, rfl⟩ := own_slice hv
      have HB11 := Lib.hid hv
      have HA11 := Lib.hid (own_fx HA10.out (Fx.of_all hb) (fun _ _ _ _ => trivial))
      have HS11 := Lib.hid (HS10.out.to hb)
      clear hv hb e0 e1 e2 HS10 HA10
      have hsame := sameSpans_any (spanList d 1 d.stones) (spanList d 1 d.stones) (by rw [HLEN.out]; omega) (by rw [HLEN.out]; omega) w11.heap.size (.slice Aa d.stones ca) (.slice Ab d.stones cb) w11 (Nat.le_refl _) (spans_of_own (by rw [HLEN.out]; exact HA11.out)) (spans_of_own (by rw [HLEN.out]; exact HB11.out))
      rw [show decide (spanList d 1 d.stones = spanList d 1 d.stones) = true from decide_eq_true rfl] at hsame
      have HSM := Lib.hid hsame
      clear hsame
      go_wp2_with (go_at_call 29; (with_reducible refine HSM.out.mono ?_); rintro e w12 ⟨rfl, hb⟩; have HS12 := Lib.hid (HS11.out.to hb); clear hb)
      refine order_rows w w2 w6 _ d x ys fs Ae An Af Ax ce cn cy cf cx gy Bn bn HD.out HMAY.out HT.out _ _ _ _ _ _ _ _ _ _ _ _ _ _ _ _ _ _ _ _ _ _ _ _ _ _ _ _ _ _ _ _ _ _ _ _ _ _ _ _ _ _ _ _ _ _ _ _ _ _ _ _ _ _ _ _ _ _ _ _ _ _ _ _ _ _ _ _ _ _ _ _ _ _ _ _ _ _ _ _ _ _ _ _ _ _ _ _ _ _ _ _ _ _ _ _ _ _ _ _ _ _ _ _ _ _ _ _ _ _ _ _ _ _ _ _ _ _ _ _ _ _ _ _ _ _ _ _ _ _ _ _ _ _ _ _ _ _ _ _ _ _ _ _ _ _ _ _ _ _ _ _ _ _ _ _ _ _ _ _ _ _ _ _ _ _ _ _ _ _ _ _ _ _ _ _ _ _ _ _ _ _ _ _ _ _ _ _ _ _ _ _ _ _ _ _ _ _ HS12.out ?_
      intro _ vv _ _ _ _ _ _ _ _ _ _ _ _ _ _ _ _ _ _ _ _ _ _ _ _ _ _ _ _ _ _ _ _ _ _ _ _ _ _ _ _ _ _ _ _ _ _ _ _ _ _ _ _ rows wx hmtx
      obtain ⟨gv, cv, rfl, hcells⟩ := hmtx.get (by omega)
      have HCE := Lib.hid hcells
      have HS13 := Lib.hid (HS12.out.to hmtx.below)
      clear hmtx hcells HS12
      go_wp2_with fail
      refine order_last d wx w2.heap.size gv cv HD.out HMAY.out (HS13.out.lc.kd.cell 0) HCE.out _ _ _ _ _ _ _ _ _ _ _ _ _ _ _ _ _ _ _ _ _ _ _ _ _ _ _ _ _ _ _ _ _ _ _ _ _ _ _ _ _ _ _ _ _ _ _ _ _ _ _ _ _ _ _ _ _ _ _ _ _ _ _ _ _ _ _ _ _ _ _ _ _ _ _ _ _ _ _ _ _ _ _ _ _ _ _ _ _ _ _ _ _ _ _ _ _ _ _ _ _ _ _ _ _ _ _ _ _ _ _ _ _ _ _ _ _ _ _ _ _ _ _ _ _ _ _ _ _ _ _ _ _ _ _ _ _ _ _ _ _ _ _ _ _ _ _ _ _ _ _ _ _ _ _ _ _ _ _ _ _ _ _ _ _ _ _ _ _ _ _ _ _ _ _ _ _ _ _ _ _ _ _ _ _ _ _ _ _ _ _ _ _ _ _ _ _ _ _ ?_
      intro _ _ _ _ _ _ _ _ _ _ _ _ _ _ _ _ _ _ _ _ _ _ _ _ _ _ _ _ _ _ _ _ _ _ _ _ _ _ _ _ _ _ _ _ _ _ _ _ _ _ _ _ _ _ _ _ _ _ _ _ _ _ _ _ _ _ _ _ _ _ _ _ _ _ _ _ _ _
      go_wp2_with (go_at_call 20; refine (timely_any _).mono ?_; rintro e w14 ⟨rfl, hb⟩; have HB14 := Lib.hid (HS13.out.below.trans (hb.mono HS13.out.below.size)); clear hb)
      go_ret
      exact ⟨rfl, HB14.out⟩
end Go.Proofs.Ytcbdcdpoackplaa
