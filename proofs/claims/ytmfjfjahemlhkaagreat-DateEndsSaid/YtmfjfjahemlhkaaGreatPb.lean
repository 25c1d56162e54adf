/- DateEnds: In, said, right: what a note says of a truth. · right: whether a note is right. -/
import Derived.Test.YtmfjfjahemlhkaaGreatJa
import Derived.Test.YtmfjfjahemlhkaaGreatGl
namespace Go.Proofs.YtmfjfjahemlhkaaGreat
section
open Go.RowKit Dt

set_option maxRecDepth 100000 in
set_option maxHeartbeats 2000000 in
theorem in_any (l : List Int) (n : Int) (hl : l.length ≤ 100) (B : Nat) (v : Value) (w : World) (hv : IntsO w B v l) :
    Calls Tryz.prog 56 #[v, .int .i64 n] w fun e w' => e = .returned (.bool (decide (n ∈ l))) ∧ w = w' := by
  obtain ⟨A, c, rfl⟩ := own_slice hv
  obtain ⟨m, hm⟩ : ∃ m, m = l.length := ⟨_, rfl⟩
  have hv : w.ownsRow B 3 1 (.slice A l.length c) l.length (intCells l) := hv
  rw [← hm] at hl hv ⊢
  have HV := Lib.hid hv
  have HM := Lib.hid hm
  clear hv hm
  go_enter Tryz.func56, Tryz.ntmps56
  go_wp2_with fail
  go_loopg [5] m (fun r i wr => ∃ k : Nat, i = .int .i64 (k : Nat) ∧ k + r = m ∧ wr = w ∧ n ∉ l.take k)
  case atStart => exact ⟨0, rfl, by omega, rfl, by simp⟩
  case round =>
    obtain ⟨k, rfl, hkr, hwr, hnk⟩ := hrel
    subst hwr
    have HNK := Lib.hid hnk
    clear hnk
    by_cases hlt : k < m
    · obtain ⟨g, rfl⟩ := own_addr HV.out (by omega)
      obtain ⟨x, hx⟩ : ∃ x, l[k]? = some x := ⟨_, List.getElem?_eq_getElem (by have := HM.out; omega)⟩
      have c0 : wr.cell? ⟨g, k, none⟩ = some (.int .i64 x) := by
        rw [HV.out.cellAt k (by omega)]
        simp [intCells, hx]
      have HX := Lib.hid hx
      clear hx
      by_cases hxn : x = n
      · have hb : (x == n) = true := by rw [hxn]; simp
        have HXN := Lib.hid hxn
        clear hxn
        go_wp2_with fail
        go_ret
        exact ⟨by rw [decide_eq_true (by rw [← HXN.out]; exact List.mem_of_getElem? HX.out)]; rfl, rfl⟩
      · have hb : (x == n) = false := by rw [beq_eq_false_iff_ne]; exact hxn
        have HXN := Lib.hid hxn
        clear hxn
        go_wp2_with fail
        go_roundg (gk - 1)
        case measure => omega
        case rel => exact ⟨k + 1, by go_num, by omega, rfl, by
          rw [List.take_add_one, HX.out]
          simp only [Option.toList_some, List.mem_append, List.mem_singleton, not_or]
          exact ⟨HNK.out, fun e => HXN.out e.symm⟩⟩
    · go_wp2_with fail
      go_ret
      refine ⟨?_, rfl⟩
      have h := HNK.out
      rw [List.take_of_length_le (by have := HM.out; omega)] at h
      rw [decide_eq_false h]
      rfl
def saidV (so all : Nat) : Nat := if so = all then 1 else if so = 0 then 2 else 3
set_option maxRecDepth 100000 in
theorem said_any (so all : Nat) (w : World) : Calls Tryz.prog 15 #[.int .i64 so, .int .i64 all] w fun e w' => e = .returned (.int .i64 (saidV so all)) ∧ w = w' := by
  go_enter Tryz.func15, Tryz.ntmps15
  by_cases h1 : so = all
  · have hb : ((so : Int) == (all : Int)) = true := by rw [h1]; simp
    have H1 := Lib.hid h1
    clear h1
    go_wp2_with fail
    go_ret
    exact ⟨by unfold saidV; rw [if_pos H1.out]; rfl, rfl⟩
  · have hb : ((so : Int) == (all : Int)) = false := by rw [beq_eq_false_iff_ne]; omega
    have H1 := Lib.hid h1
    clear h1
    by_cases h2 : so = 0
    · have hb2 : ((so : Int) == 0) = true := by rw [h2]; rfl
      have H2 := Lib.hid h2
      clear h2
      go_wp2_with fail
      go_ret
      exact ⟨by unfold saidV; rw [if_neg H1.out, if_pos H2.out]; rfl, rfl⟩
    · have hb2 : ((so : Int) == 0) = false := by rw [beq_eq_false_iff_ne]; omega
      have H2 := Lib.hid h2
      clear h2
      go_wp2_with fail
      go_ret
      exact ⟨by unfold saidV; rw [if_neg H1.out, if_neg H2.out]; rfl, rfl⟩
/-- Whether a note is right, of the years of stones and the first ones of eras. -/
def rightB (n : Nt) (ys fs : List Int) : Bool :=
  if n.kind = 1 then decide (ys.getD n.stone 0 ∈ n.years) else if n.kind = 2 then hasB n.lo n.hi (ys.getD n.stone 0) else if n.kind = 3 then hasB n.lo n.hi (ys.getD n.stone 0 - fs.getD n.other 0 + 1) else hasB n.lo n.hi (ys.getD n.stone 0 - ys.getD n.other 0)
theorem rightB_iff {d : Dat} {n : Nt} {ys fs : List Int} (h : n.Ok d) (hd : d.Ok) : rightB n ys fs = true ↔ n.right (xOf ys fs) := by
  have h6 := hd.stones
  have e1 : xOf ys fs (1 + n.stone) = ys.getD n.stone 0 := by
    unfold xOf
    rw [if_neg (by omega), if_pos (by have := h.stone; omega), show 1 + n.stone - 1 = n.stone by omega]
  have e2 : xOf ys fs (7 + n.other) = fs.getD n.other 0 := by
    unfold xOf
    rw [if_neg (by omega), if_neg (by omega), show 7 + n.other - 7 = n.other by omega]
  have e3 : n.kind = 4 → xOf ys fs (1 + n.other) = ys.getD n.other 0 := fun k => by
    unfold xOf
    rw [if_neg (by omega), if_pos (by have := (h.after k).1; omega), show 1 + n.other - 1 = n.other by omega]
  unfold rightB Nt.right
  rw [e1, e2]
  by_cases k1 : n.kind = 1
  · rw [if_pos k1, if_pos k1]; simp
  · rw [if_neg k1, if_neg k1]
    by_cases k2 : n.kind = 2
    · rw [if_pos k2, if_pos k2]; simp [hasB]
    · rw [if_neg k2, if_neg k2]
      by_cases k3 : n.kind = 3
      · rw [if_pos k3, if_pos k3]; simp [hasB]
      · rw [if_neg k3, if_neg k3, e3 (by have := h.kind; omega)]; simp [hasB]
end
section
open Go.RowKit Dt

/-- What right holds. -/
structure RT (w : World) (n : Nt) (vn vy vf : Value) (W : World) : Prop where
  nb : Blok W w.heap.size 64 [.int .i64 n.kind, .int .i64 n.stone, .int .i64 n.other, vn, .int .i64 n.lo, .int .i64 n.hi]
  wb : Blok W (w.heap.size + 1) 36 [vy, vf]
  below : Below w.heap.size w W
theorem RT.to {w W W' : World} {n : Nt} {vn vy vf : Value} (h : RT w n vn vy vf W) (hb : Below W.heap.size W W') : RT w n vn vy vf W' := ⟨h.nb.below hb h.nb.size, h.wb.below hb h.wb.size, h.below.trans (hb.mono h.below.size)⟩
theorem RT.drew {w W : World} {n : Nt} {vn vy vf : Value} (h : RT w n vn vy vf W) : RT w n vn vy vf W.drew := h.to (Below.refl _ W).drew
set_option maxRecDepth 100000 in
set_option maxHeartbeats 4000000 in
theorem right_any (n : Nt) (ys fs : List Int) (B : Nat) (vn vy vf : Value) (w : World) (hk : 1 ≤ n.kind ∧ n.kind ≤ 4) (hl : n.years.length ≤ 100) (hvn : IntsO w B vn n.years) (hvy : IntsO w B vy ys) (hvf : IntsO w B vf fs) (hs : n.stone < ys.length)
    (h3 : n.kind = 3 → n.other < fs.length) (h4 : n.kind = 4 → n.other < ys.length) (hys : ∀ y ∈ ys, -1000 ≤ y ∧ y ≤ 1000) (hfs : ∀ y ∈ fs, -1000 ≤ y ∧ y ≤ 1000) :
    Calls Tryz.prog 30 #[.agg #[.int .i64 n.kind, .int .i64 n.stone, .int .i64 n.other, vn, .int .i64 n.lo, .int .i64 n.hi], .agg #[vy, vf]] w fun e w' => e = .returned (.bool (rightB n ys fs)) ∧ Below w.heap.size w w' := by
  obtain ⟨Ay, cy, rfl⟩ := own_slice hvy
  obtain ⟨Af, cf, rfl⟩ := own_slice hvf
  obtain ⟨An, cn, rfl⟩ := own_slice hvn
  obtain ⟨gy, rfl⟩ := own_addr hvy (by omega)
  obtain ⟨y, hy⟩ : ∃ y, ys[n.stone]? = some y := ⟨_, List.getElem?_eq_getElem hs⟩
  obtain ⟨y1, y2⟩ := hys y (List.mem_of_getElem? hy)
  have hyd : ys.getD n.stone 0 = y := by rw [List.getD_eq_getElem?_getD, hy]; rfl
  have HYD := Lib.hid hyd
  have HVN := Lib.hid hvn
  have HVY := Lib.hid hvy
  have HVF := Lib.hid hvf
  have HYC := Lib.hid (fun (W : World) (hb : Below w.heap.size w W) => (show W.cell? ⟨gy, n.stone, none⟩ = some (.int .i64 y) by
    rw [hb.cell (p := ⟨gy, n.stone, none⟩) (hvy.lt gy rfl).2, hvy.cellAt n.stone (by omega)]
    simp [intCells, hy]))
  obtain ⟨ny, hny⟩ : ∃ ny, ny = ys.length := ⟨_, rfl⟩
  obtain ⟨nf, hnf⟩ : ∃ nf, nf = fs.length := ⟨_, rfl⟩
  obtain ⟨nn, hnn⟩ : ∃ nn, nn = n.years.length := ⟨_, rfl⟩
  rw [← hny] at hs h4 ⊢
  rw [← hnf] at h3 ⊢
  rw [← hnn] at hl ⊢
  have HNY := Lib.hid hny
  have HNF := Lib.hid hnf
  have HNN := Lib.hid hnn
  have H3 := Lib.hid h3
  have H4 := Lib.hid h4
  have HYS := Lib.hid hys
  have HFS := Lib.hid hfs
  clear hvn hvy hvf hy hyd hny hnf hnn h3 h4 hys hfs
  obtain ⟨st, hst⟩ : ∃ st, st = n.stone := ⟨_, rfl⟩
  obtain ⟨ot, hot⟩ : ∃ ot, ot = n.other := ⟨_, rfl⟩
  obtain ⟨kd, hkd⟩ : ∃ kd, kd = n.kind := ⟨_, rfl⟩
  rw [← hst] at hs HYC ⊢
  rw [← hkd] at hk
  rw [← hot, ← hkd]
  have HST := Lib.hid hst
  have HOT := Lib.hid hot
  have HKD := Lib.hid hkd
  clear hst hot hkd
  go_enter Tryz.func30, Tryz.ntmps30
  go_upto_region 1 with fail
  obtain ⟨w0, hw0⟩ : ∃ w0, w0 = (w.alloc (.cells #[.int .i64 kd, .int .i64 st, .int .i64 ot, .slice An nn cn, .int .i64 n.lo, .int .i64 n.hi] 64)).alloc (.cells #[.slice (some ⟨gy, 0, none⟩) ny cy, .slice Af nf cf] 36) := ⟨_, rfl⟩
  have hrt : RT w ⟨kd, st, ot, n.years, n.lo, n.hi⟩ (.slice An nn cn) (.slice (some ⟨gy, 0, none⟩) ny cy) (.slice Af nf cf) w0 := by
    rw [hw0]
    refine ⟨(Blok.new w _ _).alloc _, ?_, ((Below.refl _ w).alloc (Nat.le_refl _) _).alloc (by simp) _⟩
    have := Blok.new (w.alloc (.cells #[.int .i64 kd, .int .i64 st, .int .i64 ot, .slice An nn cn, .int .i64 n.lo, .int .i64 n.hi] 64)) 36 [.slice (some ⟨gy, 0, none⟩) ny cy, .slice Af nf cf]
    simpa only [World.size_alloc] using this
  rw [← hw0]
  have HR := Lib.hid hrt
  clear hrt hw0
  have b0 := HR.out.nb.cell 0
  have b1 := HR.out.nb.cell 1
  have b2 := HR.out.nb.cell 2
  have b3 := HR.out.nb.cell 3
  have b4 := HR.out.nb.cell 4
  have b5 := HR.out.nb.cell 5
  have m0 := HR.out.wb.cell 0
  have m1 := HR.out.wb.cell 1
  simp at b0 b1 b2 b3 b4 b5 m0 m1
  have c0 := HYC.out _ HR.out.below
  by_cases k1 : kd = 1
  · have hb1 : ((kd : Int) == 1) = true := by rw [k1]; rfl
    have K1 := Lib.hid k1
    clear k1
    have hin := in_any n.years y (by rw [← HNN.out]; exact hl) B (.slice An nn cn) w0 (own_fx (by rw [HNN.out]; exact HVN.out : IntsO w B (.slice An nn cn) n.years) (Fx.of_below HR.out.below) (fun b _ hb _ => hb))
    have HIN := Lib.hid hin
    clear hin
    go_wp2_with (go_at_call 56; (with_reducible refine HIN.out.mono ?_); rintro e w1 ⟨rfl, rfl⟩)
    go_ret
    refine ⟨?_, HR.out.below⟩
    unfold rightB
    rw [if_pos (by rw [← HKD.out]; exact K1.out), HYD.out]
    rfl
  · have hb1 : ((kd : Int) == 1) = false := by rw [beq_eq_false_iff_ne]; omega
    have K1 := Lib.hid k1
    clear k1
    by_cases k2 : kd = 2
    · have hb2 : ((kd : Int) == 2) = true := by rw [k2]; rfl
      have K2 := Lib.hid k2
      clear k2
      have HH := Lib.hid (fun W => hasIn_any n.lo n.hi y W)
      go_wp2_with (go_at_call 21; (with_reducible refine (HH.out _).mono ?_); rintro e w1 ⟨rfl, hb⟩; have HB := Lib.hid (HR.out.below.trans (hb.mono HR.out.below.size)); clear hb)
      go_ret
      refine ⟨?_, HB.out⟩
      unfold rightB
      rw [if_neg (by rw [← HKD.out]; exact K1.out), if_pos (by rw [← HKD.out]; exact K2.out), HYD.out]
      rfl
    · have hb2 : ((kd : Int) == 2) = false := by rw [beq_eq_false_iff_ne]; omega
      have K2 := Lib.hid k2
      clear k2
      by_cases k3 : kd = 3
      · have hb3 : ((kd : Int) == 3) = true := by rw [k3]; rfl
        have K3 := Lib.hid k3
        clear k3
        have hof : ot < nf := by rw [HOT.out]; exact H3.out (by rw [← HKD.out]; exact K3.out)
        obtain ⟨gf, rfl⟩ := own_addr (by rw [HNF.out]; exact HVF.out : w.ownsRow B 3 1 (.slice Af nf cf) nf (intCells fs)) (by omega)
        obtain ⟨f, hf⟩ : ∃ f, fs[ot]? = some f := ⟨_, List.getElem?_eq_getElem (by have := HNF.out; omega)⟩
        obtain ⟨f1, f2⟩ := HFS.out f (List.mem_of_getElem? hf)
        have hfd : fs.getD n.other 0 = f := by rw [← HOT.out, List.getD_eq_getElem?_getD, hf]; rfl
        have HFD := Lib.hid hfd
        have HFC := Lib.hid (fun (W : World) (hb : Below w.heap.size w W) => (show W.cell? ⟨gf, ot, none⟩ = some (.int .i64 f) by
          have hv : w.ownsRow B 3 1 (.slice (some ⟨gf, 0, none⟩) nf cf) nf (intCells fs) := by rw [HNF.out]; exact HVF.out
          rw [hb.cell (p := ⟨gf, ot, none⟩) (hv.lt gf rfl).2, hv.cellAt ot (by omega)]
          simp [intCells, hf]))
        have q1 : IntKind.i64.wrap (y - f) = y - f := IntWalk.i64_in _ (by omega)
        have q2 : IntKind.i64.wrap (y - f + 1) = y - f + 1 := IntWalk.i64_in _ (by omega)
        have HH := Lib.hid (fun W => hasIn_any n.lo n.hi (y - f + 1) W)
        clear hf hfd
        go_wp2_with fail
        clear b0 b1 b2 b3 b4 b5 m0 m1 c0
        refine wp_region_v [(fun j => j == 1 || j == 4 || j == 6 || j == 7 || j == 8 || j == 9 || j == 10 || j == 11 || j == 12, fun W => W.cell? ⟨w.heap.size, 4, none⟩ = some (.int .i64 n.lo) ∧ W.cell? ⟨w.heap.size, 5, none⟩ = some (.int .i64 n.hi)), (fun j => j == 4 || j == 6 || j == 7 || j == 8 || j == 9 || j == 10 || j == 11 || j == 12, fun W => W.cell? ⟨w.heap.size + 1, 1, none⟩ = some (.slice (some ⟨gf, 0, none⟩) nf cf)), (fun j => j == 6 || j == 7 || j == 8 || j == 9 || j == 10 || j == 11 || j == 12, fun W => W.cell? ⟨w.heap.size, 2, none⟩ = some (.int .i64 (ot : Int))), (fun j => j == 8 || j == 9 || j == 10 || j == 11 || j == 12, fun W => W.cell? ⟨gf, ot, none⟩ = some (.int .i64 f))] (by kernel_rfl) ?_
        refine wpAnyV_world (fun W => RT w ⟨kd, st, ot, n.years, n.lo, n.hi⟩ (.slice An nn cn) (.slice (some ⟨gy, 0, none⟩) ny cy) (.slice (some ⟨gf, 0, none⟩) nf cf) W) HR.out.drew (fun V hV => ?_)
        have HV := Lib.hid hV
        clear hV
        refine wpAnyV_free (i := 0) (v := ?_) (by simp only [List.getElem?_toArray, List.getElem?_cons_zero]; rfl) (by kernel_rfl) (by kernel_rfl) (by kernel_rfl) (by kernel_rfl) (by exact fun _ _ _ h => h) (Or.inl ⟨by rfl, ?hya2⟩) (behind_cons (fun h => by simp at h) (behind_cons (fun h => by simp at h) (behind_cons (fun h => by simp at h) (behind_cons (fun h => by simp at h) (fun p hp => by cases hp))))) ?resta2
        case hya2 => (intro W' _; go_simp; try with_reducible rfl)
        try simp only [Act.put, List.setIfInBounds_toArray, List.set_cons_zero, List.set_cons_succ]
        refine wpAnyV_free (i := 2) (v := ?_) (by simp only [List.getElem?_toArray, List.getElem?_cons_zero, List.getElem?_cons_succ]; rfl) (by kernel_rfl) (by kernel_rfl) (by kernel_rfl) (by kernel_rfl) (by exact fun _ _ _ h => h) (Or.inl ⟨by rfl, ?hya3⟩) (behind_cons (fun h => by simp at h) (behind_cons (fun h => by simp at h) (behind_cons (fun h => by simp at h) (behind_cons (fun h => by simp at h) (fun p hp => by cases hp))))) ?resta3
        case hya3 => (intro W' _; go_simp; try with_reducible rfl)
        try simp only [Act.put, List.setIfInBounds_toArray, List.set_cons_zero, List.set_cons_succ]
        refine wpAnyV_free (i := 3) (v := ?_) (by simp only [List.getElem?_toArray, List.getElem?_cons_zero, List.getElem?_cons_succ]; rfl) (by kernel_rfl) (by kernel_rfl) (by kernel_rfl) (by kernel_rfl) (by exact fun _ _ _ h => h) (Or.inl ⟨by rfl, ?hya4⟩) (behind_cons (fun h => by simp at h) (behind_cons (fun h => by simp at h) (behind_cons (fun h => by simp at h) (behind_cons (fun h => by simp at h) (fun p hp => by cases hp))))) ?resta4
        case hya4 => (intro W' _; go_simp; try with_reducible rfl)
        try simp only [Act.put, List.setIfInBounds_toArray, List.set_cons_zero, List.set_cons_succ]
        refine wpAnyV_free (i := 5) (v := ?_) (by simp only [List.getElem?_toArray, List.getElem?_cons_zero, List.getElem?_cons_succ]; rfl) (by kernel_rfl) (by kernel_rfl) (by kernel_rfl) (by kernel_rfl) (by exact fun _ _ _ h => h) (Or.inl ⟨by rfl, ?hya5⟩) (behind_cons (fun h => by simp at h) (behind_cons (fun h => by simp at h) (behind_cons (fun h => by simp at h) (behind_cons (fun h => by simp at h) (fun p hp => by cases hp))))) ?resta5
        case hya5 => (intro W' _; go_simp; try with_reducible rfl)
        try simp only [Act.put, List.setIfInBounds_toArray, List.set_cons_zero, List.set_cons_succ]
        refine wpAnyV_take (i := 1) (m := 0) (v := ?_) (by simp only [List.getElem?_toArray, List.getElem?_cons_zero, List.getElem?_cons_succ]; rfl) (by rfl) (by kernel_rfl) (by kernel_rfl) (by kernel_rfl) (by kernel_rfl) (by exact fun _ _ _ h => h) (Or.inl ⟨by rfl, ?hya6⟩) ((And.intro (HV.out.nb.cell 4) (HV.out.nb.cell 5))) (behind_cons (fun _ => (And.intro (HV.out.nb.cell 4) (HV.out.nb.cell 5))) (behind_cons (fun h => by simp at h) (behind_cons (fun h => by simp at h) (behind_cons (fun h => by simp at h) (fun p hp => by cases hp))))) ?resta6
        case hya6 => (intro W' hSW; go_simp; try with_reducible rfl)
        try simp only [Act.put, List.setIfInBounds_toArray, List.set_cons_zero, List.set_cons_succ]
        refine wpAnyV_take (i := 4) (m := 1) (v := ?_) (by simp only [List.getElem?_toArray, List.getElem?_cons_zero, List.getElem?_cons_succ]; rfl) (by rfl) (by kernel_rfl) (by kernel_rfl) (by kernel_rfl) (by kernel_rfl) (by exact fun _ _ _ h => h) (Or.inl ⟨by rfl, ?hya7⟩) ((HV.out.wb.cell 1)) (behind_cons (fun _ => (And.intro (HV.out.nb.cell 4) (HV.out.nb.cell 5))) (behind_cons (fun _ => (HV.out.wb.cell 1)) (behind_cons (fun h => by simp at h) (behind_cons (fun h => by simp at h) (fun p hp => by cases hp))))) ?resta7
        case hya7 => (intro W' hSW; go_simp; try with_reducible rfl)
        try simp only [Act.put, List.setIfInBounds_toArray, List.set_cons_zero, List.set_cons_succ]
        refine wpAnyV_take (i := 6) (m := 2) (v := ?_) (by simp only [List.getElem?_toArray, List.getElem?_cons_zero, List.getElem?_cons_succ]; rfl) (by rfl) (by kernel_rfl) (by kernel_rfl) (by kernel_rfl) (by kernel_rfl) (by exact fun _ _ _ h => h) (Or.inl ⟨by rfl, ?hya8⟩) ((HV.out.nb.cell 2)) (behind_cons (fun _ => (And.intro (HV.out.nb.cell 4) (HV.out.nb.cell 5))) (behind_cons (fun _ => (HV.out.wb.cell 1)) (behind_cons (fun _ => (HV.out.nb.cell 2)) (behind_cons (fun h => by simp at h) (fun p hp => by cases hp))))) ?resta8
        case hya8 => (intro W' hSW; go_simp; try with_reducible rfl)
        try simp only [Act.put, List.setIfInBounds_toArray, List.set_cons_zero, List.set_cons_succ]
        refine wpAnyV_free (i := 7) (v := ?_) (by simp only [List.getElem?_toArray, List.getElem?_cons_zero, List.getElem?_cons_succ]; rfl) (by kernel_rfl) (by kernel_rfl) (by kernel_rfl) (by kernel_rfl) (by exact fun _ _ _ h => h) (Or.inl ⟨by rfl, ?hya9⟩) (behind_cons (fun _ => (And.intro (HV.out.nb.cell 4) (HV.out.nb.cell 5))) (behind_cons (fun _ => (HV.out.wb.cell 1)) (behind_cons (fun _ => (HV.out.nb.cell 2)) (behind_cons (fun h => by simp at h) (fun p hp => by cases hp))))) ?resta9
        case hya9 => (intro W' _; go_simp; try with_reducible rfl)
        try simp only [Act.put, List.setIfInBounds_toArray, List.set_cons_zero, List.set_cons_succ]
        refine wpAnyV_take (i := 8) (m := 3) (v := ?_) (by simp only [List.getElem?_toArray, List.getElem?_cons_zero, List.getElem?_cons_succ]; rfl) (by rfl) (by kernel_rfl) (by kernel_rfl) (by kernel_rfl) (by kernel_rfl) (by exact fun _ _ _ h => h) (Or.inl ⟨by rfl, ?hya10⟩) ((HFC.out _ HV.out.below)) (behind_cons (fun _ => (And.intro (HV.out.nb.cell 4) (HV.out.nb.cell 5))) (behind_cons (fun _ => (HV.out.wb.cell 1)) (behind_cons (fun _ => (HV.out.nb.cell 2)) (behind_cons (fun _ => (HFC.out _ HV.out.below)) (fun p hp => by cases hp))))) ?resta10
        case hya10 => (intro W' hSW; go_simp; try with_reducible rfl)
        try simp only [Act.put, List.setIfInBounds_toArray, List.set_cons_zero, List.set_cons_succ]
        refine wpAnyV_free (i := 9) (v := ?_) (by simp only [List.getElem?_toArray, List.getElem?_cons_zero, List.getElem?_cons_succ]; rfl) (by kernel_rfl) (by kernel_rfl) (by kernel_rfl) (by kernel_rfl) (by exact fun _ _ _ h => h) (Or.inl ⟨by rfl, ?hya11⟩) (behind_cons (fun _ => (And.intro (HV.out.nb.cell 4) (HV.out.nb.cell 5))) (behind_cons (fun _ => (HV.out.wb.cell 1)) (behind_cons (fun _ => (HV.out.nb.cell 2)) (behind_cons (fun _ => (HFC.out _ HV.out.below)) (fun p hp => by cases hp))))) ?resta11
        case hya11 => (intro W' _; go_simp; try with_reducible rfl)
        try simp only [Act.put, List.setIfInBounds_toArray, List.set_cons_zero, List.set_cons_succ]
        refine wpAnyV_free (i := 10) (v := ?_) (by simp only [List.getElem?_toArray, List.getElem?_cons_zero, List.getElem?_cons_succ]; rfl) (by kernel_rfl) (by kernel_rfl) (by kernel_rfl) (by kernel_rfl) (by exact fun _ _ _ h => h) (Or.inl ⟨by rfl, ?hya12⟩) (behind_cons (fun _ => (And.intro (HV.out.nb.cell 4) (HV.out.nb.cell 5))) (behind_cons (fun _ => (HV.out.wb.cell 1)) (behind_cons (fun _ => (HV.out.nb.cell 2)) (behind_cons (fun _ => (HFC.out _ HV.out.below)) (fun p hp => by cases hp))))) ?resta12
        case hya12 => (intro W' _; go_simp; try with_reducible rfl)
        try simp only [Act.put, List.setIfInBounds_toArray, List.set_cons_zero, List.set_cons_succ]
        refine wpAnyV_ready (rs := [11]) (by kernel_rfl) (by simp) ?_
        refine AllReadyV.cons (by simp only [List.getElem?_toArray, List.getElem?_cons_zero, List.getElem?_cons_succ]; rfl) (fun K hK => ?_) AllReadyV.nil
        go_simp
        go_at_call 21
        (with_reducible refine (HH.out _).mono ?_)
        rintro e w501 ⟨rfl, hb⟩
        have HC501 := Lib.hid (HV.out.to hb)
        clear hb
        refine hK.out _ _ (behind_cons (fun _ => (And.intro (HC501.out.nb.cell 4) (HC501.out.nb.cell 5))) (behind_cons (fun _ => (HC501.out.wb.cell 1)) (behind_cons (fun _ => (HC501.out.nb.cell 2)) (behind_cons (fun _ => (HFC.out _ HC501.out.below)) (fun p hp => by cases hp))))) ?_
        clear hK K
        try simp only [Act.put, List.setIfInBounds_toArray, List.set_cons_zero, List.set_cons_succ]
        refine wpAnyV_free (i := 12) (v := ?_) (by simp only [List.getElem?_toArray, List.getElem?_cons_zero, List.getElem?_cons_succ]; rfl) (by kernel_rfl) (by kernel_rfl) (by kernel_rfl) (by kernel_rfl) (by exact fun _ _ _ h => h) (Or.inl ⟨by rfl, ?hya14⟩) (behind_cons (fun _ => (And.intro (HC501.out.nb.cell 4) (HC501.out.nb.cell 5))) (behind_cons (fun _ => (HC501.out.wb.cell 1)) (behind_cons (fun _ => (HC501.out.nb.cell 2)) (behind_cons (fun _ => (HFC.out _ HC501.out.below)) (fun p hp => by cases hp))))) ?resta14
        case hya14 => (intro W' _; go_simp; try with_reducible rfl)
        try simp only [Act.put, List.setIfInBounds_toArray, List.set_cons_zero, List.set_cons_succ]
        refine wpAnyV_done (by kernel_rfl) ?_ _
        have HB := Lib.hid HC501.out.below
        go_wp2_with fail
        go_ret
        refine ⟨?_, HB.out⟩
        unfold rightB
        rw [if_neg (by rw [← HKD.out]; exact K1.out), if_neg (by rw [← HKD.out]; exact K2.out), if_pos (by rw [← HKD.out]; exact K3.out), HYD.out, HFD.out]
        rfl
      · have hb3 : ((kd : Int) == 3) = false := by rw [beq_eq_false_iff_ne]; omega
        have K3 := Lib.hid k3
        have hk4 : n.kind = 4 := by
          have h1 := K1.out
          have h2 := K2.out
          have h0 := HKD.out
          omega
        have hof : ot < ny := by rw [HOT.out]; exact H4.out hk4
        obtain ⟨f, hf⟩ : ∃ f, ys[ot]? = some f := ⟨_, List.getElem?_eq_getElem (by have := HNY.out; omega)⟩
        obtain ⟨f1, f2⟩ := HYS.out f (List.mem_of_getElem? hf)
        have hfd : ys.getD n.other 0 = f := by rw [← HOT.out, List.getD_eq_getElem?_getD, hf]; rfl
        have HFD := Lib.hid hfd
        have HFC := Lib.hid (fun (W : World) (hb : Below w.heap.size w W) => (show W.cell? ⟨gy, ot, none⟩ = some (.int .i64 f) by
          rw [hb.cell (p := ⟨gy, ot, none⟩) (HVY.out.lt gy rfl).2, HVY.out.cellAt ot (by have := HNY.out; omega)]
          simp [intCells, hf]))
        have q1 : IntKind.i64.wrap (y - f) = y - f := IntWalk.i64_in _ (by omega)
        have HH := Lib.hid (fun W => hasIn_any n.lo n.hi (y - f) W)
        clear hf hfd k3 hk4
        go_wp2_with fail
        clear b0 b1 b2 b3 b4 b5 m0 m1 c0
        refine wp_region_v [(fun j => j == 1 || j == 4 || j == 6 || j == 7 || j == 8 || j == 9 || j == 10 || j == 11, fun W => W.cell? ⟨w.heap.size, 4, none⟩ = some (.int .i64 n.lo) ∧ W.cell? ⟨w.heap.size, 5, none⟩ = some (.int .i64 n.hi)), (fun j => j == 4 || j == 6 || j == 7 || j == 8 || j == 9 || j == 10 || j == 11, fun W => W.cell? ⟨w.heap.size + 1, 0, none⟩ = some (.slice (some ⟨gy, 0, none⟩) ny cy)), (fun j => j == 6 || j == 7 || j == 8 || j == 9 || j == 10 || j == 11, fun W => W.cell? ⟨w.heap.size, 2, none⟩ = some (.int .i64 (ot : Int))), (fun j => j == 8 || j == 9 || j == 10 || j == 11, fun W => W.cell? ⟨gy, ot, none⟩ = some (.int .i64 f))] (by kernel_rfl) ?_
        refine wpAnyV_world (fun W => RT w ⟨kd, st, ot, n.years, n.lo, n.hi⟩ (.slice An nn cn) (.slice (some ⟨gy, 0, none⟩) ny cy) (.slice Af nf cf) W) HR.out.drew (fun V hV => ?_)
        have HV := Lib.hid hV
        clear hV
        refine wpAnyV_free (i := 0) (v := ?_) (by simp only [List.getElem?_toArray, List.getElem?_cons_zero]; rfl) (by kernel_rfl) (by kernel_rfl) (by kernel_rfl) (by kernel_rfl) (by exact fun _ _ _ h => h) (Or.inl ⟨by rfl, ?hyb2⟩) (behind_cons (fun h => by simp at h) (behind_cons (fun h => by simp at h) (behind_cons (fun h => by simp at h) (behind_cons (fun h => by simp at h) (fun p hp => by cases hp))))) ?restb2
        case hyb2 => (intro W' _; go_simp; try with_reducible rfl)
        try simp only [Act.put, List.setIfInBounds_toArray, List.set_cons_zero, List.set_cons_succ]
        refine wpAnyV_free (i := 2) (v := ?_) (by simp only [List.getElem?_toArray, List.getElem?_cons_zero, List.getElem?_cons_succ]; rfl) (by kernel_rfl) (by kernel_rfl) (by kernel_rfl) (by kernel_rfl) (by exact fun _ _ _ h => h) (Or.inl ⟨by rfl, ?hyb3⟩) (behind_cons (fun h => by simp at h) (behind_cons (fun h => by simp at h) (behind_cons (fun h => by simp at h) (behind_cons (fun h => by simp at h) (fun p hp => by cases hp))))) ?restb3
        case hyb3 => (intro W' _; go_simp; try with_reducible rfl)
        try simp only [Act.put, List.setIfInBounds_toArray, List.set_cons_zero, List.set_cons_succ]
        refine wpAnyV_free (i := 3) (v := ?_) (by simp only [List.getElem?_toArray, List.getElem?_cons_zero, List.getElem?_cons_succ]; rfl) (by kernel_rfl) (by kernel_rfl) (by kernel_rfl) (by kernel_rfl) (by exact fun _ _ _ h => h) (Or.inl ⟨by rfl, ?hyb4⟩) (behind_cons (fun h => by simp at h) (behind_cons (fun h => by simp at h) (behind_cons (fun h => by simp at h) (behind_cons (fun h => by simp at h) (fun p hp => by cases hp))))) ?restb4
        case hyb4 => (intro W' _; go_simp; try with_reducible rfl)
        try simp only [Act.put, List.setIfInBounds_toArray, List.set_cons_zero, List.set_cons_succ]
        refine wpAnyV_free (i := 5) (v := ?_) (by simp only [List.getElem?_toArray, List.getElem?_cons_zero, List.getElem?_cons_succ]; rfl) (by kernel_rfl) (by kernel_rfl) (by kernel_rfl) (by kernel_rfl) (by exact fun _ _ _ h => h) (Or.inl ⟨by rfl, ?hyb5⟩) (behind_cons (fun h => by simp at h) (behind_cons (fun h => by simp at h) (behind_cons (fun h => by simp at h) (behind_cons (fun h => by simp at h) (fun p hp => by cases hp))))) ?restb5
        case hyb5 => (intro W' _; go_simp; try with_reducible rfl)
        try simp only [Act.put, List.setIfInBounds_toArray, List.set_cons_zero, List.set_cons_succ]
        refine wpAnyV_take (i := 1) (m := 0) (v := ?_) (by simp only [List.getElem?_toArray, List.getElem?_cons_zero, List.getElem?_cons_succ]; rfl) (by rfl) (by kernel_rfl) (by kernel_rfl) (by kernel_rfl) (by kernel_rfl) (by exact fun _ _ _ h => h) (Or.inl ⟨by rfl, ?hyb6⟩) ((And.intro (HV.out.nb.cell 4) (HV.out.nb.cell 5))) (behind_cons (fun _ => (And.intro (HV.out.nb.cell 4) (HV.out.nb.cell 5))) (behind_cons (fun h => by simp at h) (behind_cons (fun h => by simp at h) (behind_cons (fun h => by simp at h) (fun p hp => by cases hp))))) ?restb6
        case hyb6 => (intro W' hSW; go_simp; try with_reducible rfl)
        try simp only [Act.put, List.setIfInBounds_toArray, List.set_cons_zero, List.set_cons_succ]
        refine wpAnyV_take (i := 4) (m := 1) (v := ?_) (by simp only [List.getElem?_toArray, List.getElem?_cons_zero, List.getElem?_cons_succ]; rfl) (by rfl) (by kernel_rfl) (by kernel_rfl) (by kernel_rfl) (by kernel_rfl) (by exact fun _ _ _ h => h) (Or.inl ⟨by rfl, ?hyb7⟩) ((HV.out.wb.cell 0)) (behind_cons (fun _ => (And.intro (HV.out.nb.cell 4) (HV.out.nb.cell 5))) (behind_cons (fun _ => (HV.out.wb.cell 0)) (behind_cons (fun h => by simp at h) (behind_cons (fun h => by simp at h) (fun p hp => by cases hp))))) ?restb7
        case hyb7 => (intro W' hSW; go_simp; try with_reducible rfl)
        try simp only [Act.put, List.setIfInBounds_toArray, List.set_cons_zero, List.set_cons_succ]
        refine wpAnyV_take (i := 6) (m := 2) (v := ?_) (by simp only [List.getElem?_toArray, List.getElem?_cons_zero, List.getElem?_cons_succ]; rfl) (by rfl) (by kernel_rfl) (by kernel_rfl) (by kernel_rfl) (by kernel_rfl) (by exact fun _ _ _ h => h) (Or.inl ⟨by rfl, ?hyb8⟩) ((HV.out.nb.cell 2)) (behind_cons (fun _ => (And.intro (HV.out.nb.cell 4) (HV.out.nb.cell 5))) (behind_cons (fun _ => (HV.out.wb.cell 0)) (behind_cons (fun _ => (HV.out.nb.cell 2)) (behind_cons (fun h => by simp at h) (fun p hp => by cases hp))))) ?restb8
        case hyb8 => (intro W' hSW; go_simp; try with_reducible rfl)
        try simp only [Act.put, List.setIfInBounds_toArray, List.set_cons_zero, List.set_cons_succ]
        refine wpAnyV_free (i := 7) (v := ?_) (by simp only [List.getElem?_toArray, List.getElem?_cons_zero, List.getElem?_cons_succ]; rfl) (by kernel_rfl) (by kernel_rfl) (by kernel_rfl) (by kernel_rfl) (by exact fun _ _ _ h => h) (Or.inl ⟨by rfl, ?hyb9⟩) (behind_cons (fun _ => (And.intro (HV.out.nb.cell 4) (HV.out.nb.cell 5))) (behind_cons (fun _ => (HV.out.wb.cell 0)) (behind_cons (fun _ => (HV.out.nb.cell 2)) (behind_cons (fun h => by simp at h) (fun p hp => by cases hp))))) ?restb9
        case hyb9 => (intro W' _; go_simp; try with_reducible rfl)
        try simp only [Act.put, List.setIfInBounds_toArray, List.set_cons_zero, List.set_cons_succ]
        refine wpAnyV_take (i := 8) (m := 3) (v := ?_) (by simp only [List.getElem?_toArray, List.getElem?_cons_zero, List.getElem?_cons_succ]; rfl) (by rfl) (by kernel_rfl) (by kernel_rfl) (by kernel_rfl) (by kernel_rfl) (by exact fun _ _ _ h => h) (Or.inl ⟨by rfl, ?hyb10⟩) ((HFC.out _ HV.out.below)) (behind_cons (fun _ => (And.intro (HV.out.nb.cell 4) (HV.out.nb.cell 5))) (behind_cons (fun _ => (HV.out.wb.cell 0)) (behind_cons (fun _ => (HV.out.nb.cell 2)) (behind_cons (fun _ => (HFC.out _ HV.out.below)) (fun p hp => by cases hp))))) ?restb10
        case hyb10 => (intro W' hSW; go_simp; try with_reducible rfl)
        try simp only [Act.put, List.setIfInBounds_toArray, List.set_cons_zero, List.set_cons_succ]
        refine wpAnyV_free (i := 9) (v := ?_) (by simp only [List.getElem?_toArray, List.getElem?_cons_zero, List.getElem?_cons_succ]; rfl) (by kernel_rfl) (by kernel_rfl) (by kernel_rfl) (by kernel_rfl) (by exact fun _ _ _ h => h) (Or.inl ⟨by rfl, ?hyb11⟩) (behind_cons (fun _ => (And.intro (HV.out.nb.cell 4) (HV.out.nb.cell 5))) (behind_cons (fun _ => (HV.out.wb.cell 0)) (behind_cons (fun _ => (HV.out.nb.cell 2)) (behind_cons (fun _ => (HFC.out _ HV.out.below)) (fun p hp => by cases hp))))) ?restb11
        case hyb11 => (intro W' _; go_simp; try with_reducible rfl)
        try simp only [Act.put, List.setIfInBounds_toArray, List.set_cons_zero, List.set_cons_succ]
        refine wpAnyV_ready (rs := [10]) (by kernel_rfl) (by simp) ?_
        refine AllReadyV.cons (by simp only [List.getElem?_toArray, List.getElem?_cons_zero, List.getElem?_cons_succ]; rfl) (fun K hK => ?_) AllReadyV.nil
        go_simp
        go_at_call 21
        (with_reducible refine (HH.out _).mono ?_)
        rintro e w502 ⟨rfl, hb⟩
        have HC502 := Lib.hid (HV.out.to hb)
        clear hb
        refine hK.out _ _ (behind_cons (fun _ => (And.intro (HC502.out.nb.cell 4) (HC502.out.nb.cell 5))) (behind_cons (fun _ => (HC502.out.wb.cell 0)) (behind_cons (fun _ => (HC502.out.nb.cell 2)) (behind_cons (fun _ => (HFC.out _ HC502.out.below)) (fun p hp => by cases hp))))) ?_
        clear hK K
        try simp only [Act.put, List.setIfInBounds_toArray, List.set_cons_zero, List.set_cons_succ]
        refine wpAnyV_free (i := 11) (v := ?_) (by simp only [List.getElem?_toArray, List.getElem?_cons_zero, List.getElem?_cons_succ]; rfl) (by kernel_rfl) (by kernel_rfl) (by kernel_rfl) (by kernel_rfl) (by exact fun _ _ _ h => h) (Or.inl ⟨by rfl, ?hyb13⟩) (behind_cons (fun _ => (And.intro (HC502.out.nb.cell 4) (HC502.out.nb.cell 5))) (behind_cons (fun _ => (HC502.out.wb.cell 0)) (behind_cons (fun _ => (HC502.out.nb.cell 2)) (behind_cons (fun _ => (HFC.out _ HC502.out.below)) (fun p hp => by cases hp))))) ?restb13
        case hyb13 => (intro W' _; go_simp; try with_reducible rfl)
        try simp only [Act.put, List.setIfInBounds_toArray, List.set_cons_zero, List.set_cons_succ]
        refine wpAnyV_done (by kernel_rfl) ?_ _
        have HB := Lib.hid HC502.out.below
        go_wp2_with fail
        go_ret
        refine ⟨?_, HB.out⟩
        unfold rightB
        rw [if_neg (by rw [← HKD.out]; exact K1.out), if_neg (by rw [← HKD.out]; exact K2.out), if_neg (by rw [← HKD.out]; exact K3.out), HYD.out, HFD.out]
        rfl
end
end Go.Proofs.YtmfjfjahemlhkaaGreat
