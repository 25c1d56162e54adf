/- Spans of some things, joined. · Spans, joined. -/
import Derived.Test.YtcbdcdpoackplaaLt
import Derived.Test.YtcbdcdpoackplaaLc
import Derived.Test.YtcbdcdpoackplaaDd
import Derived.Test.YtcbdcdpoackplaaFv
namespace Go.Proofs.Ytcbdcdpoackplaa
section
open Go.RowKit Dt

attribute [local go_sem ↓] ld_b st_b
attribute [local go_sem] run_stB
def pairV (p : Int × Int) : Value := .agg #[.int .i64 p.1, .int .i64 p.2]
/-- What a closure that tells spans comes to. -/
def TellsAt (g : Nat) (caps : Array Value) (f : Mat → Int × Int) (M : Mat) (w : World) : Prop :=
  Calls Try.prog g (#[.agg (cellsM M).toArray] ++ caps) w fun e w' => e = .returned (pairV (f M)) ∧ Below w.heap.size w w'
theorem spanIn_any (M : Mat) (hc : Closed 10 M) (hs : Small M) (i j : Nat) (hi : i < 10) (hj : j < 10) (w : World) :
    Calls Try.prog 43 #[.agg (cellsM M).toArray, .int .i64 i, .int .i64 j] w fun e w' => e = .returned (pairV (spanIn i j M)) ∧ Below w.heap.size w w' :=
  spanOf_any M i j hi hj (by have := hs.lo hc j i hj hi; omega) (by have := hs j i hj hi; omega) w
set_option maxRecDepth 100000 in
set_option maxHeartbeats 1000000 in
theorem tells_spans (M : Mat) (hc : Closed 10 M) (hs : Small M) (j : Nat) (hj : j < 10) (b : Nat) (w : World) (hb : Blok w b 3 [.int .i64 j]) :
    TellsAt 57 #[.pointer (some ⟨b, 0, none⟩)] (spanIn 0 j) M w := by
  have hlt := hb.size
  have hlt1 : b < w.heap.size + 1 := by omega
  have c0 := hb.cell 0
  simp at c0
  clear hb
  obtain ⟨p, hp⟩ : ∃ p, p = spanIn (0) (j) M := ⟨_, rfl⟩
  have hsp := fun w => spanIn_any M hc hs (0) (j) (by omega) (by omega) w
  unfold TellsAt
  rw [← hp] at hsp ⊢
  have HS : Hid (∀ w, Calls Try.prog 43 #[.agg (cellsM M).toArray, .int .i64 0, .int .i64 j] w fun e w' => e = .returned (.agg #[.int .i64 p.1, .int .i64 p.2]) ∧ Below w.heap.size w w') := Lib.hid hsp
  clear hp hsp
  show Calls Try.prog _ #[.agg (cellsM M).toArray, .pointer (some ⟨b, 0, none⟩)] w _
  have hb1 : Below w.heap.size w ((w.alloc (.cells (cellsM M).toArray 77)).alloc (.cells #[.int .i64 0, .int .i64 0] 39)) := ((Below.refl _ w).alloc (Nat.le_refl _) _).alloc (by simp) _
  have HB1 := Lib.hid hb1
  clear hb1
  go_enter Try.func57, Try.ntmps57
  go_wp2_with (first
    | rw [run_ldB _ _ _ M (World.rangeAt_alloc (ra_new _ _ rfl _ _ _) _)]
    | (go_at_call 43; (refine (HS.out _).mono ?_); rintro e w1 ⟨rfl, hb2⟩; have hr := (show Blok _ (w.heap.size + 1) 39 [.int .i64 0, .int .i64 0] from (by have := Blok.new (w.alloc (.cells (cellsM M).toArray 77)) 39 [.int .i64 0, .int .i64 0]; rwa [World.size_alloc] at this)).below hb2 (by simp); have r0 := hr.cell 0; have r1 := hr.cell 1; have g0 := hr.free 0; have g1 := hr.free 1; simp at r0 r1; have HR := Lib.hid hr; have HB2 := Lib.hid hb2; clear hb2 hr))
  refine bodyPost_ret (v := pairV p) ?_ rfl ⟨rfl, ?_⟩
  · exact results_cell_row Try.results57 _ _ (w.heap.size + 1) 39 _ (0, 0) _ rfl ((HR.out.put 0 (.int .i64 p.1)).put 1 (.int .i64 p.2)) Try.underlying39 rfl (by kernel_rfl)
  · exact ((HB1.out.trans (HB2.out.mono (by simp; omega))).setCell (p := ⟨w.heap.size + 1, 0, none⟩) (Nat.le_succ _) _).setCell (p := ⟨w.heap.size + 1, 1, none⟩) (Nat.le_succ _) _
set_option maxRecDepth 100000 in
set_option maxHeartbeats 1000000 in
theorem tells_cut (M : Mat) (hc : Closed 10 M) (hs : Small M) (k : Nat) (hk : k < 6) (b : Nat) (w : World) (hb : Blok w b 3 [.int .i64 k]) :
    TellsAt 42 #[.pointer (some ⟨b, 0, none⟩)] (spanIn 0 (1 + k)) M w := by
  have hlt := hb.size
  have hlt1 : b < w.heap.size + 1 := by omega
  have c0 := hb.cell 0
  simp at c0
  clear hb
  obtain ⟨p, hp⟩ : ∃ p, p = spanIn (0) ((1 + k)) M := ⟨_, rfl⟩
  have hsp := fun w => spanIn_any M hc hs (0) ((1 + k)) (by omega) (by omega) w
  unfold TellsAt
  rw [← hp] at hsp ⊢
  rw [show ((1 + k : Nat) : Int) = 1 + (k : Int) by omega] at hsp
  have hk6 : (k : Int) < 6 := by omega
  have HS : Hid (∀ w, Calls Try.prog 43 #[.agg (cellsM M).toArray, .int .i64 0, .int .i64 (1 + (k : Int))] w fun e w' => e = .returned (.agg #[.int .i64 p.1, .int .i64 p.2]) ∧ Below w.heap.size w w') := Lib.hid hsp
  clear hp hsp
  show Calls Try.prog _ #[.agg (cellsM M).toArray, .pointer (some ⟨b, 0, none⟩)] w _
  have hb1 : Below w.heap.size w ((w.alloc (.cells (cellsM M).toArray 77)).alloc (.cells #[.int .i64 0, .int .i64 0] 39)) := ((Below.refl _ w).alloc (Nat.le_refl _) _).alloc (by simp) _
  have HB1 := Lib.hid hb1
  clear hb1
  go_enter Try.func42, Try.ntmps42
  go_wp2_with (first
    | rw [run_ldB _ _ _ M (World.rangeAt_alloc (ra_new _ _ rfl _ _ _) _)]
    | (go_at_call 43; (refine (HS.out _).mono ?_); rintro e w1 ⟨rfl, hb2⟩; have hr := (show Blok _ (w.heap.size + 1) 39 [.int .i64 0, .int .i64 0] from (by have := Blok.new (w.alloc (.cells (cellsM M).toArray 77)) 39 [.int .i64 0, .int .i64 0]; rwa [World.size_alloc] at this)).below hb2 (by simp); have r0 := hr.cell 0; have r1 := hr.cell 1; have g0 := hr.free 0; have g1 := hr.free 1; simp at r0 r1; have HR := Lib.hid hr; have HB2 := Lib.hid hb2; clear hb2 hr))
  refine bodyPost_ret (v := pairV p) ?_ rfl ⟨rfl, ?_⟩
  · exact results_cell_row Try.results42 _ _ (w.heap.size + 1) 39 _ (0, 0) _ rfl ((HR.out.put 0 (.int .i64 p.1)).put 1 (.int .i64 p.2)) Try.underlying39 rfl (by kernel_rfl)
  · exact ((HB1.out.trans (HB2.out.mono (by simp; omega))).setCell (p := ⟨w.heap.size + 1, 0, none⟩) (Nat.le_succ _) _).setCell (p := ⟨w.heap.size + 1, 1, none⟩) (Nat.le_succ _) _
set_option maxRecDepth 100000 in
set_option maxHeartbeats 1000000 in
theorem tells_earlier (M : Mat) (hc : Closed 10 M) (hs : Small M) (k q : Nat) (hk : k < 6) (hq : q < 6) (b b' : Nat) (w : World) (hb : Blok w b 3 [.int .i64 k]) (hb' : Blok w b' 3 [.int .i64 q]) :
    TellsAt 48 #[.pointer (some ⟨b, 0, none⟩), .pointer (some ⟨b', 0, none⟩)] (spanIn (1 + k) (1 + q)) M w := by
  have hlt := hb.size
  have hlt1 : b < w.heap.size + 1 := by omega
  have c0 := hb.cell 0
  have hlt' := hb'.size
  have hlt1' : b' < w.heap.size + 1 := by omega
  have c0' := hb'.cell 0
  simp at c0 c0'
  clear hb hb'
  obtain ⟨p, hp⟩ : ∃ p, p = spanIn ((1 + k)) ((1 + q)) M := ⟨_, rfl⟩
  have hsp := fun w => spanIn_any M hc hs ((1 + k)) ((1 + q)) (by omega) (by omega) w
  unfold TellsAt
  rw [← hp] at hsp ⊢
  rw [show ((1 + k : Nat) : Int) = 1 + (k : Int) by omega, show ((1 + q : Nat) : Int) = 1 + (q : Int) by omega] at hsp
  have hk6 : (k : Int) < 6 := by omega
  have hq6 : (q : Int) < 6 := by omega
  have HS : Hid (∀ w, Calls Try.prog 43 #[.agg (cellsM M).toArray, .int .i64 (1 + (k : Int)), .int .i64 (1 + (q : Int))] w fun e w' => e = .returned (.agg #[.int .i64 p.1, .int .i64 p.2]) ∧ Below w.heap.size w w') := Lib.hid hsp
  clear hp hsp
  show Calls Try.prog _ #[.agg (cellsM M).toArray, .pointer (some ⟨b, 0, none⟩), .pointer (some ⟨b', 0, none⟩)] w _
  have hb1 : Below w.heap.size w ((w.alloc (.cells (cellsM M).toArray 77)).alloc (.cells #[.int .i64 0, .int .i64 0] 39)) := ((Below.refl _ w).alloc (Nat.le_refl _) _).alloc (by simp) _
  have HB1 := Lib.hid hb1
  clear hb1
  go_enter Try.func48, Try.ntmps48
  go_wp2_with (first
    | rw [run_ldB _ _ _ M (World.rangeAt_alloc (ra_new _ _ rfl _ _ _) _)]
    | (go_at_call 43; (refine (HS.out _).mono ?_); rintro e w1 ⟨rfl, hb2⟩; have hr := (show Blok _ (w.heap.size + 1) 39 [.int .i64 0, .int .i64 0] from (by have := Blok.new (w.alloc (.cells (cellsM M).toArray 77)) 39 [.int .i64 0, .int .i64 0]; rwa [World.size_alloc] at this)).below hb2 (by simp); have r0 := hr.cell 0; have r1 := hr.cell 1; have g0 := hr.free 0; have g1 := hr.free 1; simp at r0 r1; have HR := Lib.hid hr; have HB2 := Lib.hid hb2; clear hb2 hr))
  refine bodyPost_ret (v := pairV p) ?_ rfl ⟨rfl, ?_⟩
  · exact results_cell_row Try.results48 _ _ (w.heap.size + 1) 39 _ (0, 0) _ rfl ((HR.out.put 0 (.int .i64 p.1)).put 1 (.int .i64 p.2)) Try.underlying39 rfl (by kernel_rfl)
  · exact ((HB1.out.trans (HB2.out.mono (by simp; omega))).setCell (p := ⟨w.heap.size + 1, 0, none⟩) (Nat.le_succ _) _).setCell (p := ⟨w.heap.size + 1, 1, none⟩) (Nat.le_succ _) _
end
section
open Go.RowKit Dt

attribute [local go_sem ↓] ld_b st_b
attribute [local go_sem] run_stB
theorem joined_one (f : Mat → Int × Int) (M : Mat) : joined f [M] = f M := rfl
theorem joined_snoc (f : Mat → Int × Int) (l : List Mat) (h : l ≠ []) (M : Mat) : joined f (l ++ [M]) = joinTo (joined f l) (f M) := by
  cases l with
  | nil => exact absurd rfl h
  | cons N l => simp [joined, List.foldl_append]
theorem joined_take (f : Mat → Int × Int) (l : List Mat) (k : Nat) (M : Mat) (hk : 0 < k) (h : l[k]? = some M) : joined f (l.take (k + 1)) = joinTo (joined f (l.take k)) (f M) := by
  rw [List.take_add_one, h]
  refine joined_snoc f _ (fun e => ?_) M
  have := congrArg List.length e
  have hlt := (List.getElem?_eq_some_iff.1 h).1
  rw [List.length_take, List.length_nil] at this
  omega
set_option maxRecDepth 100000 in
set_option maxHeartbeats 1000000 in
theorem joinS_any (a q : Int × Int) (w : World) :
    Calls Try.prog 64 #[.agg #[.int .i64 a.1, .int .i64 a.2], .agg #[.int .i64 q.1, .int .i64 q.2]] w fun e w' => e = .returned (.agg #[.int .i64 (joinTo a q).1, .int .i64 (joinTo a q).2]) ∧ Below w.heap.size w w' := by
  have e1 : (if q.1 < a.1 then q.1 else a.1) = (joinTo a q).1 := by
    show _ = min a.1 q.1
    split <;> omega
  have e2 : (if a.2 < q.2 then q.2 else a.2) = (joinTo a q).2 := by
    show _ = max a.2 q.2
    split <;> omega
  obtain ⟨z, hz⟩ : ∃ z, z = joinTo a q := ⟨_, rfl⟩
  rw [← hz] at e1 e2 ⊢
  clear hz
  have hb := (((Below.refl w.heap.size w).alloc (Nat.le_refl _) (.cells #[.int .i64 a.1, .int .i64 a.2] 39)).alloc (by simp) (.cells #[.int .i64 q.1, .int .i64 q.2] 39)).alloc (by simp; omega) (.cells #[.int .i64 z.1, .int .i64 z.2] 39)
  have hr := Blok.new ((w.alloc (.cells #[.int .i64 a.1, .int .i64 a.2] 39)).alloc (.cells #[.int .i64 q.1, .int .i64 q.2] 39)) 39 [.int .i64 z.1, .int .i64 z.2]
  simp only [World.size_alloc] at hr
  have HB := Lib.hid hb
  have HR := Lib.hid hr
  clear hb hr
  go_enter Try.func64, Try.ntmps64
  go_wp2_with fail
  refine bodyPost_ret (v := .agg #[.int .i64 z.1, .int .i64 z.2]) ?_ rfl ⟨rfl, ?_⟩
  · exact results_cell_row Try.results64 _ _ (w.heap.size + 1 + 1) 39 _ (0, 0) _ rfl HR.out Try.underlying39 rfl (by kernel_rfl)
  · exact HB.out
theorem ra_below {w w' : World} {B g o : Nat} {cs : List Value} (h : w.rangeAt g o cs) (hb : Below B w w') (hg : g < B) : w'.rangeAt g o cs := fun j u hu => (hb.cell (p := ⟨g, _, none⟩) hg).trans (h j u hu)
set_option maxRecDepth 100000 in
set_option maxHeartbeats 1000000 in
theorem joined_any (gf : Nat) (caps : Array Value) (f : Mat → Int × Int) (l : List Mat) (hne : l ≠ []) (hl : l.length ≤ 10000) (heg : ∀ args w, (callFunc gf args).run Try.prog w = .ok (.enter gf args) w) (B : Nat) (v : Value) (w : World) (hv : MatsAt w B v l)
    (hT : ∀ M ∈ l, ∀ w', Below w.heap.size w w' → TellsAt gf caps f M w') :
    Calls Try.prog 46 #[v, .func (.func gf) #[] caps] w fun e w' => e = .returned (pairV (joined f l)) ∧ Below w.heap.size w w' := by
  obtain ⟨A, c, rfl, hcap, hA⟩ := hv
  obtain ⟨n, hn⟩ : ∃ n, n = l.length := ⟨_, rfl⟩
  have n0 : 0 < n := by rw [hn]; exact List.length_pos_iff.2 hne
  rw [← hn] at hcap hA hl ⊢
  obtain ⟨g, rfl, -, hg, hR⟩ := hA n0
  obtain ⟨M0, hM0⟩ : ∃ M, l[0]? = some M := ⟨_, List.getElem?_eq_getElem (by rw [← hn]; exact n0)⟩
  have hr0 := hR 0 M0 hM0
  rw [Nat.zero_mul] at hr0
  obtain ⟨p0, hp0⟩ : ∃ p, p = f M0 := ⟨_, rfl⟩
  have hT0 := hT M0 (List.mem_of_getElem? hM0)
  have hj1 : joined f (l.take 1) = p0 := by
    rw [hp0]
    cases l with
    | nil => exact absurd rfl hne
    | cons N l => simp at hM0; subst hM0; rfl
  have hT0' : ∀ w', Below w.heap.size w w' → Calls Try.prog gf (#[.agg (cellsM M0).toArray] ++ caps) w' fun e w'' => e = .returned (.agg #[.int .i64 p0.1, .int .i64 p0.2]) ∧ Below w'.heap.size w' w'' := by
    intro w' hb
    have := hT0 w' hb
    unfold TellsAt at this
    rwa [← hp0] at this
  have HT0 := Lib.hid hT0'
  have HT := Lib.hid hT
  have HR := Lib.hid hR
  have HN := Lib.hid hn
  have HJ1 := Lib.hid hj1
  have hn1 : (1 : Int) ≤ (n : Int) := by omega
  have hnc : (n : Int) ≤ (c : Int) := by omega
  obtain ⟨A2, hA2⟩ : ∃ A2 : Option Addr, (if c = 1 then some ⟨g, 0, none⟩ else some ⟨g, 100, none⟩) = A2 := ⟨_, rfl⟩
  have HA2 := Lib.hid hA2
  clear hn hp0 hT0 hT0' hT hR hj1 hM0
  go_enter Try.func46, Try.ntmps46
  go_wp2_with (rw [run_ldB _ _ _ M0 (World.rangeAt_alloc hr0 _)])
  refine (HT0.out _ ((Below.refl _ w).alloc (Nat.le_refl _) _)).mono ?_
  rintro e w1 ⟨rfl, hb1⟩
  have hbA := ((Below.refl w.heap.size w).alloc (Nat.le_refl _) (.cells #[.int .i64 0, .int .i64 0] 39)).trans (hb1.mono (by simp))
  have hres := (Blok.new w 39 [.int .i64 0, .int .i64 0]).below hb1 (by simp)
  have HBA := Lib.hid hbA
  have HRES := Lib.hid hres
  clear hbA hres hb1
  go_wp2_with fail
  have hbS : Below w.heap.size w (w1.alloc (.cells #[.int .i64 p0.1, .int .i64 p0.2] 39)) := HBA.out.alloc HBA.out.size _
  go_loopw [16] (fun i wr => ∃ (k : Nat) (a : Int × Int), k + 1 ≤ n ∧ i = .int .i64 k ∧ a = joined f (l.take (k + 1)) ∧ Below w.heap.size w wr ∧ Blok wr w.heap.size 39 [.int .i64 0, .int .i64 0] ∧ Blok wr w1.heap.size 39 [.int .i64 a.1, .int .i64 a.2]) (fun i _ => n - (intOf i).toNat)
  case atStart => exact ⟨0, p0, by omega, rfl, HJ1.out.symm, hbS, HRES.out.alloc _, Blok.new w1 _ _⟩
  case round =>
    clear hbS
    obtain ⟨k, a, hk, rfl, ha, hb, hres, hwh⟩ := hrel
    by_cases hlt : k + 1 < n
    · obtain rfl : A2 = some ⟨g, 100, none⟩ := by rw [← HA2.out, if_neg (by omega)]
      obtain ⟨M, hM⟩ : ∃ M, l[k + 1]? = some M := ⟨_, List.getElem?_eq_getElem (by rw [← HN.out]; exact hlt)⟩
      obtain ⟨q, hq⟩ : ∃ q, q = f M := ⟨_, rfl⟩
      have hra := ra_below (HR.out (k + 1) M hM) hb hg
      rw [show (k + 1) * 100 = 100 + k * 100 by omega] at hra
      have hTM : ∀ w', Below w.heap.size w w' → Calls Try.prog gf (#[.agg (cellsM M).toArray] ++ caps) w' fun e w'' => e = .returned (.agg #[.int .i64 q.1, .int .i64 q.2]) ∧ Below w'.heap.size w' w'' := by
        intro w' hb
        have := HT.out M (List.mem_of_getElem? hM) w' hb
        unfold TellsAt at this
        rwa [← hq] at this
      have hjn : joined f (l.take (k + 1 + 1)) = joinTo a q := by rw [joined_take f l (k + 1) M (by omega) hM, ← ha, hq]
      have HTM := Lib.hid hTM
      have HJN := Lib.hid hjn
      have HB := Lib.hid hb
      have HRS := Lib.hid hres
      have HWH := Lib.hid hwh
      have hkn : (k : Int) < (n : Int) - 1 := by omega
      clear hM hq hTM hjn ha hb hres hwh
      go_wp2_with (rw [run_ldB _ _ _ M hra])
      clear hra
      have hne01 : w.heap.size ≤ w1.heap.size := HBA.out.size
      have hne : w.heap.size ≠ w1.heap.size := by have := HRES.out.size; omega
      refine wp_region_v [(fun j => j == 0 || j == 2 || j == 3 || j == 4, fun W => W.cell? ⟨w1.heap.size, 0, none⟩ = some (.int .i64 a.1) ∧ W.cell? ⟨w1.heap.size, 1, none⟩ = some (.int .i64 a.2)), (fun j => j == 2 || j == 3 || j == 4, fun W => W.rangeAt wr.heap.size 0 (cellsM M))] (by kernel_rfl) ?_
      refine wpAnyV_world (fun W => Below w.heap.size w W ∧ Blok W w.heap.size 39 [.int .i64 0, .int .i64 0] ∧ Blok W w1.heap.size 39 [.int .i64 a.1, .int .i64 a.2] ∧ W.rangeAt wr.heap.size 0 (cellsM M) ∧ wr.heap.size < W.heap.size) ⟨(HB.out.alloc HB.out.size _).drew, HRS.out.alloc _, HWH.out.alloc _, ra_new _ _ rfl _ _ _, by simp⟩ (fun V hV => ?_)
      have HV := Lib.hid hV
      clear hV
      refine wpAnyV_free (i := 1) (v := ?_) (by simp only [List.getElem?_toArray, List.getElem?_cons_zero, List.getElem?_cons_succ]; rfl) (by kernel_rfl) (by kernel_rfl) (by kernel_rfl) (by kernel_rfl) (by exact fun _ _ _ h => h) (Or.inl ⟨by rfl, ?hyj2⟩) (behind_cons (fun h => by simp at h) (behind_cons (fun h => by simp at h) (fun p hp => by cases hp))) ?restj2
      case hyj2 => (intro W' _; go_simp; try with_reducible rfl)
      try simp only [Act.put, List.setIfInBounds_toArray, List.set_cons_zero, List.set_cons_succ]
      refine wpAnyV_take (i := 0) (m := 0) (v := ?_) (by simp only [List.getElem?_toArray, List.getElem?_cons_zero]; rfl) (by rfl) (by kernel_rfl) (by kernel_rfl) (by kernel_rfl) (by kernel_rfl) (by exact fun _ _ _ h => h) (Or.inl ⟨by rfl, ?hyj3⟩) ((And.intro ((HV.out.2.2.1).cell 0) ((HV.out.2.2.1).cell 1))) (behind_cons (fun _ => (And.intro ((HV.out.2.2.1).cell 0) ((HV.out.2.2.1).cell 1))) (behind_cons (fun h => by simp at h) (fun p hp => by cases hp))) ?restj3
      case hyj3 => (intro W' hSW; obtain ⟨h1, h2⟩ := hSW; go_simp; try with_reducible rfl)
      try simp only [Act.put, List.setIfInBounds_toArray, List.set_cons_zero, List.set_cons_succ]
      refine wpAnyV_take (i := 2) (m := 1) (v := ?_) (by simp only [List.getElem?_toArray, List.getElem?_cons_zero, List.getElem?_cons_succ]; rfl) (by rfl) (by kernel_rfl) (by kernel_rfl) (by kernel_rfl) (by kernel_rfl) (by exact fun _ _ _ h => h) (Or.inl ⟨by rfl, ?hyj4⟩) ((HV.out.2.2.2.1)) (behind_cons (fun _ => (And.intro ((HV.out.2.2.1).cell 0) ((HV.out.2.2.1).cell 1))) (behind_cons (fun _ => (HV.out.2.2.2.1)) (fun p hp => by cases hp))) ?restj4
      case hyj4 => (intro W' hSW; have hld := run_ldB W' _ _ M hSW; go_simp; try with_reducible rfl)
      try simp only [Act.put, List.setIfInBounds_toArray, List.set_cons_zero, List.set_cons_succ]
      refine wpAnyV_ready (rs := [3]) (by kernel_rfl) (by simp) ?_
      refine AllReadyV.cons (by simp only [List.getElem?_toArray, List.getElem?_cons_zero, List.getElem?_cons_succ]; rfl) (fun K hK => ?_) AllReadyV.nil
      go_simp
      refine (HTM.out _ HV.out.1).mono ?_
      rintro e w2 ⟨rfl, hb2⟩
      have hlr2 : wr.heap.size < V.heap.size := HV.out.2.2.2.2
      have HV2 := Lib.hid (show Below w.heap.size w w2 ∧ Blok w2 w.heap.size 39 [.int .i64 0, .int .i64 0] ∧ Blok w2 w1.heap.size 39 [.int .i64 a.1, .int .i64 a.2] ∧ w2.rangeAt wr.heap.size 0 (cellsM M) ∧ V.heap.size ≤ w2.heap.size from ⟨HV.out.1.trans (hb2.mono HV.out.1.size), HV.out.2.1.below hb2 HV.out.2.1.size, HV.out.2.2.1.below hb2 HV.out.2.2.1.size, ra_below HV.out.2.2.2.1 hb2 hlr2, hb2.size⟩)
      clear hb2
      refine hK.out _ _ (behind_cons (fun _ => (And.intro ((HV2.out.2.2.1).cell 0) ((HV2.out.2.2.1).cell 1))) (behind_cons (fun _ => (HV2.out.2.2.2.1)) (fun p hp => by cases hp))) ?_
      clear hK K
      try simp only [Act.put, List.setIfInBounds_toArray, List.set_cons_zero, List.set_cons_succ]
      refine wpAnyV_ready (rs := [4]) (by kernel_rfl) (by simp) ?_
      refine AllReadyV.cons (by simp only [List.getElem?_toArray, List.getElem?_cons_zero, List.getElem?_cons_succ]; rfl) (fun K hK => ?_) AllReadyV.nil
      go_simp
      go_at_call 64
      refine (joinS_any a q _).mono ?_
      rintro e w3 ⟨rfl, hb3⟩
      have hlr3 := Nat.lt_of_lt_of_le HV.out.2.2.2.2 HV2.out.2.2.2.2
      have HV3 := Lib.hid (show Below w.heap.size w w3 ∧ Blok w3 w.heap.size 39 [.int .i64 0, .int .i64 0] ∧ Blok w3 w1.heap.size 39 [.int .i64 a.1, .int .i64 a.2] ∧ w3.rangeAt wr.heap.size 0 (cellsM M) from ⟨HV2.out.1.trans (hb3.mono HV2.out.1.size), HV2.out.2.1.below hb3 HV2.out.2.1.size, HV2.out.2.2.1.below hb3 HV2.out.2.2.1.size, ra_below HV2.out.2.2.2.1 hb3 hlr3⟩)
      clear hb3
      obtain ⟨z, hz⟩ : ∃ z, z = joinTo a q := ⟨_, rfl⟩
      rw [← hz]
      have HZ := Lib.hid hz
      clear hz
      refine hK.out _ _ (behind_cons (fun _ => (And.intro ((HV3.out.2.2.1).cell 0) ((HV3.out.2.2.1).cell 1))) (behind_cons (fun _ => (HV3.out.2.2.2)) (fun p hp => by cases hp))) ?_
      clear hK K
      try simp only [Act.put, List.setIfInBounds_toArray, List.set_cons_zero, List.set_cons_succ]
      refine wpAnyV_ready (rs := [5]) (by kernel_rfl) (by simp) ?_
      refine AllReadyV.cons (by simp only [List.getElem?_toArray, List.getElem?_cons_zero, List.getElem?_cons_succ]; rfl) (fun K hK => ?_) AllReadyV.nil
      have c0 := HV3.out.2.2.1.cell 0
      have c1 := HV3.out.2.2.1.cell 1
      have f0 := HV3.out.2.2.1.free 0
      have f1 := HV3.out.2.2.1.free 1
      simp at c0 c1
      try unfold pairV
      go_simp
      clear c0 c1 f0 f1
      refine hK.out _ _ (behind_cons (fun h => by simp at h) (behind_cons (fun h => by simp at h) (fun p hp => by cases hp))) ?_
      clear hK K
      try simp only [Act.put, List.setIfInBounds_toArray, List.set_cons_zero, List.set_cons_succ]
      refine wpAnyV_done (by kernel_rfl) ?_ _
      go_wp2_with fail
      go_roundw
      case rel =>
        refine ⟨k + 1, z, by omega, by go_num, by rw [HJN.out, HZ.out], ?_, ?_, ?_⟩
        · exact (HV3.out.1.setCell (p := ⟨w1.heap.size, 0, none⟩) hne01 _).setCell (p := ⟨w1.heap.size, 1, none⟩) hne01 _
        · exact (HV3.out.2.1.far (by exact hne) _).far (by exact hne) _
        · exact (HV3.out.2.2.1.put 0 (.int .i64 z.1)).put 1 (.int .i64 z.2)
      case measure => simp [intOf]; omega
    · obtain rfl : n = k + 1 := by omega
      have a0 := hwh.cell 0
      have a1 := hwh.cell 1
      have b0 := hres.cell 0
      have b1 := hres.cell 1
      have f0 := hres.free 0
      have f1 := hres.free 1
      simp at a0 a1 b0 b1
      have HB := Lib.hid hb
      have HRS := Lib.hid hres
      have HAE := Lib.hid ha
      clear hb hres ha hwh
      go_wp2_with fail
      refine bodyPost_ret (v := pairV (joined f l)) ?_ rfl ⟨rfl, ?_⟩
      · have he : joined f l = a := by rw [HAE.out, List.take_of_length_le (by rw [← HN.out]; exact Nat.le_refl _)]
        rw [he]
        exact results_cell_row Try.results46 _ _ w.heap.size 39 _ (0, 0) _ rfl ((HRS.out.put 0 (.int .i64 a.1)).put 1 (.int .i64 a.2)) Try.underlying39 rfl (by kernel_rfl)
      · exact (HB.out.setCell (p := ⟨w.heap.size, 0, none⟩) (Nat.le_refl _) _).setCell (p := ⟨w.heap.size, 1, none⟩) (Nat.le_refl _) _
end
end Go.Proofs.Ytcbdcdpoackplaa
