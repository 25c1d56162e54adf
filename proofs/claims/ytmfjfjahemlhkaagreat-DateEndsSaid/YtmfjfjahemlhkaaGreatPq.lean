/- little: one note more. -/
import Derived.Test.YtmfjfjahemlhkaaGreatPo
namespace Go.Proofs.YtmfjfjahemlhkaaGreat
open Go.RowKit Dt

/-- Eras as little makes them. -/
def EsOk (es : List (Int × Int)) : Prop := ∀ s ∈ es, -2 ≤ s.1 ∧ s.1 ≤ s.2 ∧ s.2 ≤ 2
/-- The first notes, one for each stone. -/
def Firsts_ (k : Nat) (l : List Nt) : Prop := ∀ j, j < k → ∃ lo hi : Int, 0 ≤ lo ∧ lo ≤ hi ∧ hi ≤ 7 ∧ l[j]? = some (spanN j lo hi)
theorem Firsts_.more {k : Nat} {l : List Nt} (h : Firsts_ k l) (hk : k ≤ l.length) (x : Nt) : Firsts_ k (l ++ [x]) := fun j hj => by
  obtain ⟨lo, hi, p1, p2, p3, p4⟩ := h j hj
  exact ⟨lo, hi, p1, p2, p3, by rw [List.getElem?_append_left (by omega)]; exact p4⟩
theorem own_base {w : World} {B B' size n : Nat} {e : TypeId} {v : Value} {xs : List Value} (h : w.ownsRow B e size v n xs) (hB : B' ≤ B) : w.ownsRow B' e size v n xs := by
  obtain ⟨h1, h2⟩ := h
  refine ⟨h1, ?_⟩
  rcases h2 with h2 | ⟨r, cap, cur, e1, e2, e3⟩
  · exact .inl h2
  · exact .inr ⟨r, cap, cur, e1, Nat.le_trans hB e2, e3⟩
/-- A region whose way on is taken up anew. -/
theorem region_cut {P : Program} {id : Nat} {ops : Array Oper} {dr : Bool} {Q : Exit → Act → World → Prop} {a : Act} {w : World} (M : Act → World → Prop)
    (h : (Code.region id ops dr).wp P (fun e a w => (e = .normal → M a w) ∧ (e ≠ .normal → Q e a w)) a w) (hM : ∀ a w, M a w → Q .normal a w) : (Code.region id ops dr).wp P Q a w :=
  Code.wp_mono (fun e a w h => by
    by_cases he : e = .normal
    · subst he; exact hM _ _ (h.1 rfl)
    · exact h.2 he) h
/-- What a round holds while its note is a variable: with any cells. -/
structure LXN (w : World) (g bd st : Nat) (va vb : Value) (es : List (Int × Int)) (l : List Nt) (bx : Nat) (cs : List Value) (W : World) : Prop where
  lb : LB w g bd st va vb va es vb l W
  nb : Blok W bx 64 cs
  ne : ∀ q, vb.ownBlock = some q → q ≠ bx
  ge : w.heap.size ≤ bx
structure LX (w : World) (g bd st : Nat) (va vb : Value) (es : List (Int × Int)) (l : List Nt) (bx : Nat) (x : Nt) (vy : Value) (W : World) : Prop where
  lb : LB w g bd st va vb va es vb l W
  nb : Blok W bx 64 (ntL x vy)
  ne : ∀ q, vb.ownBlock = some q → q ≠ bx
  ge : w.heap.size ≤ bx
  yr : IntsO W w.heap.size vy x.years
theorem IntsO.nil {w W : World} {B : Nat} {v : Value} (_ : IntsO w B v []) : IntsO W B (.slice none 0 0) [] := World.ownsRow_nil _ _ _ _
section
variable {w W W' : World} {g bd st bx : Nat} {va vb vy : Value} {es : List (Int × Int)} {l : List Nt} {x : Nt} {cs : List Value}
theorem LXN.putN (h : LXN w g bd st va vb es l bx cs W) (i : Nat) (u : Value) : LXN w g bd st va vb es l bx (cs.set i u) (W.setCell ⟨bx, i, none⟩ u) :=
  ⟨h.lb.putX h.nb h.ne h.ge i u, h.nb.put i u, h.ne, h.ge⟩
theorem LXN.note (h : LXN w g bd st va vb es l bx cs W) (hc : cs = ntL x vy) (hy : IntsO W w.heap.size vy x.years) : LX w g bd st va vb es l bx x vy W := ⟨h.lb, hc ▸ h.nb, h.ne, h.ge, hy⟩
theorem LX.raw (h : LX w g bd st va vb es l bx x vy W) : LXN w g bd st va vb es l bx (ntL x vy) W := ⟨h.lb, h.nb, h.ne, h.ge⟩
theorem LX.calls (h : LX w g bd st va vb es l bx x vy W) (hu : UrnAt W' g) (hk : Kg g W W') : LX w g bd st va vb es l bx x vy W' :=
  ⟨h.lb.calls hu hk, h.nb.kg hk (h.lb.urn.ne h.nb (by decide)), h.ne, h.ge, own_kg h.yr h.lb.urn (by decide) hk⟩
end
theorem lyears_ok {k sn : Nat} {es : List (Int × Int)} {ys : List Int} (hs : sn < k) (h1 : 1 ≤ ys.length) (h3 : ys.length ≤ 3) (ha : ∀ y ∈ ys, 0 ≤ y ∧ y ≤ 7) (hu : ys.Pairwise (· < ·)) : (⟨1, sn, 0, ys, 0, 0⟩ : Nt).Ok ⟨k, es, []⟩ :=
  ⟨hs, ⟨by simp, by simp⟩, fun _ => ⟨rfl, rfl, rfl, h1, h3, fun y hy => by have := ha y hy; omega, hu⟩, fun h => absurd rfl h, fun h => by simp at h, fun h => by simp at h, fun h => by simp at h⟩
theorem era_ok {k sn : Nat} {es : List (Int × Int)} {a b : Int} (hs : sn < k) (he : 0 < es.length) (h1 : 1 ≤ a) (h2 : a ≤ b) (h3 : b ≤ 8) : (⟨3, sn, 0, [], a, b⟩ : Nt).Ok ⟨k, es, []⟩ :=
  ⟨hs, ⟨by simp, by simp⟩, fun h => by simp at h, fun _ => ⟨rfl, show SpanOk a b by unfold SpanOk; omega⟩, fun h => by simp at h, fun _ => ⟨he, h1⟩, fun h => by simp at h⟩
theorem after_ok {k sn ot : Nat} {es : List (Int × Int)} {a b : Int} (hs : sn < k) (ho : ot < k) (hn : ot ≠ sn) (h1 : -4 ≤ a) (h2 : a ≤ b) (h3 : b ≤ 5) : (⟨4, sn, ot, [], a, b⟩ : Nt).Ok ⟨k, es, []⟩ :=
  ⟨hs, ⟨by simp, by simp⟩, fun h => by simp at h, fun _ => ⟨rfl, show SpanOk a b by unfold SpanOk; omega⟩, fun h => by simp at h, fun h => by simp at h, fun _ => ⟨ho, hn⟩⟩
set_option maxRecDepth 100000 in
set_option maxHeartbeats 8000000 in
theorem lnotes (w W0 : World) (g bd k ne ca r3 : Nat) (Aa : Option Addr) (vb0 : Value) (es : List (Int × Int)) (l0 : List Nt) (hne : ne = es.length) (hl0 : l0.length = k) (hr3 : r3 ≤ 3) (hk1 : 1 ≤ k) (hk3 : k ≤ 3)
    (hok0 : ∀ n ∈ l0, n.Ok ⟨k, es, []⟩) (hfi0 : Firsts_ k l0)
    (s1 s4 s5 s7 s8 s9 s10 s11 s12 s13 s14 s15 s16 s17 s18 s19 s20 s21 s22 s23 s24 s25 s26 s27 s28 s29 s30 s31 s32 s33 s34 s35 s36 s37 s38 s39 s40 s41 s42 s43 s44 s45 s46 s47 s48 s49 s50 s51 s52 s53 s54 s55 s56 s57 s58 s59 s60 s61 s62 s63 s64 s65 s66 s67 s68 s69 s70 s71 s72 s73 s74 s75 s76 s77 s78 s79 s80 s81 s82 s83 s84 s85 s86 s87 s88 s89 s90 s91 s92 s93 s94 s95 s96 s97 s98 s99 s100 s101 s102 s103 s104 s105 s106 s107 s108 s109 s110 s111 s112 s113 s114 s115 s116 s117 s118 s119 s120 s121 s122 s123 : Value) (Q : Exit → Act → World → Prop) (h0 : LB w g bd k (.slice Aa ne ca) vb0 (.slice Aa ne ca) es vb0 l0 W0) (hqp : ∀ c a dst v w, Q (.panic c) (Act.put a dst v) w → Q (.panic c) a w)
    (hexit : ∀ (u6 u7 u8 u50 u51 u52 u53 u54 u55 u56 u57 u58 u59 u60 u61 u62 u63 u64 u65 u66 u67 u68 u69 u70 u71 u72 u73 u74 u75 u76 u77 u78 u79 u80 u81 u82 u83 u84 u85 u86 u87 u88 u89 u90 u91 u92 u93 u94 u95 u96 u97 u98 u99 u100 u101 u102 u103 u104 u105 u106 u107 u108 u109 u110 u111 u112 u113 u114 u115 u116 u117 u118 u119 u120 u121 u122 : Value) (l2 : List Nt) (vb' : Value) (wx : World), (∀ n ∈ l2, n.Ok ⟨k, es, []⟩) → Firsts_ k l2 → l2.length ≤ k + 3 → LB w g bd k (.slice Aa ne ca) vb' (.slice Aa ne ca) es vb' l2 wx → Q (.exit 4) ⟨List.toArray (Value.pointer (some ⟨g, 0, none⟩) :: s1 :: Value.pointer (some ⟨w.heap.size, 0, none⟩) :: Value.pointer (some ⟨bd, 0, none⟩) :: s4 :: s5 :: u6 :: u7 :: u8 :: s9 :: s10 :: s11 :: s12 :: s13 :: s14 :: s15 :: s16 :: s17 :: s18 :: s19 :: s20 :: s21 :: s22 :: s23 :: s24 :: s25 :: s26 :: s27 :: s28 :: s29 :: s30 :: s31 :: s32 :: s33 :: s34 :: s35 :: s36 :: s37 :: s38 :: s39 :: s40 :: s41 :: s42 :: s43 :: s44 :: s45 :: s46 :: s47 :: s48 :: s49 :: u50 :: u51 :: u52 :: u53 :: u54 :: u55 :: u56 :: u57 :: u58 :: u59 :: u60 :: u61 :: u62 :: u63 :: u64 :: u65 :: u66 :: u67 :: u68 :: u69 :: u70 :: u71 :: u72 :: u73 :: u74 :: u75 :: u76 :: u77 :: u78 :: u79 :: u80 :: u81 :: u82 :: u83 :: u84 :: u85 :: u86 :: u87 :: u88 :: u89 :: u90 :: u91 :: u92 :: u93 :: u94 :: u95 :: u96 :: u97 :: u98 :: u99 :: u100 :: u101 :: u102 :: u103 :: u104 :: u105 :: u106 :: u107 :: u108 :: u109 :: u110 :: u111 :: u112 :: u113 :: u114 :: u115 :: u116 :: u117 :: u118 :: u119 :: u120 :: u121 :: u122 :: s123 :: []), []⟩ wx) :
    Code.wp Tryz.prog (lLoop 4) Q ⟨List.toArray (Value.pointer (some ⟨g, 0, none⟩) :: s1 :: Value.pointer (some ⟨w.heap.size, 0, none⟩) :: Value.pointer (some ⟨bd, 0, none⟩) :: s4 :: s5 :: Value.int .i64 (r3 : Nat) :: s7 :: s8 :: s9 :: s10 :: s11 :: s12 :: s13 :: s14 :: s15 :: s16 :: s17 :: s18 :: s19 :: s20 :: s21 :: s22 :: s23 :: s24 :: s25 :: s26 :: s27 :: s28 :: s29 :: s30 :: s31 :: s32 :: s33 :: s34 :: s35 :: s36 :: s37 :: s38 :: s39 :: s40 :: s41 :: s42 :: s43 :: s44 :: s45 :: s46 :: s47 :: s48 :: s49 :: s50 :: s51 :: s52 :: s53 :: s54 :: s55 :: s56 :: s57 :: s58 :: s59 :: s60 :: s61 :: s62 :: s63 :: s64 :: s65 :: s66 :: s67 :: s68 :: s69 :: s70 :: s71 :: s72 :: s73 :: s74 :: s75 :: s76 :: s77 :: s78 :: s79 :: s80 :: s81 :: s82 :: s83 :: s84 :: s85 :: s86 :: s87 :: s88 :: s89 :: s90 :: s91 :: s92 :: s93 :: s94 :: s95 :: s96 :: s97 :: s98 :: s99 :: s100 :: s101 :: s102 :: s103 :: s104 :: s105 :: s106 :: s107 :: s108 :: s109 :: s110 :: s111 :: s112 :: s113 :: s114 :: s115 :: s116 :: s117 :: s118 :: s119 :: s120 :: s121 :: s122 :: s123 :: []), []⟩ W0 := by
  have HEX := Lib.hid hexit
  have HQP0 := Lib.hid hqp
  obtain ⟨kI, hi, hz0, hz1, hz2⟩ := info_parts info_napi
  have HQ := Lib.hid hi
  have HQ0 := Lib.hid hz0
  have HQ1 := Lib.hid hz1
  have HQ2 := Lib.hid hz2
  have HS0 := Lib.hid h0
  have HNE := Lib.hid hne
  have HOK0 := Lib.hid hok0
  have HFI0 := Lib.hid hfi0
  clear hexit hqp hi hz0 hz1 hz2 h0 hne hok0 hfi0
  conv => arg 2; whnf
  go_loopg [6] r3 (fun r i wr => ∃ (l2 : List Nt) (vb2 : Value), i = .int .i64 (r : Nat) ∧ l2.length + r = k + r3 ∧ r ≤ r3 ∧ (∀ n ∈ l2, n.Ok ⟨k, es, []⟩) ∧ Firsts_ k l2 ∧ LB w g bd k (.slice Aa ne ca) vb2 (.slice Aa ne ca) es vb2 l2 wr)
  case atStart => exact ⟨l0, _, rfl, by rw [hl0], Nat.le_refl _, HOK0.out, HFI0.out, HS0.out⟩
  case round =>
  clear HS0 HOK0 HFI0
  obtain ⟨l2, vb2, rfl, hlr, hlg, hok2, hfi2, hs⟩ := hrel
  obtain ⟨Bn, bn, rfl⟩ : ∃ A c, vb2 = .slice A l2.length c := by
    obtain ⟨xs, _, h1, _⟩ := hs.no
    exact own_slice h1
  obtain ⟨m, hm⟩ : ∃ m, m = l2.length := ⟨_, rfl⟩
  rw [← hm] at hs hlr
  have HS := Lib.hid hs
  have HM := Lib.hid hm
  have HOKS := Lib.hid hok2
  have HFI := Lib.hid hfi2
  clear hs hm hok2 hfi2
  by_cases h00 : 0 < gk
  case neg =>
    have hg0 : gk = 0 := by omega
    subst hg0
    have hm3 : l2.length ≤ k + 3 := by rw [← HM.out]; omega
    have HM3 := Lib.hid hm3
    clear h00 hm3
    go_wp2_with fail
    exact HEX.out _ _ _ _ _ _ _ _ _ _ _ _ _ _ _ _ _ _ _ _ _ _ _ _ _ _ _ _ _ _ _ _ _ _ _ _ _ _ _ _ _ _ _ _ _ _ _ _ _ _ _ _ _ _ _ _ _ _ _ _ _ _ _ _ _ _ _ _ _ _ _ _ _ _ _ _ l2 _ _ HOKS.out HFI.out HM3.out HS.out
  obtain ⟨g0, hg0⟩ : ∃ g0, g0 = gk - 1 := ⟨_, rfl⟩
  have q0 : IntKind.i64.wrap ((gk : Int) - 1) = (g0 : Int) := by
    have : IntKind.i64.wrap ((gk : Int) - 1) = (gk : Int) - 1 := IntWalk.i64_in _ (by omega)
    omega
  have h0' : (0 : Int) < (gk : Int) := by omega
  have hm6 : m ≤ 6 := by omega
  have hkm : k ≤ m := by omega
  go_wp2_with fail
  refine region_cut (fun a W => ∃ (v54 v55 v56 v57 v58 v59 v60 v61 : Value) (bx kd sn : Nat), a = ⟨List.toArray (Value.pointer (some ⟨g, 0, none⟩) :: s1 :: Value.pointer (some ⟨w.heap.size, 0, none⟩) :: Value.pointer (some ⟨bd, 0, none⟩) :: s4 :: s5 :: Value.int .i64 (gk : Nat) :: Value.pointer (some ⟨bx, 0, none⟩) :: u8 :: s9 :: s10 :: s11 :: s12 :: s13 :: s14 :: s15 :: s16 :: s17 :: s18 :: s19 :: s20 :: s21 :: s22 :: s23 :: s24 :: s25 :: s26 :: s27 :: s28 :: s29 :: s30 :: s31 :: s32 :: s33 :: s34 :: s35 :: s36 :: s37 :: s38 :: s39 :: s40 :: s41 :: s42 :: s43 :: s44 :: s45 :: s46 :: s47 :: s48 :: s49 :: Value.int .i64 (gk : Nat) :: Value.bool true :: u52 :: u53 :: v54 :: v55 :: v56 :: v57 :: v58 :: v59 :: v60 :: v61 :: u62 :: u63 :: u64 :: u65 :: u66 :: u67 :: u68 :: u69 :: u70 :: u71 :: u72 :: u73 :: u74 :: u75 :: u76 :: u77 :: u78 :: u79 :: u80 :: u81 :: u82 :: u83 :: u84 :: u85 :: u86 :: u87 :: u88 :: u89 :: u90 :: u91 :: u92 :: u93 :: u94 :: u95 :: u96 :: u97 :: u98 :: u99 :: u100 :: u101 :: u102 :: u103 :: u104 :: u105 :: u106 :: u107 :: u108 :: u109 :: u110 :: u111 :: u112 :: u113 :: u114 :: u115 :: u116 :: u117 :: u118 :: u119 :: u120 :: u121 :: u122 :: s123 :: []), []⟩ ∧ (kd = 1 ∨ kd = 3 ∨ kd = 4) ∧ sn < k ∧ LX w g bd k (.slice Aa ne ca) (.slice Bn m bn) es l2 bx ⟨kd, sn, 0, [], 0, 0⟩ (.slice none 0 0) W) ?_ ?_
  · skip
    refine wp_region_v [(fun j => j == 1 || j == 2 || j == 5 || j == 6 || j == 7 || j == 8, fun W => W.cell? ⟨bd, 0, none⟩ = some (.int .i64 k))] (by kernel_rfl) ?_
    refine wpAnyV_world (fun W => LB w g bd k (.slice Aa ne ca) (.slice Bn m bn) (.slice Aa ne ca) es (.slice Bn m bn) l2 W) HS.out.drew (fun V hV => ?_)
    have HV := Lib.hid hV
    clear hV
    refine wpAnyV_free (i := 0) (v := ?_) (by simp only [List.getElem?_toArray, List.getElem?_cons_zero]; rfl) (by kernel_rfl) (by kernel_rfl) (by kernel_rfl) (by kernel_rfl) (by exact fun c a w h => ⟨(fun e => absurd e (by simp)), fun e => HQP0.out c a _ _ w (h.2 e)⟩) (Or.inl ⟨by rfl, ?hyd2⟩) (behind_cons (fun h => by simp at h) (fun p hp => by cases hp)) ?restd2
    case hyd2 => (intro W' _; go_simp; try with_reducible rfl)
    try simp only [Act.put, List.setIfInBounds_toArray, List.set_cons_zero, List.set_cons_succ]
    refine wpAnyV_free (i := 3) (v := ?_) (by simp only [List.getElem?_toArray, List.getElem?_cons_zero, List.getElem?_cons_succ]; rfl) (by kernel_rfl) (by kernel_rfl) (by kernel_rfl) (by kernel_rfl) (by exact fun c a w h => ⟨(fun e => absurd e (by simp)), fun e => HQP0.out c a _ _ w (h.2 e)⟩) (Or.inl ⟨by rfl, ?hyd3⟩) (behind_cons (fun h => by simp at h) (fun p hp => by cases hp)) ?restd3
    case hyd3 => (intro W' _; go_simp; try with_reducible rfl)
    try simp only [Act.put, List.setIfInBounds_toArray, List.set_cons_zero, List.set_cons_succ]
    refine wpAnyV_free (i := 4) (v := ?_) (by simp only [List.getElem?_toArray, List.getElem?_cons_zero, List.getElem?_cons_succ]; rfl) (by kernel_rfl) (by kernel_rfl) (by kernel_rfl) (by kernel_rfl) (by exact fun c a w h => ⟨(fun e => absurd e (by simp)), fun e => HQP0.out c a _ _ w (h.2 e)⟩) (Or.inl ⟨by rfl, ?hyd4⟩) (behind_cons (fun h => by simp at h) (fun p hp => by cases hp)) ?restd4
    case hyd4 => (intro W' _; go_simp; try with_reducible rfl)
    try simp only [Act.put, List.setIfInBounds_toArray, List.set_cons_zero, List.set_cons_succ]
    refine wpAnyV_take (i := 5) (m := 0) (v := ?_) (by simp only [List.getElem?_toArray, List.getElem?_cons_zero, List.getElem?_cons_succ]; rfl) (by rfl) (by kernel_rfl) (by kernel_rfl) (by kernel_rfl) (by kernel_rfl) (by exact fun c a w h => ⟨(fun e => absurd e (by simp)), fun e => HQP0.out c a _ _ w (h.2 e)⟩) (Or.inl ⟨by rfl, ?hyd5⟩) ((HV.out.kd.cell 0)) (behind_cons (fun _ => (HV.out.kd.cell 0)) (fun p hp => by cases hp)) ?restd5
    case hyd5 => (intro W' hSW; go_simp; try with_reducible rfl)
    try simp only [Act.put, List.setIfInBounds_toArray, List.set_cons_zero, List.set_cons_succ]
    refine wpAnyV_ready (rs := [1, 8]) (by kernel_rfl) (by simp) ?_
    refine AllReadyV.cons (by simp only [List.getElem?_toArray, List.getElem?_cons_zero, List.getElem?_cons_succ]; rfl) (fun K hK => ?_) (AllReadyV.cons (by simp only [List.getElem?_toArray, List.getElem?_cons_zero, List.getElem?_cons_succ]; rfl) (fun K hK => ?_) AllReadyV.nil)
    · go_simp
      have HC501 := Lib.hid (HV.out.alloc (.cells #[.int .i64 1, .int .i64 3, .int .i64 4] 3))
      have hbn := Blok.new V 3 [.int .i64 1, .int .i64 3, .int .i64 4]
      try rw [World.size_alloc] at hbn
      have HN501 := Lib.hid hbn
      clear hbn
      refine hK.out _ _ (behind_cons (fun _ => (HC501.out.kd.cell 0)) (fun p hp => by cases hp)) ?_
      clear hK K
      try simp only [Act.put, List.setIfInBounds_toArray, List.set_cons_zero, List.set_cons_succ]
      refine wpAnyV_ready (rs := [2, 8]) (by kernel_rfl) (by simp) ?_
      refine AllReadyV.cons (by simp only [List.getElem?_toArray, List.getElem?_cons_zero, List.getElem?_cons_succ]; rfl) (fun K hK => ?_) (AllReadyV.cons (by simp only [List.getElem?_toArray, List.getElem?_cons_zero, List.getElem?_cons_succ]; rfl) (fun K hK => ?_) AllReadyV.nil)
      · go_simp
        go_at_call 28
        refine (any_any _ _ 3 3 3 [1, 3, 4] _ rfl (by simp) (by simp) HN501.out (HC501.out.urn.ne HN501.out (by decide)) HC501.out.urn).mono ?_
        rintro e w502 ⟨kdI, rfl, hkd, hu, hk⟩
        obtain ⟨kd, rfl, hk3⟩ : ∃ kd : Nat, kdI = (kd : Int) ∧ (kd = 1 ∨ kd = 3 ∨ kd = 4) := by
          simp at hkd
          rcases hkd with rfl | rfl | rfl
          · exact ⟨1, rfl, .inl rfl⟩
          · exact ⟨3, rfl, .inr (.inl rfl)⟩
          · exact ⟨4, rfl, .inr (.inr rfl)⟩
        have HK3 := Lib.hid hk3
        clear hkd hk3
        have HC502 := Lib.hid (HC501.out.calls hu hk)
        clear hu hk
        refine hK.out _ _ (behind_cons (fun _ => (HC502.out.kd.cell 0)) (fun p hp => by cases hp)) ?_
        clear hK K
        try simp only [Act.put, List.setIfInBounds_toArray, List.set_cons_zero, List.set_cons_succ]
        refine wpAnyV_ready (rs := [6, 8]) (by kernel_rfl) (by simp) ?_
        refine AllReadyV.cons (by simp only [List.getElem?_toArray, List.getElem?_cons_zero, List.getElem?_cons_succ]; rfl) (fun K hK => ?_) (AllReadyV.cons (by simp only [List.getElem?_toArray, List.getElem?_cons_zero, List.getElem?_cons_succ]; rfl) (fun K hK => ?_) AllReadyV.nil)
        · go_simp
          go_at_call 12
          refine (up_any _ _ _ (by omega) HC502.out.urn).mono ?_
          rintro e w503 ⟨sn, rfl, hsn, hu, hk⟩
          have hsn : sn < k := by omega
          have HC503 := Lib.hid (HC502.out.calls hu hk)
          clear hu hk
          refine hK.out _ _ (behind_cons (fun _ => (HC503.out.kd.cell 0)) (fun p hp => by cases hp)) ?_
          clear hK K
          try simp only [Act.put, List.setIfInBounds_toArray, List.set_cons_zero, List.set_cons_succ]
          refine wpAnyV_free (i := 7) (v := ?_) (by simp only [List.getElem?_toArray, List.getElem?_cons_zero, List.getElem?_cons_succ]; rfl) (by kernel_rfl) (by kernel_rfl) (by kernel_rfl) (by kernel_rfl) (by exact fun c a w h => ⟨(fun e => absurd e (by simp)), fun e => HQP0.out c a _ _ w (h.2 e)⟩) (Or.inl ⟨by rfl, ?hyd9⟩) (behind_cons (fun _ => (HC503.out.kd.cell 0)) (fun p hp => by cases hp)) ?restd9
          case hyd9 => (intro W' _; go_simp; try with_reducible rfl)
          try simp only [Act.put, List.setIfInBounds_toArray, List.set_cons_zero, List.set_cons_succ]
          refine wpAnyV_ready (rs := [8]) (by kernel_rfl) (by simp) ?_
          refine AllReadyV.cons (by simp only [List.getElem?_toArray, List.getElem?_cons_zero, List.getElem?_cons_succ]; rfl) (fun K hK => ?_) AllReadyV.nil
          go_simp
          have hzx : w.heap.size ≤ w503.heap.size := HC503.out.kg.size
          have hnx : ∀ q, (Value.slice Bn m bn).ownBlock = some q → q ≠ w503.heap.size := fun q hq => by
            obtain ⟨_, _, hon, _⟩ := HC503.out.no
            have := (hon.lt q hq).2
            omega
          try rw [World.size_alloc] at hzx hnx
          have HZX := Lib.hid hzx
          have HNX := Lib.hid hnx
          clear hzx hnx
          have HC504 := Lib.hid (HC503.out.alloc (.cells #[.int .i64 0, .int .i64 0, .int .i64 0, .slice none 0 0, .int .i64 0, .int .i64 0] 64))
          have hbx := Blok.new w503 64 [.int .i64 0, .int .i64 0, .int .i64 0, .slice none 0 0, .int .i64 0, .int .i64 0]
          try rw [World.size_alloc] at hbx
          have HX504 := Lib.hid hbx
          clear hbx
          refine hK.out _ _ (behind_cons (fun _ => (HC504.out.kd.cell 0)) (fun p hp => by cases hp)) ?_
          clear hK K
          try simp only [Act.put, List.setIfInBounds_toArray, List.set_cons_zero, List.set_cons_succ]
          refine wpAnyV_ready (rs := [9]) (by kernel_rfl) (by simp) ?_
          refine AllReadyV.cons (by simp only [List.getElem?_toArray, List.getElem?_cons_zero, List.getElem?_cons_succ]; rfl) (fun K hK => ?_) AllReadyV.nil
          obtain ⟨bx, hbx⟩ : ∃ bx, bx = w503.heap.size := ⟨_, rfl⟩
          have HCA := HC504
          have HXA := HX504
          obtain ⟨wq, hwq⟩ : ∃ wq, wq = (w503.alloc (.cells #[.int .i64 0, .int .i64 0, .int .i64 0, .slice none 0 0, .int .i64 0, .int .i64 0] 64)) := ⟨_, rfl⟩
          rw [← hwq] at HCA HXA ⊢
          rw [← hbx] at HXA HZX HNX ⊢
          clear hwq hbx
          have y0 := HXA.out.free 0
          have z0 : wq.cell? ⟨bx, 0, none⟩ = some (.int .i64 0) := HXA.out.cell 0
          have y1 := HXA.out.free 1
          have z1 : wq.cell? ⟨bx, 1, none⟩ = some (.int .i64 0) := HXA.out.cell 1
          have y2 := HXA.out.free 2
          have z2 : wq.cell? ⟨bx, 2, none⟩ = some (.int .i64 0) := HXA.out.cell 2
          have y3 := HXA.out.free 3
          have z3 : wq.cell? ⟨bx, 3, none⟩ = some (.slice none 0 0) := HXA.out.cell 3
          have y4 := HXA.out.free 4
          have z4 : wq.cell? ⟨bx, 4, none⟩ = some (.int .i64 0) := HXA.out.cell 4
          have y5 := HXA.out.free 5
          have z5 : wq.cell? ⟨bx, 5, none⟩ = some (.int .i64 0) := HXA.out.cell 5
          go_simp
          clear y0 z0 y1 z1 y2 z2 y3 z3 y4 z4 y5 z5
          refine hK.out _ _ (behind_cons (fun h => by simp at h) (fun p hp => by cases hp)) ?_
          clear hK K
          try simp only [Act.put, List.setIfInBounds_toArray, List.set_cons_zero, List.set_cons_succ]
          refine wpAnyV_done (by kernel_rfl) ?_ _
          have HXL : Hid (LXN w g bd k (.slice Aa ne ca) (.slice Bn m bn) es l2 bx [.int .i64 0, .int .i64 0, .int .i64 0, .slice none 0 0, .int .i64 0, .int .i64 0] wq) := Lib.hid ⟨HCA.out, HXA.out, HNX.out, HZX.out⟩
          refine ⟨fun _ => ⟨_, _, _, _, _, _, _, _, bx, kd, sn, rfl, HK3.out, hsn, ?_⟩, fun h => absurd rfl h⟩
          exact ((((((HXL.out.putN 0 (.int .i64 kd)).putN 1 (.int .i64 sn)).putN 2 (.int .i64 0)).putN 3 (.slice none 0 0)).putN 4 (.int .i64 0)).putN 5 (.int .i64 0)).note (x := ⟨kd, sn, 0, [], 0, 0⟩) (vy := .slice none 0 0) rfl (World.ownsRow_nil _ _ _ _)
        · go_simp
          have hzx : w.heap.size ≤ w502.heap.size := HC502.out.kg.size
          have hnx : ∀ q, (Value.slice Bn m bn).ownBlock = some q → q ≠ w502.heap.size := fun q hq => by
            obtain ⟨_, _, hon, _⟩ := HC502.out.no
            have := (hon.lt q hq).2
            omega
          try rw [World.size_alloc] at hzx hnx
          have HZX := Lib.hid hzx
          have HNX := Lib.hid hnx
          clear hzx hnx
          have HC506 := Lib.hid (HC502.out.alloc (.cells #[.int .i64 0, .int .i64 0, .int .i64 0, .slice none 0 0, .int .i64 0, .int .i64 0] 64))
          have hbx := Blok.new w502 64 [.int .i64 0, .int .i64 0, .int .i64 0, .slice none 0 0, .int .i64 0, .int .i64 0]
          try rw [World.size_alloc] at hbx
          have HX506 := Lib.hid hbx
          clear hbx
          refine hK.out _ _ (behind_cons (fun _ => (HC506.out.kd.cell 0)) (fun p hp => by cases hp)) ?_
          clear hK K
          try simp only [Act.put, List.setIfInBounds_toArray, List.set_cons_zero, List.set_cons_succ]
          refine wpAnyV_ready (rs := [6]) (by kernel_rfl) (by simp) ?_
          refine AllReadyV.cons (by simp only [List.getElem?_toArray, List.getElem?_cons_zero, List.getElem?_cons_succ]; rfl) (fun K hK => ?_) AllReadyV.nil
          go_simp
          go_at_call 12
          refine (up_any _ _ _ (by omega) HC506.out.urn).mono ?_
          rintro e w507 ⟨sn, rfl, hsn, hu, hk⟩
          have hsn : sn < k := by omega
          have HC507 := Lib.hid (HC506.out.calls hu hk)
          have HX507 := Lib.hid (HX506.out.kg hk (HC506.out.urn.ne HX506.out (by decide)))
          clear hu hk
          refine hK.out _ _ (behind_cons (fun _ => (HC507.out.kd.cell 0)) (fun p hp => by cases hp)) ?_
          clear hK K
          try simp only [Act.put, List.setIfInBounds_toArray, List.set_cons_zero, List.set_cons_succ]
          refine wpAnyV_free (i := 7) (v := ?_) (by simp only [List.getElem?_toArray, List.getElem?_cons_zero, List.getElem?_cons_succ]; rfl) (by kernel_rfl) (by kernel_rfl) (by kernel_rfl) (by kernel_rfl) (by exact fun c a w h => ⟨(fun e => absurd e (by simp)), fun e => HQP0.out c a _ _ w (h.2 e)⟩) (Or.inl ⟨by rfl, ?hyd14⟩) (behind_cons (fun _ => (HC507.out.kd.cell 0)) (fun p hp => by cases hp)) ?restd14
          case hyd14 => (intro W' _; go_simp; try with_reducible rfl)
          try simp only [Act.put, List.setIfInBounds_toArray, List.set_cons_zero, List.set_cons_succ]
          refine wpAnyV_ready (rs := [9]) (by kernel_rfl) (by simp) ?_
          refine AllReadyV.cons (by simp only [List.getElem?_toArray, List.getElem?_cons_zero, List.getElem?_cons_succ]; rfl) (fun K hK => ?_) AllReadyV.nil
          obtain ⟨bx, hbx⟩ : ∃ bx, bx = w502.heap.size := ⟨_, rfl⟩
          have HCA := HC507
          have HXA := HX507
          obtain ⟨wq, hwq⟩ : ∃ wq, wq = w507 := ⟨_, rfl⟩
          rw [← hwq] at HCA HXA ⊢
          rw [← hbx] at HXA HZX HNX ⊢
          clear hwq hbx
          have y0 := HXA.out.free 0
          have z0 : wq.cell? ⟨bx, 0, none⟩ = some (.int .i64 0) := HXA.out.cell 0
          have y1 := HXA.out.free 1
          have z1 : wq.cell? ⟨bx, 1, none⟩ = some (.int .i64 0) := HXA.out.cell 1
          have y2 := HXA.out.free 2
          have z2 : wq.cell? ⟨bx, 2, none⟩ = some (.int .i64 0) := HXA.out.cell 2
          have y3 := HXA.out.free 3
          have z3 : wq.cell? ⟨bx, 3, none⟩ = some (.slice none 0 0) := HXA.out.cell 3
          have y4 := HXA.out.free 4
          have z4 : wq.cell? ⟨bx, 4, none⟩ = some (.int .i64 0) := HXA.out.cell 4
          have y5 := HXA.out.free 5
          have z5 : wq.cell? ⟨bx, 5, none⟩ = some (.int .i64 0) := HXA.out.cell 5
          go_simp
          clear y0 z0 y1 z1 y2 z2 y3 z3 y4 z4 y5 z5
          refine hK.out _ _ (behind_cons (fun h => by simp at h) (fun p hp => by cases hp)) ?_
          clear hK K
          try simp only [Act.put, List.setIfInBounds_toArray, List.set_cons_zero, List.set_cons_succ]
          refine wpAnyV_done (by kernel_rfl) ?_ _
          have HXL : Hid (LXN w g bd k (.slice Aa ne ca) (.slice Bn m bn) es l2 bx [.int .i64 0, .int .i64 0, .int .i64 0, .slice none 0 0, .int .i64 0, .int .i64 0] wq) := Lib.hid ⟨HCA.out, HXA.out, HNX.out, HZX.out⟩
          refine ⟨fun _ => ⟨_, _, _, _, _, _, _, _, bx, kd, sn, rfl, HK3.out, hsn, ?_⟩, fun h => absurd rfl h⟩
          exact ((((((HXL.out.putN 0 (.int .i64 kd)).putN 1 (.int .i64 sn)).putN 2 (.int .i64 0)).putN 3 (.slice none 0 0)).putN 4 (.int .i64 0)).putN 5 (.int .i64 0)).note (x := ⟨kd, sn, 0, [], 0, 0⟩) (vy := .slice none 0 0) rfl (World.ownsRow_nil _ _ _ _)
      · go_simp
        have hzx : w.heap.size ≤ (V.alloc (.cells #[.int .i64 1, .int .i64 3, .int .i64 4] 3)).heap.size := HC501.out.kg.size
        have hnx : ∀ q, (Value.slice Bn m bn).ownBlock = some q → q ≠ (V.alloc (.cells #[.int .i64 1, .int .i64 3, .int .i64 4] 3)).heap.size := fun q hq => by
          obtain ⟨_, _, hon, _⟩ := HC501.out.no
          have := (hon.lt q hq).2
          omega
        try rw [World.size_alloc] at hzx hnx
        have HZX := Lib.hid hzx
        have HNX := Lib.hid hnx
        clear hzx hnx
        have HC509 := Lib.hid (HC501.out.alloc (.cells #[.int .i64 0, .int .i64 0, .int .i64 0, .slice none 0 0, .int .i64 0, .int .i64 0] 64))
        have hbx := Blok.new (V.alloc (.cells #[.int .i64 1, .int .i64 3, .int .i64 4] 3)) 64 [.int .i64 0, .int .i64 0, .int .i64 0, .slice none 0 0, .int .i64 0, .int .i64 0]
        try rw [World.size_alloc] at hbx
        have HX509 := Lib.hid hbx
        clear hbx
        have HB509 := Lib.hid (HN501.out.alloc (.cells #[.int .i64 0, .int .i64 0, .int .i64 0, .slice none 0 0, .int .i64 0, .int .i64 0] 64))
        refine hK.out _ _ (behind_cons (fun _ => (HC509.out.kd.cell 0)) (fun p hp => by cases hp)) ?_
        clear hK K
        try simp only [Act.put, List.setIfInBounds_toArray, List.set_cons_zero, List.set_cons_succ]
        refine wpAnyV_ready (rs := [2]) (by kernel_rfl) (by simp) ?_
        refine AllReadyV.cons (by simp only [List.getElem?_toArray, List.getElem?_cons_zero, List.getElem?_cons_succ]; rfl) (fun K hK => ?_) AllReadyV.nil
        go_simp
        go_at_call 28
        refine (any_any _ _ 3 3 3 [1, 3, 4] _ rfl (by simp) (by simp) HB509.out (HC509.out.urn.ne HB509.out (by decide)) HC509.out.urn).mono ?_
        rintro e w510 ⟨kdI, rfl, hkd, hu, hk⟩
        obtain ⟨kd, rfl, hk3⟩ : ∃ kd : Nat, kdI = (kd : Int) ∧ (kd = 1 ∨ kd = 3 ∨ kd = 4) := by
          simp at hkd
          rcases hkd with rfl | rfl | rfl
          · exact ⟨1, rfl, .inl rfl⟩
          · exact ⟨3, rfl, .inr (.inl rfl)⟩
          · exact ⟨4, rfl, .inr (.inr rfl)⟩
        have HK3 := Lib.hid hk3
        clear hkd hk3
        have HC510 := Lib.hid (HC509.out.calls hu hk)
        have HX510 := Lib.hid (HX509.out.kg hk (HC509.out.urn.ne HX509.out (by decide)))
        clear hu hk
        refine hK.out _ _ (behind_cons (fun _ => (HC510.out.kd.cell 0)) (fun p hp => by cases hp)) ?_
        clear hK K
        try simp only [Act.put, List.setIfInBounds_toArray, List.set_cons_zero, List.set_cons_succ]
        refine wpAnyV_ready (rs := [6]) (by kernel_rfl) (by simp) ?_
        refine AllReadyV.cons (by simp only [List.getElem?_toArray, List.getElem?_cons_zero, List.getElem?_cons_succ]; rfl) (fun K hK => ?_) AllReadyV.nil
        go_simp
        go_at_call 12
        refine (up_any _ _ _ (by omega) HC510.out.urn).mono ?_
        rintro e w511 ⟨sn, rfl, hsn, hu, hk⟩
        have hsn : sn < k := by omega
        have HC511 := Lib.hid (HC510.out.calls hu hk)
        have HX511 := Lib.hid (HX510.out.kg hk (HC510.out.urn.ne HX510.out (by decide)))
        clear hu hk
        refine hK.out _ _ (behind_cons (fun _ => (HC511.out.kd.cell 0)) (fun p hp => by cases hp)) ?_
        clear hK K
        try simp only [Act.put, List.setIfInBounds_toArray, List.set_cons_zero, List.set_cons_succ]
        refine wpAnyV_free (i := 7) (v := ?_) (by simp only [List.getElem?_toArray, List.getElem?_cons_zero, List.getElem?_cons_succ]; rfl) (by kernel_rfl) (by kernel_rfl) (by kernel_rfl) (by kernel_rfl) (by exact fun c a w h => ⟨(fun e => absurd e (by simp)), fun e => HQP0.out c a _ _ w (h.2 e)⟩) (Or.inl ⟨by rfl, ?hyd19⟩) (behind_cons (fun _ => (HC511.out.kd.cell 0)) (fun p hp => by cases hp)) ?restd19
        case hyd19 => (intro W' _; go_simp; try with_reducible rfl)
        try simp only [Act.put, List.setIfInBounds_toArray, List.set_cons_zero, List.set_cons_succ]
        refine wpAnyV_ready (rs := [9]) (by kernel_rfl) (by simp) ?_
        refine AllReadyV.cons (by simp only [List.getElem?_toArray, List.getElem?_cons_zero, List.getElem?_cons_succ]; rfl) (fun K hK => ?_) AllReadyV.nil
        obtain ⟨bx, hbx⟩ : ∃ bx, bx = V.heap.size + 1 := ⟨_, rfl⟩
        have HCA := HC511
        have HXA := HX511
        obtain ⟨wq, hwq⟩ : ∃ wq, wq = w511 := ⟨_, rfl⟩
        rw [← hwq] at HCA HXA ⊢
        rw [← hbx] at HXA HZX HNX ⊢
        clear hwq hbx
        have y0 := HXA.out.free 0
        have z0 : wq.cell? ⟨bx, 0, none⟩ = some (.int .i64 0) := HXA.out.cell 0
        have y1 := HXA.out.free 1
        have z1 : wq.cell? ⟨bx, 1, none⟩ = some (.int .i64 0) := HXA.out.cell 1
        have y2 := HXA.out.free 2
        have z2 : wq.cell? ⟨bx, 2, none⟩ = some (.int .i64 0) := HXA.out.cell 2
        have y3 := HXA.out.free 3
        have z3 : wq.cell? ⟨bx, 3, none⟩ = some (.slice none 0 0) := HXA.out.cell 3
        have y4 := HXA.out.free 4
        have z4 : wq.cell? ⟨bx, 4, none⟩ = some (.int .i64 0) := HXA.out.cell 4
        have y5 := HXA.out.free 5
        have z5 : wq.cell? ⟨bx, 5, none⟩ = some (.int .i64 0) := HXA.out.cell 5
        go_simp
        clear y0 z0 y1 z1 y2 z2 y3 z3 y4 z4 y5 z5
        refine hK.out _ _ (behind_cons (fun h => by simp at h) (fun p hp => by cases hp)) ?_
        clear hK K
        try simp only [Act.put, List.setIfInBounds_toArray, List.set_cons_zero, List.set_cons_succ]
        refine wpAnyV_done (by kernel_rfl) ?_ _
        have HXL : Hid (LXN w g bd k (.slice Aa ne ca) (.slice Bn m bn) es l2 bx [.int .i64 0, .int .i64 0, .int .i64 0, .slice none 0 0, .int .i64 0, .int .i64 0] wq) := Lib.hid ⟨HCA.out, HXA.out, HNX.out, HZX.out⟩
        refine ⟨fun _ => ⟨_, _, _, _, _, _, _, _, bx, kd, sn, rfl, HK3.out, hsn, ?_⟩, fun h => absurd rfl h⟩
        exact ((((((HXL.out.putN 0 (.int .i64 kd)).putN 1 (.int .i64 sn)).putN 2 (.int .i64 0)).putN 3 (.slice none 0 0)).putN 4 (.int .i64 0)).putN 5 (.int .i64 0)).note (x := ⟨kd, sn, 0, [], 0, 0⟩) (vy := .slice none 0 0) rfl (World.ownsRow_nil _ _ _ _)
    · go_simp
      have hzx : w.heap.size ≤ V.heap.size := HV.out.kg.size
      have hnx : ∀ q, (Value.slice Bn m bn).ownBlock = some q → q ≠ V.heap.size := fun q hq => by
        obtain ⟨_, _, hon, _⟩ := HV.out.no
        have := (hon.lt q hq).2
        omega
      try rw [World.size_alloc] at hzx hnx
      have HZX := Lib.hid hzx
      have HNX := Lib.hid hnx
      clear hzx hnx
      have HC513 := Lib.hid (HV.out.alloc (.cells #[.int .i64 0, .int .i64 0, .int .i64 0, .slice none 0 0, .int .i64 0, .int .i64 0] 64))
      have hbx := Blok.new V 64 [.int .i64 0, .int .i64 0, .int .i64 0, .slice none 0 0, .int .i64 0, .int .i64 0]
      try rw [World.size_alloc] at hbx
      have HX513 := Lib.hid hbx
      clear hbx
      refine hK.out _ _ (behind_cons (fun _ => (HC513.out.kd.cell 0)) (fun p hp => by cases hp)) ?_
      clear hK K
      try simp only [Act.put, List.setIfInBounds_toArray, List.set_cons_zero, List.set_cons_succ]
      refine wpAnyV_ready (rs := [1]) (by kernel_rfl) (by simp) ?_
      refine AllReadyV.cons (by simp only [List.getElem?_toArray, List.getElem?_cons_zero, List.getElem?_cons_succ]; rfl) (fun K hK => ?_) AllReadyV.nil
      go_simp
      have HC514 := Lib.hid (HC513.out.alloc (.cells #[.int .i64 1, .int .i64 3, .int .i64 4] 3))
      have hbn := Blok.new (V.alloc (.cells #[.int .i64 0, .int .i64 0, .int .i64 0, .slice none 0 0, .int .i64 0, .int .i64 0] 64)) 3 [.int .i64 1, .int .i64 3, .int .i64 4]
      try rw [World.size_alloc] at hbn
      have HN514 := Lib.hid hbn
      clear hbn
      have HX514 := Lib.hid (HX513.out.alloc (.cells #[.int .i64 1, .int .i64 3, .int .i64 4] 3))
      refine hK.out _ _ (behind_cons (fun _ => (HC514.out.kd.cell 0)) (fun p hp => by cases hp)) ?_
      clear hK K
      try simp only [Act.put, List.setIfInBounds_toArray, List.set_cons_zero, List.set_cons_succ]
      refine wpAnyV_ready (rs := [2]) (by kernel_rfl) (by simp) ?_
      refine AllReadyV.cons (by simp only [List.getElem?_toArray, List.getElem?_cons_zero, List.getElem?_cons_succ]; rfl) (fun K hK => ?_) AllReadyV.nil
      go_simp
      go_at_call 28
      refine (any_any _ _ 3 3 3 [1, 3, 4] _ rfl (by simp) (by simp) HN514.out (HC514.out.urn.ne HN514.out (by decide)) HC514.out.urn).mono ?_
      rintro e w515 ⟨kdI, rfl, hkd, hu, hk⟩
      obtain ⟨kd, rfl, hk3⟩ : ∃ kd : Nat, kdI = (kd : Int) ∧ (kd = 1 ∨ kd = 3 ∨ kd = 4) := by
        simp at hkd
        rcases hkd with rfl | rfl | rfl
        · exact ⟨1, rfl, .inl rfl⟩
        · exact ⟨3, rfl, .inr (.inl rfl)⟩
        · exact ⟨4, rfl, .inr (.inr rfl)⟩
      have HK3 := Lib.hid hk3
      clear hkd hk3
      have HC515 := Lib.hid (HC514.out.calls hu hk)
      have HX515 := Lib.hid (HX514.out.kg hk (HC514.out.urn.ne HX514.out (by decide)))
      clear hu hk
      refine hK.out _ _ (behind_cons (fun _ => (HC515.out.kd.cell 0)) (fun p hp => by cases hp)) ?_
      clear hK K
      try simp only [Act.put, List.setIfInBounds_toArray, List.set_cons_zero, List.set_cons_succ]
      refine wpAnyV_ready (rs := [6]) (by kernel_rfl) (by simp) ?_
      refine AllReadyV.cons (by simp only [List.getElem?_toArray, List.getElem?_cons_zero, List.getElem?_cons_succ]; rfl) (fun K hK => ?_) AllReadyV.nil
      go_simp
      go_at_call 12
      refine (up_any _ _ _ (by omega) HC515.out.urn).mono ?_
      rintro e w516 ⟨sn, rfl, hsn, hu, hk⟩
      have hsn : sn < k := by omega
      have HC516 := Lib.hid (HC515.out.calls hu hk)
      have HX516 := Lib.hid (HX515.out.kg hk (HC515.out.urn.ne HX515.out (by decide)))
      clear hu hk
      refine hK.out _ _ (behind_cons (fun _ => (HC516.out.kd.cell 0)) (fun p hp => by cases hp)) ?_
      clear hK K
      try simp only [Act.put, List.setIfInBounds_toArray, List.set_cons_zero, List.set_cons_succ]
      refine wpAnyV_free (i := 7) (v := ?_) (by simp only [List.getElem?_toArray, List.getElem?_cons_zero, List.getElem?_cons_succ]; rfl) (by kernel_rfl) (by kernel_rfl) (by kernel_rfl) (by kernel_rfl) (by exact fun c a w h => ⟨(fun e => absurd e (by simp)), fun e => HQP0.out c a _ _ w (h.2 e)⟩) (Or.inl ⟨by rfl, ?hyd25⟩) (behind_cons (fun _ => (HC516.out.kd.cell 0)) (fun p hp => by cases hp)) ?restd25
      case hyd25 => (intro W' _; go_simp; try with_reducible rfl)
      try simp only [Act.put, List.setIfInBounds_toArray, List.set_cons_zero, List.set_cons_succ]
      refine wpAnyV_ready (rs := [9]) (by kernel_rfl) (by simp) ?_
      refine AllReadyV.cons (by simp only [List.getElem?_toArray, List.getElem?_cons_zero, List.getElem?_cons_succ]; rfl) (fun K hK => ?_) AllReadyV.nil
      obtain ⟨bx, hbx⟩ : ∃ bx, bx = V.heap.size := ⟨_, rfl⟩
      have HCA := HC516
      have HXA := HX516
      obtain ⟨wq, hwq⟩ : ∃ wq, wq = w516 := ⟨_, rfl⟩
      rw [← hwq] at HCA HXA ⊢
      rw [← hbx] at HXA HZX HNX ⊢
      clear hwq hbx
      have y0 := HXA.out.free 0
      have z0 : wq.cell? ⟨bx, 0, none⟩ = some (.int .i64 0) := HXA.out.cell 0
      have y1 := HXA.out.free 1
      have z1 : wq.cell? ⟨bx, 1, none⟩ = some (.int .i64 0) := HXA.out.cell 1
      have y2 := HXA.out.free 2
      have z2 : wq.cell? ⟨bx, 2, none⟩ = some (.int .i64 0) := HXA.out.cell 2
      have y3 := HXA.out.free 3
      have z3 : wq.cell? ⟨bx, 3, none⟩ = some (.slice none 0 0) := HXA.out.cell 3
      have y4 := HXA.out.free 4
      have z4 : wq.cell? ⟨bx, 4, none⟩ = some (.int .i64 0) := HXA.out.cell 4
      have y5 := HXA.out.free 5
      have z5 : wq.cell? ⟨bx, 5, none⟩ = some (.int .i64 0) := HXA.out.cell 5
      go_simp
      clear y0 z0 y1 z1 y2 z2 y3 z3 y4 z4 y5 z5
      refine hK.out _ _ (behind_cons (fun h => by simp at h) (fun p hp => by cases hp)) ?_
      clear hK K
      try simp only [Act.put, List.setIfInBounds_toArray, List.set_cons_zero, List.set_cons_succ]
      refine wpAnyV_done (by kernel_rfl) ?_ _
      have HXL : Hid (LXN w g bd k (.slice Aa ne ca) (.slice Bn m bn) es l2 bx [.int .i64 0, .int .i64 0, .int .i64 0, .slice none 0 0, .int .i64 0, .int .i64 0] wq) := Lib.hid ⟨HCA.out, HXA.out, HNX.out, HZX.out⟩
      refine ⟨fun _ => ⟨_, _, _, _, _, _, _, _, bx, kd, sn, rfl, HK3.out, hsn, ?_⟩, fun h => absurd rfl h⟩
      exact ((((((HXL.out.putN 0 (.int .i64 kd)).putN 1 (.int .i64 sn)).putN 2 (.int .i64 0)).putN 3 (.slice none 0 0)).putN 4 (.int .i64 0)).putN 5 (.int .i64 0)).note (x := ⟨kd, sn, 0, [], 0, 0⟩) (vy := .slice none 0 0) rfl (World.ownsRow_nil _ _ _ _)

  · rintro a W ⟨v54, v55, v56, v57, v58, v59, v60, v61, bx, kd, sn, rfl, hkd, hsn, hx⟩
    have HX := Lib.hid hx
    have d0 := HX.out.lb.kd.cell 0
    simp at d0
    clear hx HS
    go_wp2_with fail
    refine (up_any _ _ _ (by omega) HX.out.lb.urn).mono ?_
    rintro e w1 ⟨ot, rfl, hot, hu, hk⟩
    have hot : ot < k := by omega
    have HX1 := Lib.hid (HX.out.calls hu hk)
    have n2 := HX1.out.nb.cell 2
    have fr2 := HX1.out.nb.free 2
    simp [ntL] at n2
    clear hu hk d0 HX
    go_upto_region 22 with fail
    obtain ⟨w2, hw2⟩ : ∃ w2, w2 = w1.setCell ⟨bx, 2, none⟩ (.int .i64 ot) := ⟨_, rfl⟩
    have hx2 : LX w g bd k (.slice Aa ne ca) (.slice Bn m bn) es l2 bx ⟨kd, sn, ot, [], 0, 0⟩ (.slice none 0 0) w2 := by
      rw [hw2]
      exact (HX1.out.raw.putN 2 (.int .i64 ot)).note (x := ⟨kd, sn, ot, [], 0, 0⟩) rfl HX1.out.yr.nil
    rw [← hw2]
    have HX2 := Lib.hid hx2
    clear hw2 hx2 n2 fr2 HX1
    rcases hkd with rfl | rfl | rfl
    · skip
      have n0 := HX2.out.nb.cell 0
      have n1 := HX2.out.nb.cell 1
      have n2 := HX2.out.nb.cell 2
      have d1 := HX2.out.lb.kd.cell 1
      have fr0 := HX2.out.nb.free 0
      have fr2 := HX2.out.nb.free 2
      simp [ntL] at n0 n1 n2 d1
      go_upto_region 18 with fail
      obtain ⟨w3, hw3⟩ : ∃ w3, w3 = (w2.setCell ⟨bx, 0, none⟩ (.int .i64 1)).setCell ⟨bx, 2, none⟩ (.int .i64 0) := ⟨_, rfl⟩
      have hx3 : LX w g bd k (.slice Aa ne ca) (.slice Bn m bn) es l2 bx ⟨1, sn, 0, [], 0, 0⟩ (.slice none 0 0) w3 := by
        rw [hw3]
        exact ((HX2.out.raw.putN 0 (.int .i64 1)).putN 2 (.int .i64 0)).note (x := ⟨1, sn, 0, [], 0, 0⟩) rfl HX2.out.yr.nil
      rw [← hw3]
      have HX3 := Lib.hid hx3
      clear hw3 hx3 n0 n1 n2 d1 fr0 fr2 HX2
      go_wp2_with fail
      refine (up_any _ _ _ (by omega) HX3.out.lb.urn).mono ?_
      rintro e w4 ⟨k0, rfl, hk0, hu, hk⟩
      have hk0 : k0 ≤ 2 := by omega
      have HX4 := Lib.hid (HX3.out.calls hu hk)
      clear hu hk HX3
      go_wp2_with fail
      refine lyears g bx w4 ⟨1, sn, 0, [], 0, 0⟩ k0 hk0 _ _ _ _ _ _ _ _ _ _ _ _ _ _ _ _ _ _ _ _ _ _ _ _ _ _ _ _ _ _ _ _ _ _ _ _ _ _ _ _ _ _ _ _ _ _ _ _ _ _ _ _ _ _ _ _ _ _ _ _ _ _ _ _ _ _ _ _ _ _ _ _ _ _ _ _ _ _ _ _ _ _ _ _ _ _ _ _ _ _ _ _ _ _ _ _ _ _ _ _ _ _ _ _ _ _ _ _ _ _ _ _ _ _ _ _ _ _ _ _ _ _ ⟨HX4.out.lb.urn, Keep.refl _ _, HX4.out.nb, World.ownsRow_nil _ _ _ _⟩ ?_
      intro _ _ _ _ _ _ _ _ _ _ _ _ _ _ _ _ _ _ _ vy ys w5 hy h1 h3 hall hup
      obtain ⟨Ay, cy, rfl⟩ := own_slice hy.yr
      have hx5 : LX w g bd k (.slice Aa ne ca) (.slice Bn m bn) es l2 bx ⟨1, sn, 0, ys, 0, 0⟩ (.slice Ay ys.length cy) w5 := ⟨HX4.out.lb.keep2 HX4.out.nb HX4.out.ne HX4.out.ge hy.urn hy.kp, hy.nb, HX4.out.ne, HX4.out.ge, own_base hy.yr HX4.out.lb.kg.size⟩
      have HX5 := Lib.hid hx5
      have HOK := Lib.hid (lyears_ok (es := es) hsn h1 h3 hall hup)
      clear hy h1 h3 hall hup hx5 HX4
      obtain ⟨xs9, hxs, hon, hyr⟩ := HX5.out.lb.no
      rw [← HM.out] at hon
      have HXS := Lib.hid hxs
      have HON := Lib.hid hon
      have HYR := Lib.hid hyr
      have d2 := HX5.out.lb.kd.cell 2
      have n0 := HX5.out.nb.cell 0
      have n1 := HX5.out.nb.cell 1
      have n2 := HX5.out.nb.cell 2
      have n3 := HX5.out.nb.cell 3
      have n4 := HX5.out.nb.cell 4
      have n5 := HX5.out.nb.cell 5
      simp [ntL] at d2 n0 n1 n2 n3 n4 n5
      have hbdl := HX5.out.lb.kd.size
      have hbxl := HX5.out.nb.size
      clear hxs hon hyr
      go_wp2_with (at_builtin; refine wpList_append_lies _ rfl _ _ 26 rfl w.heap.size 64 kI _ 6 64 Tryz.underlying26 HQ.out HQ0.out HQ1.out HQ2.out rfl (by decide) (.slice Bn m bn) m (cellsN xs9) (by rfl) (HON.out.alloc _) ⟨w5.heap.size, 0, none⟩ 1 1 [.int .i64 1, .int .i64 sn, .int .i64 0, .slice Ay ys.length cy, .int .i64 0, .int .i64 0] (by rfl) (by rfl) (World.news_of_block (cs := #[.int .i64 1, .int .i64 sn, .int .i64 0, .slice Ay ys.length cy, .int .i64 0, .int .i64 0]) (t := 64) (fr := (0, 0)) (heap_alloc_new w5 _)) (by simp [Value.oneCell']) (by omega) (by unfold maxLen; omega) (by omega) (by have := HX5.out.lb.kg.size; simp; omega) _ rfl ?_; intro g8 c8 w8 hown8 hgrow8 hat8 hlt8; have h8 := (HX5.out.lb.alloc (.cells #[.int .i64 1, .int .i64 sn, .int .i64 0, .slice Ay ys.length cy, .int .i64 0, .int .i64 0] 64)).note (x := ⟨1, sn, 0, ys, 0, 0⟩) (vy := (.slice Ay ys.length cy)) HXS.out (by rw [← HM.out]; exact HON.out.alloc _) (fun p hp => (HYR.out p hp).alloc _) hgrow8 (by rw [← HM.out]; exact hown8) (HX5.out.yr.alloc _); have H8 := Lib.hid h8; have q2 := h8.kd.cell 2; have f2 := h8.kd.free 2; simp at q2; clear hown8 hgrow8 hat8 hlt8 h8)
      have HEND := Lib.hid (H8.out.put (i := 2) (u := .slice (some ⟨g8, 0, none⟩) (m + 1) c8) (c1 := .slice Aa ne ca) (c2 := .slice (some ⟨g8, 0, none⟩) (m + 1) c8) rfl)
      have HXOK := Lib.hid HOK.out
      clear H8 q2 f2
      go_wp2_with fail
      go_roundg (gk - 1)
      case measure => omega
      case rel => exact ⟨l2 ++ [⟨1, sn, 0, ys, 0, 0⟩], _, by rw [← hg0], by rw [List.length_append, ← HM.out]; simp; omega, by omega, fun n hn => (List.mem_append.1 hn).elim (HOKS.out n) (fun h => by rw [List.mem_singleton.1 h]; exact HXOK.out), HFI.out.more (by rw [← HM.out]; omega) _, HEND.out⟩
    · by_cases hn0 : 0 < ne
      · have hn0' : (0 : Int) < (ne : Int) := by omega
        have n0 := HX2.out.nb.cell 0
        have n1 := HX2.out.nb.cell 1
        have n2 := HX2.out.nb.cell 2
        have d1 := HX2.out.lb.kd.cell 1
        have fr0 := HX2.out.nb.free 0
        have fr2 := HX2.out.nb.free 2
        simp [ntL] at n0 n1 n2 d1
        go_wp2_with fail
        clear n0 n1 n2 d1 fr0 fr2
        refine (urnSpan_any g (1) 8 _ (by omega) (by omega) (by omega) HX2.out.lb.urn).mono ?_
        rintro e w3 ⟨a, b, rfl, a1, a2, a3, hu, hk⟩
        have HX3 := Lib.hid (HX2.out.calls hu hk)
        have fr2 := HX3.out.nb.free 2
        have n2 := HX3.out.nb.cell 2
        have fr4 := HX3.out.nb.free 4
        have fr5 := HX3.out.nb.free 5
        have n4 := HX3.out.nb.cell 4
        have n5 := HX3.out.nb.cell 5
        simp [ntL] at n4 n5 n2
        clear hu hk HX2
        go_upto_region 26 with fail
        obtain ⟨w4, hw4⟩ : ∃ w4, w4 = ((w3.setCell ⟨bx, 2, none⟩ (.int .i64 0)).setCell ⟨bx, 4, none⟩ (.int .i64 a)).setCell ⟨bx, 5, none⟩ (.int .i64 b) := ⟨_, rfl⟩
        have hx4 : LX w g bd k (.slice Aa ne ca) (.slice Bn m bn) es l2 bx ⟨3, sn, 0, [], a, b⟩ (.slice none 0 0) w4 := by
          rw [hw4]
          exact ((HX3.out.raw.putN 2 (.int .i64 0)).putN 4 (.int .i64 a) |>.putN 5 (.int .i64 b)).note (x := ⟨3, sn, 0, [], a, b⟩) rfl HX3.out.yr.nil
        rw [← hw4]
        have HX4 := Lib.hid hx4
        clear hw4 hx4 fr4 fr5 n4 n5 n2 fr2 HX3
        obtain ⟨xs9, hxs, hon, hyr⟩ := HX4.out.lb.no
        rw [← HM.out] at hon
        have HXS := Lib.hid hxs
        have HON := Lib.hid hon
        have HYR := Lib.hid hyr
        have d2 := HX4.out.lb.kd.cell 2
        have n0 := HX4.out.nb.cell 0
        have n1 := HX4.out.nb.cell 1
        have n2 := HX4.out.nb.cell 2
        have n3 := HX4.out.nb.cell 3
        have n4 := HX4.out.nb.cell 4
        have n5 := HX4.out.nb.cell 5
        simp [ntL] at d2 n0 n1 n2 n3 n4 n5
        have hbdl := HX4.out.lb.kd.size
        have hbxl := HX4.out.nb.size
        clear hxs hon hyr
        go_wp2_with (at_builtin; refine wpList_append_lies _ rfl _ _ 26 rfl w.heap.size 64 kI _ 6 64 Tryz.underlying26 HQ.out HQ0.out HQ1.out HQ2.out rfl (by decide) (.slice Bn m bn) m (cellsN xs9) (by rfl) (HON.out.alloc _) ⟨w4.heap.size, 0, none⟩ 1 1 [.int .i64 3, .int .i64 sn, .int .i64 0, .slice none 0 0, .int .i64 a, .int .i64 b] (by rfl) (by rfl) (World.news_of_block (cs := #[.int .i64 3, .int .i64 sn, .int .i64 0, .slice none 0 0, .int .i64 a, .int .i64 b]) (t := 64) (fr := (0, 0)) (heap_alloc_new w4 _)) (by simp [Value.oneCell']) (by omega) (by unfold maxLen; omega) (by omega) (by have := HX4.out.lb.kg.size; simp; omega) _ rfl ?_; intro g8 c8 w8 hown8 hgrow8 hat8 hlt8; have h8 := (HX4.out.lb.alloc (.cells #[.int .i64 3, .int .i64 sn, .int .i64 0, .slice none 0 0, .int .i64 a, .int .i64 b] 64)).note (x := ⟨3, sn, 0, [], a, b⟩) (vy := (.slice none 0 0)) HXS.out (by rw [← HM.out]; exact HON.out.alloc _) (fun p hp => (HYR.out p hp).alloc _) hgrow8 (by rw [← HM.out]; exact hown8) (HX4.out.yr.alloc _); have H8 := Lib.hid h8; have q2 := h8.kd.cell 2; have f2 := h8.kd.free 2; simp at q2; clear hown8 hgrow8 hat8 hlt8 h8)
        have HEND := Lib.hid (H8.out.put (i := 2) (u := .slice (some ⟨g8, 0, none⟩) (m + 1) c8) (c1 := .slice Aa ne ca) (c2 := .slice (some ⟨g8, 0, none⟩) (m + 1) c8) rfl)
        have HXOK := Lib.hid (era_ok hsn (by rw [← HNE.out]; exact hn0) a1 a2 a3)
        clear H8 q2 f2
        go_wp2_with fail
        go_roundg (gk - 1)
        case measure => omega
        case rel => exact ⟨l2 ++ [⟨3, sn, 0, [], a, b⟩], _, by rw [← hg0], by rw [List.length_append, ← HM.out]; simp; omega, by omega, fun n hn => (List.mem_append.1 hn).elim (HOKS.out n) (fun h => by rw [List.mem_singleton.1 h]; exact HXOK.out), HFI.out.more (by rw [← HM.out]; omega) _, HEND.out⟩
      · have hn0' : ¬ (0 : Int) < (ne : Int) := by omega
        have n0 := HX2.out.nb.cell 0
        have n1 := HX2.out.nb.cell 1
        have n2 := HX2.out.nb.cell 2
        have d1 := HX2.out.lb.kd.cell 1
        have fr0 := HX2.out.nb.free 0
        have fr2 := HX2.out.nb.free 2
        simp [ntL] at n0 n1 n2 d1
        go_upto_region 18 with fail
        obtain ⟨w3, hw3⟩ : ∃ w3, w3 = (w2.setCell ⟨bx, 0, none⟩ (.int .i64 1)).setCell ⟨bx, 2, none⟩ (.int .i64 0) := ⟨_, rfl⟩
        have hx3 : LX w g bd k (.slice Aa ne ca) (.slice Bn m bn) es l2 bx ⟨1, sn, 0, [], 0, 0⟩ (.slice none 0 0) w3 := by
          rw [hw3]
          exact ((HX2.out.raw.putN 0 (.int .i64 1)).putN 2 (.int .i64 0)).note (x := ⟨1, sn, 0, [], 0, 0⟩) rfl HX2.out.yr.nil
        rw [← hw3]
        have HX3 := Lib.hid hx3
        clear hw3 hx3 n0 n1 n2 d1 fr0 fr2 HX2
        go_wp2_with fail
        refine (up_any _ _ _ (by omega) HX3.out.lb.urn).mono ?_
        rintro e w4 ⟨k0, rfl, hk0, hu, hk⟩
        have hk0 : k0 ≤ 2 := by omega
        have HX4 := Lib.hid (HX3.out.calls hu hk)
        clear hu hk HX3
        go_wp2_with fail
        refine lyears g bx w4 ⟨1, sn, 0, [], 0, 0⟩ k0 hk0 _ _ _ _ _ _ _ _ _ _ _ _ _ _ _ _ _ _ _ _ _ _ _ _ _ _ _ _ _ _ _ _ _ _ _ _ _ _ _ _ _ _ _ _ _ _ _ _ _ _ _ _ _ _ _ _ _ _ _ _ _ _ _ _ _ _ _ _ _ _ _ _ _ _ _ _ _ _ _ _ _ _ _ _ _ _ _ _ _ _ _ _ _ _ _ _ _ _ _ _ _ _ _ _ _ _ _ _ _ _ _ _ _ _ _ _ _ _ _ _ _ _ ⟨HX4.out.lb.urn, Keep.refl _ _, HX4.out.nb, World.ownsRow_nil _ _ _ _⟩ ?_
        intro _ _ _ _ _ _ _ _ _ _ _ _ _ _ _ _ _ _ _ vy ys w5 hy h1 h3 hall hup
        obtain ⟨Ay, cy, rfl⟩ := own_slice hy.yr
        have hx5 : LX w g bd k (.slice Aa ne ca) (.slice Bn m bn) es l2 bx ⟨1, sn, 0, ys, 0, 0⟩ (.slice Ay ys.length cy) w5 := ⟨HX4.out.lb.keep2 HX4.out.nb HX4.out.ne HX4.out.ge hy.urn hy.kp, hy.nb, HX4.out.ne, HX4.out.ge, own_base hy.yr HX4.out.lb.kg.size⟩
        have HX5 := Lib.hid hx5
        have HOK := Lib.hid (lyears_ok (es := es) hsn h1 h3 hall hup)
        clear hy h1 h3 hall hup hx5 HX4
        obtain ⟨xs9, hxs, hon, hyr⟩ := HX5.out.lb.no
        rw [← HM.out] at hon
        have HXS := Lib.hid hxs
        have HON := Lib.hid hon
        have HYR := Lib.hid hyr
        have d2 := HX5.out.lb.kd.cell 2
        have n0 := HX5.out.nb.cell 0
        have n1 := HX5.out.nb.cell 1
        have n2 := HX5.out.nb.cell 2
        have n3 := HX5.out.nb.cell 3
        have n4 := HX5.out.nb.cell 4
        have n5 := HX5.out.nb.cell 5
        simp [ntL] at d2 n0 n1 n2 n3 n4 n5
        have hbdl := HX5.out.lb.kd.size
        have hbxl := HX5.out.nb.size
        clear hxs hon hyr
        go_wp2_with (at_builtin; refine wpList_append_lies _ rfl _ _ 26 rfl w.heap.size 64 kI _ 6 64 Tryz.underlying26 HQ.out HQ0.out HQ1.out HQ2.out rfl (by decide) (.slice Bn m bn) m (cellsN xs9) (by rfl) (HON.out.alloc _) ⟨w5.heap.size, 0, none⟩ 1 1 [.int .i64 1, .int .i64 sn, .int .i64 0, .slice Ay ys.length cy, .int .i64 0, .int .i64 0] (by rfl) (by rfl) (World.news_of_block (cs := #[.int .i64 1, .int .i64 sn, .int .i64 0, .slice Ay ys.length cy, .int .i64 0, .int .i64 0]) (t := 64) (fr := (0, 0)) (heap_alloc_new w5 _)) (by simp [Value.oneCell']) (by omega) (by unfold maxLen; omega) (by omega) (by have := HX5.out.lb.kg.size; simp; omega) _ rfl ?_; intro g8 c8 w8 hown8 hgrow8 hat8 hlt8; have h8 := (HX5.out.lb.alloc (.cells #[.int .i64 1, .int .i64 sn, .int .i64 0, .slice Ay ys.length cy, .int .i64 0, .int .i64 0] 64)).note (x := ⟨1, sn, 0, ys, 0, 0⟩) (vy := (.slice Ay ys.length cy)) HXS.out (by rw [← HM.out]; exact HON.out.alloc _) (fun p hp => (HYR.out p hp).alloc _) hgrow8 (by rw [← HM.out]; exact hown8) (HX5.out.yr.alloc _); have H8 := Lib.hid h8; have q2 := h8.kd.cell 2; have f2 := h8.kd.free 2; simp at q2; clear hown8 hgrow8 hat8 hlt8 h8)
        have HEND := Lib.hid (H8.out.put (i := 2) (u := .slice (some ⟨g8, 0, none⟩) (m + 1) c8) (c1 := .slice Aa ne ca) (c2 := .slice (some ⟨g8, 0, none⟩) (m + 1) c8) rfl)
        have HXOK := Lib.hid HOK.out
        clear H8 q2 f2
        go_wp2_with fail
        go_roundg (gk - 1)
        case measure => omega
        case rel => exact ⟨l2 ++ [⟨1, sn, 0, ys, 0, 0⟩], _, by rw [← hg0], by rw [List.length_append, ← HM.out]; simp; omega, by omega, fun n hn => (List.mem_append.1 hn).elim (HOKS.out n) (fun h => by rw [List.mem_singleton.1 h]; exact HXOK.out), HFI.out.more (by rw [← HM.out]; omega) _, HEND.out⟩
    · by_cases hos : ot = sn
      · have hos' : ((ot : Int) != (sn : Int)) = false := by simp; omega
        have n0 := HX2.out.nb.cell 0
        have n1 := HX2.out.nb.cell 1
        have n2 := HX2.out.nb.cell 2
        have d1 := HX2.out.lb.kd.cell 1
        have fr0 := HX2.out.nb.free 0
        have fr2 := HX2.out.nb.free 2
        simp [ntL] at n0 n1 n2 d1
        go_upto_region 18 with fail
        obtain ⟨w3, hw3⟩ : ∃ w3, w3 = (w2.setCell ⟨bx, 0, none⟩ (.int .i64 1)).setCell ⟨bx, 2, none⟩ (.int .i64 0) := ⟨_, rfl⟩
        have hx3 : LX w g bd k (.slice Aa ne ca) (.slice Bn m bn) es l2 bx ⟨1, sn, 0, [], 0, 0⟩ (.slice none 0 0) w3 := by
          rw [hw3]
          exact ((HX2.out.raw.putN 0 (.int .i64 1)).putN 2 (.int .i64 0)).note (x := ⟨1, sn, 0, [], 0, 0⟩) rfl HX2.out.yr.nil
        rw [← hw3]
        have HX3 := Lib.hid hx3
        clear hw3 hx3 n0 n1 n2 d1 fr0 fr2 HX2
        go_wp2_with fail
        refine (up_any _ _ _ (by omega) HX3.out.lb.urn).mono ?_
        rintro e w4 ⟨k0, rfl, hk0, hu, hk⟩
        have hk0 : k0 ≤ 2 := by omega
        have HX4 := Lib.hid (HX3.out.calls hu hk)
        clear hu hk HX3
        go_wp2_with fail
        refine lyears g bx w4 ⟨1, sn, 0, [], 0, 0⟩ k0 hk0 _ _ _ _ _ _ _ _ _ _ _ _ _ _ _ _ _ _ _ _ _ _ _ _ _ _ _ _ _ _ _ _ _ _ _ _ _ _ _ _ _ _ _ _ _ _ _ _ _ _ _ _ _ _ _ _ _ _ _ _ _ _ _ _ _ _ _ _ _ _ _ _ _ _ _ _ _ _ _ _ _ _ _ _ _ _ _ _ _ _ _ _ _ _ _ _ _ _ _ _ _ _ _ _ _ _ _ _ _ _ _ _ _ _ _ _ _ _ _ _ _ _ ⟨HX4.out.lb.urn, Keep.refl _ _, HX4.out.nb, World.ownsRow_nil _ _ _ _⟩ ?_
        intro _ _ _ _ _ _ _ _ _ _ _ _ _ _ _ _ _ _ _ vy ys w5 hy h1 h3 hall hup
        obtain ⟨Ay, cy, rfl⟩ := own_slice hy.yr
        have hx5 : LX w g bd k (.slice Aa ne ca) (.slice Bn m bn) es l2 bx ⟨1, sn, 0, ys, 0, 0⟩ (.slice Ay ys.length cy) w5 := ⟨HX4.out.lb.keep2 HX4.out.nb HX4.out.ne HX4.out.ge hy.urn hy.kp, hy.nb, HX4.out.ne, HX4.out.ge, own_base hy.yr HX4.out.lb.kg.size⟩
        have HX5 := Lib.hid hx5
        have HOK := Lib.hid (lyears_ok (es := es) hsn h1 h3 hall hup)
        clear hy h1 h3 hall hup hx5 HX4
        obtain ⟨xs9, hxs, hon, hyr⟩ := HX5.out.lb.no
        rw [← HM.out] at hon
        have HXS := Lib.hid hxs
        have HON := Lib.hid hon
        have HYR := Lib.hid hyr
        have d2 := HX5.out.lb.kd.cell 2
        have n0 := HX5.out.nb.cell 0
        have n1 := HX5.out.nb.cell 1
        have n2 := HX5.out.nb.cell 2
        have n3 := HX5.out.nb.cell 3
        have n4 := HX5.out.nb.cell 4
        have n5 := HX5.out.nb.cell 5
        simp [ntL] at d2 n0 n1 n2 n3 n4 n5
        have hbdl := HX5.out.lb.kd.size
        have hbxl := HX5.out.nb.size
        clear hxs hon hyr
        go_wp2_with (at_builtin; refine wpList_append_lies _ rfl _ _ 26 rfl w.heap.size 64 kI _ 6 64 Tryz.underlying26 HQ.out HQ0.out HQ1.out HQ2.out rfl (by decide) (.slice Bn m bn) m (cellsN xs9) (by rfl) (HON.out.alloc _) ⟨w5.heap.size, 0, none⟩ 1 1 [.int .i64 1, .int .i64 sn, .int .i64 0, .slice Ay ys.length cy, .int .i64 0, .int .i64 0] (by rfl) (by rfl) (World.news_of_block (cs := #[.int .i64 1, .int .i64 sn, .int .i64 0, .slice Ay ys.length cy, .int .i64 0, .int .i64 0]) (t := 64) (fr := (0, 0)) (heap_alloc_new w5 _)) (by simp [Value.oneCell']) (by omega) (by unfold maxLen; omega) (by omega) (by have := HX5.out.lb.kg.size; simp; omega) _ rfl ?_; intro g8 c8 w8 hown8 hgrow8 hat8 hlt8; have h8 := (HX5.out.lb.alloc (.cells #[.int .i64 1, .int .i64 sn, .int .i64 0, .slice Ay ys.length cy, .int .i64 0, .int .i64 0] 64)).note (x := ⟨1, sn, 0, ys, 0, 0⟩) (vy := (.slice Ay ys.length cy)) HXS.out (by rw [← HM.out]; exact HON.out.alloc _) (fun p hp => (HYR.out p hp).alloc _) hgrow8 (by rw [← HM.out]; exact hown8) (HX5.out.yr.alloc _); have H8 := Lib.hid h8; have q2 := h8.kd.cell 2; have f2 := h8.kd.free 2; simp at q2; clear hown8 hgrow8 hat8 hlt8 h8)
        have HEND := Lib.hid (H8.out.put (i := 2) (u := .slice (some ⟨g8, 0, none⟩) (m + 1) c8) (c1 := .slice Aa ne ca) (c2 := .slice (some ⟨g8, 0, none⟩) (m + 1) c8) rfl)
        have HXOK := Lib.hid HOK.out
        clear H8 q2 f2
        go_wp2_with fail
        go_roundg (gk - 1)
        case measure => omega
        case rel => exact ⟨l2 ++ [⟨1, sn, 0, ys, 0, 0⟩], _, by rw [← hg0], by rw [List.length_append, ← HM.out]; simp; omega, by omega, fun n hn => (List.mem_append.1 hn).elim (HOKS.out n) (fun h => by rw [List.mem_singleton.1 h]; exact HXOK.out), HFI.out.more (by rw [← HM.out]; omega) _, HEND.out⟩
      · have hos' : ((ot : Int) != (sn : Int)) = true := by simp; omega
        have n0 := HX2.out.nb.cell 0
        have n1 := HX2.out.nb.cell 1
        have n2 := HX2.out.nb.cell 2
        have d1 := HX2.out.lb.kd.cell 1
        have fr0 := HX2.out.nb.free 0
        have fr2 := HX2.out.nb.free 2
        simp [ntL] at n0 n1 n2 d1
        go_wp2_with fail
        clear n0 n1 n2 d1 fr0 fr2
        refine (urnSpan_any g (-4) 5 _ (by omega) (by omega) (by omega) HX2.out.lb.urn).mono ?_
        rintro e w3 ⟨a, b, rfl, a1, a2, a3, hu, hk⟩
        have HX3 := Lib.hid (HX2.out.calls hu hk)
        have fr4 := HX3.out.nb.free 4
        have fr5 := HX3.out.nb.free 5
        have n4 := HX3.out.nb.cell 4
        have n5 := HX3.out.nb.cell 5
        simp [ntL] at n4 n5
        clear hu hk HX2
        go_upto_region 26 with fail
        obtain ⟨w4, hw4⟩ : ∃ w4, w4 = (w3.setCell ⟨bx, 4, none⟩ (.int .i64 a)).setCell ⟨bx, 5, none⟩ (.int .i64 b) := ⟨_, rfl⟩
        have hx4 : LX w g bd k (.slice Aa ne ca) (.slice Bn m bn) es l2 bx ⟨4, sn, ot, [], a, b⟩ (.slice none 0 0) w4 := by
          rw [hw4]
          exact (HX3.out.raw.putN 4 (.int .i64 a) |>.putN 5 (.int .i64 b)).note (x := ⟨4, sn, ot, [], a, b⟩) rfl HX3.out.yr.nil
        rw [← hw4]
        have HX4 := Lib.hid hx4
        clear hw4 hx4 fr4 fr5 n4 n5 HX3
        obtain ⟨xs9, hxs, hon, hyr⟩ := HX4.out.lb.no
        rw [← HM.out] at hon
        have HXS := Lib.hid hxs
        have HON := Lib.hid hon
        have HYR := Lib.hid hyr
        have d2 := HX4.out.lb.kd.cell 2
        have n0 := HX4.out.nb.cell 0
        have n1 := HX4.out.nb.cell 1
        have n2 := HX4.out.nb.cell 2
        have n3 := HX4.out.nb.cell 3
        have n4 := HX4.out.nb.cell 4
        have n5 := HX4.out.nb.cell 5
        simp [ntL] at d2 n0 n1 n2 n3 n4 n5
        have hbdl := HX4.out.lb.kd.size
        have hbxl := HX4.out.nb.size
        clear hxs hon hyr
        go_wp2_with (at_builtin; refine wpList_append_lies _ rfl _ _ 26 rfl w.heap.size 64 kI _ 6 64 Tryz.underlying26 HQ.out HQ0.out HQ1.out HQ2.out rfl (by decide) (.slice Bn m bn) m (cellsN xs9) (by rfl) (HON.out.alloc _) ⟨w4.heap.size, 0, none⟩ 1 1 [.int .i64 4, .int .i64 sn, .int .i64 ot, .slice none 0 0, .int .i64 a, .int .i64 b] (by rfl) (by rfl) (World.news_of_block (cs := #[.int .i64 4, .int .i64 sn, .int .i64 ot, .slice none 0 0, .int .i64 a, .int .i64 b]) (t := 64) (fr := (0, 0)) (heap_alloc_new w4 _)) (by simp [Value.oneCell']) (by omega) (by unfold maxLen; omega) (by omega) (by have := HX4.out.lb.kg.size; simp; omega) _ rfl ?_; intro g8 c8 w8 hown8 hgrow8 hat8 hlt8; have h8 := (HX4.out.lb.alloc (.cells #[.int .i64 4, .int .i64 sn, .int .i64 ot, .slice none 0 0, .int .i64 a, .int .i64 b] 64)).note (x := ⟨4, sn, ot, [], a, b⟩) (vy := (.slice none 0 0)) HXS.out (by rw [← HM.out]; exact HON.out.alloc _) (fun p hp => (HYR.out p hp).alloc _) hgrow8 (by rw [← HM.out]; exact hown8) (HX4.out.yr.alloc _); have H8 := Lib.hid h8; have q2 := h8.kd.cell 2; have f2 := h8.kd.free 2; simp at q2; clear hown8 hgrow8 hat8 hlt8 h8)
        have HEND := Lib.hid (H8.out.put (i := 2) (u := .slice (some ⟨g8, 0, none⟩) (m + 1) c8) (c1 := .slice Aa ne ca) (c2 := .slice (some ⟨g8, 0, none⟩) (m + 1) c8) rfl)
        have HXOK := Lib.hid (after_ok (es := es) hsn hot hos a1 a2 a3)
        clear H8 q2 f2
        go_wp2_with fail
        go_roundg (gk - 1)
        case measure => omega
        case rel => exact ⟨l2 ++ [⟨4, sn, ot, [], a, b⟩], _, by rw [← hg0], by rw [List.length_append, ← HM.out]; simp; omega, by omega, fun n hn => (List.mem_append.1 hn).elim (HOKS.out n) (fun h => by rw [List.mem_singleton.1 h]; exact HXOK.out), HFI.out.more (by rw [← HM.out]; omega) _, HEND.out⟩
end Go.Proofs.YtmfjfjahemlhkaaGreat
