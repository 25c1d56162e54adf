/- DateEnds: the loops over stones and eras. -/
import Derived.Test.YtmfjfjahemlhkaaGreatPs
namespace Go.Proofs.YtmfjfjahemlhkaaGreat
open Go.RowKit Dt

set_option maxRecDepth 100000 in
set_option maxHeartbeats 8000000 in
theorem ends_stones (w W0 : World) (g bd gt ct ga ca cb : Nat) (Ab : Option Addr) (d : Dat) (ve vn : Value) (hl : Little d) (hyes : d.all ≠ [])
    (s0 s1 s2 s7 s8 s9 s11 s12 s13 s14 s15 s16 s17 s18 s19 s20 s21 s22 s23 s24 s25 s26 s27 s28 s29 s30 s31 s32 s33 s34 s35 s36 s37 s38 s39 s40 s41 s42 s43 s44 s45 s46 s47 s48 s49 s50 s51 s52 s53 s54 s55 s56 s57 s58 s59 s60 s61 s62 s63 s64 s65 s66 s67 s68 s69 s70 s71 s72 s73 s74 s75 s76 s77 s78 s79 s80 s81 s82 s83 s84 s85 s86 s87 s88 s89 s90 s91 s92 s93 s94 s95 s96 s97 s98 s99 s100 s101 s102 s103 s104 s105 s106 s107 s108 s109 s110 s111 s112 s113 s114 s115 s116 s117 s118 s119 s120 s121 s122 s123 s124 s125 s126 s127 s128 s129 s130 s131 s132 s133 s134 s135 s136 s137 s138 s139 s140 s141 s142 s143 s144 s145 s146 s147 s148 s149 s150 s151 s152 s153 s154 s155 s156 s157 s158 s159 s160 s161 s162 s163 s164 s165 s166 s167 s168 s169 s170 s171 s172 s173 s174 s175 s176 s177 s178 s179 s180 s181 s182 s183 s184 s185 s186 s187 s188 s189 s190 s191 s192 s193 s194 s195 s196 s197 s198 s199 s200 s201 s202 s203 s204 s205 s206 s207 s208 s209 s210 s211 s212 s213 s214 s215 s216 s217 s218 s219 s220 s221 s222 s223 : Value) (Q : Exit → Act → World → Prop) (h0 : LE w g bd d ve vn (.slice (some ⟨gt, 0, none⟩) (allP d).length ct) (allP d) [(.slice (some ⟨ga, 0, none⟩) d.stones ca, spanList d 1 d.stones), (.slice Ab d.eras.length cb, spanList d 7 d.eras.length)] W0) (hqp : ∀ c a dst v w, Q (.panic c) (Act.put a dst v) w → Q (.panic c) a w)
    (hexit : ∀ (u2 u10 u11 u12 u13 u14 u15 u16 u17 u18 u19 u20 u21 u84 u85 u86 u87 u88 u89 u90 u91 u92 u93 u94 u95 u96 u97 u98 u99 u100 u101 u102 u103 u104 u105 u106 u107 u108 u109 u110 u111 u112 u113 u114 u115 u116 u117 u118 u119 u120 u121 u122 u123 u124 u125 u126 u127 u128 u129 u130 u131 u132 u133 u134 u135 u136 u137 u138 u139 u140 u141 u142 u143 u144 u145 u146 u147 u148 u149 u150 u151 u152 u153 u154 u155 u156 u157 u158 u159 u160 u161 u162 u163 u164 u165 u166 u167 u168 u169 u170 u171 u172 u173 u174 u175 u176 u177 u178 u179 u180 : Value) (wx : World), LE w g bd d ve vn (.slice (some ⟨gt, 0, none⟩) (allP d).length ct) (allP d) [(.slice (some ⟨ga, 0, none⟩) d.stones ca, spanList d 1 d.stones), (.slice Ab d.eras.length cb, spanList d 7 d.eras.length)] wx → Q (.exit 0) ⟨List.toArray (s0 :: s1 :: u2 :: Value.pointer (some ⟨g, 0, none⟩) :: Value.pointer (some ⟨bd, 0, none⟩) :: Value.slice (some ⟨gt, 0, none⟩) (allP d).length ct :: Value.slice (some ⟨ga, 0, none⟩) d.stones ca :: s7 :: s8 :: s9 :: u10 :: u11 :: u12 :: u13 :: u14 :: u15 :: u16 :: u17 :: u18 :: u19 :: u20 :: u21 :: s22 :: s23 :: s24 :: s25 :: s26 :: s27 :: s28 :: s29 :: s30 :: s31 :: s32 :: s33 :: s34 :: s35 :: s36 :: s37 :: s38 :: s39 :: s40 :: s41 :: s42 :: s43 :: s44 :: s45 :: s46 :: s47 :: s48 :: s49 :: s50 :: s51 :: s52 :: s53 :: s54 :: s55 :: s56 :: s57 :: s58 :: s59 :: s60 :: s61 :: s62 :: s63 :: s64 :: s65 :: s66 :: s67 :: s68 :: s69 :: s70 :: s71 :: s72 :: s73 :: s74 :: s75 :: s76 :: s77 :: s78 :: s79 :: s80 :: s81 :: s82 :: s83 :: u84 :: u85 :: u86 :: u87 :: u88 :: u89 :: u90 :: u91 :: u92 :: u93 :: u94 :: u95 :: u96 :: u97 :: u98 :: u99 :: u100 :: u101 :: u102 :: u103 :: u104 :: u105 :: u106 :: u107 :: u108 :: u109 :: u110 :: u111 :: u112 :: u113 :: u114 :: u115 :: u116 :: u117 :: u118 :: u119 :: u120 :: u121 :: u122 :: u123 :: u124 :: u125 :: u126 :: u127 :: u128 :: u129 :: u130 :: u131 :: u132 :: u133 :: u134 :: u135 :: u136 :: u137 :: u138 :: u139 :: u140 :: u141 :: u142 :: u143 :: u144 :: u145 :: u146 :: u147 :: u148 :: u149 :: u150 :: u151 :: u152 :: u153 :: u154 :: u155 :: u156 :: u157 :: u158 :: u159 :: u160 :: u161 :: u162 :: u163 :: u164 :: u165 :: u166 :: u167 :: u168 :: u169 :: u170 :: u171 :: u172 :: u173 :: u174 :: u175 :: u176 :: u177 :: u178 :: u179 :: u180 :: s181 :: s182 :: s183 :: s184 :: s185 :: s186 :: s187 :: s188 :: s189 :: s190 :: s191 :: s192 :: s193 :: s194 :: s195 :: s196 :: s197 :: s198 :: s199 :: s200 :: s201 :: s202 :: s203 :: s204 :: s205 :: s206 :: s207 :: s208 :: s209 :: s210 :: s211 :: s212 :: s213 :: s214 :: s215 :: s216 :: s217 :: s218 :: s219 :: s220 :: s221 :: s222 :: s223 :: []), []⟩ wx) :
    Code.wp Tryz.prog (eLoop 0) Q ⟨List.toArray (s0 :: s1 :: s2 :: Value.pointer (some ⟨g, 0, none⟩) :: Value.pointer (some ⟨bd, 0, none⟩) :: Value.slice (some ⟨gt, 0, none⟩) (allP d).length ct :: Value.slice (some ⟨ga, 0, none⟩) d.stones ca :: s7 :: s8 :: s9 :: Value.int .i64 (0 : Nat) :: s11 :: s12 :: s13 :: s14 :: s15 :: s16 :: s17 :: s18 :: s19 :: s20 :: s21 :: s22 :: s23 :: s24 :: s25 :: s26 :: s27 :: s28 :: s29 :: s30 :: s31 :: s32 :: s33 :: s34 :: s35 :: s36 :: s37 :: s38 :: s39 :: s40 :: s41 :: s42 :: s43 :: s44 :: s45 :: s46 :: s47 :: s48 :: s49 :: s50 :: s51 :: s52 :: s53 :: s54 :: s55 :: s56 :: s57 :: s58 :: s59 :: s60 :: s61 :: s62 :: s63 :: s64 :: s65 :: s66 :: s67 :: s68 :: s69 :: s70 :: s71 :: s72 :: s73 :: s74 :: s75 :: s76 :: s77 :: s78 :: s79 :: s80 :: s81 :: s82 :: s83 :: s84 :: s85 :: s86 :: s87 :: s88 :: s89 :: s90 :: s91 :: s92 :: s93 :: s94 :: s95 :: s96 :: s97 :: s98 :: s99 :: s100 :: s101 :: s102 :: s103 :: s104 :: s105 :: s106 :: s107 :: s108 :: s109 :: s110 :: s111 :: s112 :: s113 :: s114 :: s115 :: s116 :: s117 :: s118 :: s119 :: s120 :: s121 :: s122 :: s123 :: s124 :: s125 :: s126 :: s127 :: s128 :: s129 :: s130 :: s131 :: s132 :: s133 :: s134 :: s135 :: s136 :: s137 :: s138 :: s139 :: s140 :: s141 :: s142 :: s143 :: s144 :: s145 :: s146 :: s147 :: s148 :: s149 :: s150 :: s151 :: s152 :: s153 :: s154 :: s155 :: s156 :: s157 :: s158 :: s159 :: s160 :: s161 :: s162 :: s163 :: s164 :: s165 :: s166 :: s167 :: s168 :: s169 :: s170 :: s171 :: s172 :: s173 :: s174 :: s175 :: s176 :: s177 :: s178 :: s179 :: s180 :: s181 :: s182 :: s183 :: s184 :: s185 :: s186 :: s187 :: s188 :: s189 :: s190 :: s191 :: s192 :: s193 :: s194 :: s195 :: s196 :: s197 :: s198 :: s199 :: s200 :: s201 :: s202 :: s203 :: s204 :: s205 :: s206 :: s207 :: s208 :: s209 :: s210 :: s211 :: s212 :: s213 :: s214 :: s215 :: s216 :: s217 :: s218 :: s219 :: s220 :: s221 :: s222 :: s223 :: []), []⟩ W0 := by
  have HEX := Lib.hid hexit
  have HQP0 := Lib.hid hqp
  have HE0 := Lib.hid h0
  have HL := Lib.hid hl
  have HD := Lib.hid hl.ok
  have HYES := Lib.hid hyes
  have HMAY := Lib.hid ((may_iff hl.ok).2 hyes)
  have hst := hl.ok.stones
  have hst3 := hl.st3
  have hlen := allP_len hl
  have hlen3 : (allP d).length ≤ 3000 := by omega
  clear hexit hqp h0 hl hyes hlen
  conv => arg 2; whnf
  go_loopg [10] d.stones (fun r vi wr => ∃ i : Nat, i + r = d.stones ∧ vi = .int .i64 (i : Nat) ∧ LE w g bd d ve vn (.slice (some ⟨gt, 0, none⟩) (allP d).length ct) (allP d) [(.slice (some ⟨ga, 0, none⟩) d.stones ca, spanList d 1 d.stones), (.slice Ab d.eras.length cb, spanList d 7 d.eras.length)] wr)
  case atStart => exact ⟨0, by omega, rfl, HE0.out⟩
  case round =>
    clear HE0
    obtain ⟨i, hir, rfl, hs⟩ := hrel
    have HE := Lib.hid hs
    clear hs
    by_cases hi : i < d.stones
    · go_wp2_with fail
      refine (to_any 99 (-99) _).mono ?_
      rintro e w1 ⟨rfl, hb1⟩
      have HE1 := Lib.hid (HE.out.to hb1)
      clear hb1 HE
      go_upto_region 14 with fail
      obtain ⟨bs, hbs⟩ : ∃ bs, bs = w1.heap.size := ⟨_, rfl⟩
      obtain ⟨w4, hw4⟩ : ∃ w4, w4 = w1.alloc (.cells #[.int .i64 99, .int .i64 (-99)] 33) := ⟨_, rfl⟩
      have HS1 := Lib.hid (HE1.out.var 99 (-99))
      rw [← hw4, ← hbs] at HS1
      rw [← hw4, ← hbs]
      clear hw4 hbs HE1
      refine wp_region_v [(fun j => j == 1 || j == 4 || j == 5 || j == 6 || j == 7 || j == 8 || j == 9, fun W => W.cell? ⟨bd, 0, none⟩ = some (.int .i64 d.stones))] (by kernel_rfl) ?_
      refine wpAnyV_world (fun W => LS w g bd d ve vn (.slice (some ⟨gt, 0, none⟩) (allP d).length ct) (allP d) [(.slice (some ⟨ga, 0, none⟩) d.stones ca, spanList d 1 d.stones), (.slice Ab d.eras.length cb, spanList d 7 d.eras.length)] bs 99 (-99) W) HS1.out.drew (fun V hV => ?_)
      have HV := Lib.hid hV
      clear hV
      refine wpAnyV_free (i := 0) (v := ?_) (by simp only [List.getElem?_toArray, List.getElem?_cons_zero]; rfl) (by kernel_rfl) (by kernel_rfl) (by kernel_rfl) (by kernel_rfl) (by exact fun c a w h => HQP0.out c a _ _ w h) (Or.inl ⟨by rfl, ?hya2⟩) (behind_cons (fun h => by simp at h) (fun p hp => by cases hp)) ?resta2
      case hya2 => (intro W' _; go_simp; try with_reducible rfl)
      try simp only [Act.put, List.setIfInBounds_toArray, List.set_cons_zero, List.set_cons_succ]
      refine wpAnyV_free (i := 2) (v := ?_) (by simp only [List.getElem?_toArray, List.getElem?_cons_zero, List.getElem?_cons_succ]; rfl) (by kernel_rfl) (by kernel_rfl) (by kernel_rfl) (by kernel_rfl) (by exact fun c a w h => HQP0.out c a _ _ w h) (Or.inl ⟨by rfl, ?hya3⟩) (behind_cons (fun h => by simp at h) (fun p hp => by cases hp)) ?resta3
      case hya3 => (intro W' _; go_simp; try with_reducible rfl)
      try simp only [Act.put, List.setIfInBounds_toArray, List.set_cons_zero, List.set_cons_succ]
      refine wpAnyV_free (i := 3) (v := ?_) (by simp only [List.getElem?_toArray, List.getElem?_cons_zero, List.getElem?_cons_succ]; rfl) (by kernel_rfl) (by kernel_rfl) (by kernel_rfl) (by kernel_rfl) (by exact fun c a w h => HQP0.out c a _ _ w h) (Or.inl ⟨by rfl, ?hya4⟩) (behind_cons (fun h => by simp at h) (fun p hp => by cases hp)) ?resta4
      case hya4 => (intro W' _; go_simp; try with_reducible rfl)
      try simp only [Act.put, List.setIfInBounds_toArray, List.set_cons_zero, List.set_cons_succ]
      refine wpAnyV_take (i := 4) (m := 0) (v := ?_) (by simp only [List.getElem?_toArray, List.getElem?_cons_zero, List.getElem?_cons_succ]; rfl) (by rfl) (by kernel_rfl) (by kernel_rfl) (by kernel_rfl) (by kernel_rfl) (by exact fun c a w h => HQP0.out c a _ _ w h) (Or.inl ⟨by rfl, ?hya5⟩) ((HV.out.le.kd.cell 0)) (behind_cons (fun _ => (HV.out.le.kd.cell 0)) (fun p hp => by cases hp)) ?resta5
      case hya5 => (intro W' hSW; go_simp; try with_reducible rfl)
      try simp only [Act.put, List.setIfInBounds_toArray, List.set_cons_zero, List.set_cons_succ]
      refine wpAnyV_ready (rs := [1]) (by kernel_rfl) (by simp) ?_
      refine AllReadyV.cons (by simp only [List.getElem?_toArray, List.getElem?_cons_zero, List.getElem?_cons_succ]; rfl) (fun K hK => ?_) AllReadyV.nil
      go_simp
      go_at_call 12
      refine (up_any _ _ _ (by omega) HV.out.le.urn).mono ?_
      rintro e w503 ⟨year, rfl, hyear, hu, hk⟩
      have HC503 := Lib.hid (HV.out.calls hu hk)
      clear hu hk
      refine hK.out _ _ (behind_cons (fun _ => (HC503.out.le.kd.cell 0)) (fun p hp => by cases hp)) ?_
      clear hK K
      try simp only [Act.put, List.setIfInBounds_toArray, List.set_cons_zero, List.set_cons_succ]
      refine wpAnyV_ready (rs := [5]) (by kernel_rfl) (by simp) ?_
      refine AllReadyV.cons (by simp only [List.getElem?_toArray, List.getElem?_cons_zero, List.getElem?_cons_succ]; rfl) (fun K hK => ?_) AllReadyV.nil
      go_simp
      go_at_call 12
      refine (up_any _ _ _ (by omega) HC503.out.le.urn).mono ?_
      rintro e w504 ⟨other, rfl, hother, hu, hk⟩
      have HC504 := Lib.hid (HC503.out.calls hu hk)
      clear hu hk
      refine hK.out _ _ (behind_cons (fun _ => (HC504.out.le.kd.cell 0)) (fun p hp => by cases hp)) ?_
      clear hK K
      try simp only [Act.put, List.setIfInBounds_toArray, List.set_cons_zero, List.set_cons_succ]
      refine wpAnyV_free (i := 6) (v := ?_) (by simp only [List.getElem?_toArray, List.getElem?_cons_zero, List.getElem?_cons_succ]; rfl) (by kernel_rfl) (by kernel_rfl) (by kernel_rfl) (by kernel_rfl) (by exact fun c a w h => HQP0.out c a _ _ w h) (Or.inl ⟨by rfl, ?hya8⟩) (behind_cons (fun _ => (HC504.out.le.kd.cell 0)) (fun p hp => by cases hp)) ?resta8
      case hya8 => (intro W' _; go_simp; try with_reducible rfl)
      try simp only [Act.put, List.setIfInBounds_toArray, List.set_cons_zero, List.set_cons_succ]
      refine wpAnyV_free (i := 7) (v := ?_) (by simp only [List.getElem?_toArray, List.getElem?_cons_zero, List.getElem?_cons_succ]; rfl) (by kernel_rfl) (by kernel_rfl) (by kernel_rfl) (by kernel_rfl) (by exact fun c a w h => HQP0.out c a _ _ w h) (Or.inl ⟨by rfl, ?hya9⟩) (behind_cons (fun _ => (HC504.out.le.kd.cell 0)) (fun p hp => by cases hp)) ?resta9
      case hya9 => (intro W' _; go_simp; try with_reducible rfl)
      try simp only [Act.put, List.setIfInBounds_toArray, List.set_cons_zero, List.set_cons_succ]
      refine wpAnyV_free (i := 8) (v := ?_) (by simp only [List.getElem?_toArray, List.getElem?_cons_zero, List.getElem?_cons_succ]; rfl) (by kernel_rfl) (by kernel_rfl) (by kernel_rfl) (by kernel_rfl) (by exact fun c a w h => HQP0.out c a _ _ w h) (Or.inl ⟨by rfl, ?hya10⟩) (behind_cons (fun _ => (HC504.out.le.kd.cell 0)) (fun p hp => by cases hp)) ?resta10
      case hya10 => (intro W' _; go_simp; try with_reducible rfl)
      try simp only [Act.put, List.setIfInBounds_toArray, List.set_cons_zero, List.set_cons_succ]
      refine wpAnyV_free (i := 9) (v := ?_) (by simp only [List.getElem?_toArray, List.getElem?_cons_zero, List.getElem?_cons_succ]; rfl) (by kernel_rfl) (by kernel_rfl) (by kernel_rfl) (by kernel_rfl) (by exact fun c a w h => HQP0.out c a _ _ w h) (Or.inl ⟨by rfl, ?hya11⟩) (behind_cons (fun _ => (HC504.out.le.kd.cell 0)) (fun p hp => by cases hp)) ?resta11
      case hya11 => (intro W' _; go_simp; try with_reducible rfl)
      try simp only [Act.put, List.setIfInBounds_toArray, List.set_cons_zero, List.set_cons_succ]
      refine wpAnyV_done (by kernel_rfl) ?_ _
      obtain ⟨w5, hw5⟩ : ∃ w5, w5 = w504 := ⟨_, rfl⟩
      have HS5 := HC504
      rw [← hw5] at HS5 ⊢
      clear hw5
      have hyr9 : year ≤ 8 := by omega
      have hot : other < d.stones := by omega
      go_wp2_with fail
      refine ends_in w _ g bd bs gt ct i other (year : Int) d ve vn (allP d) [(.slice (some ⟨ga, 0, none⟩) d.stones ca, spanList d 1 d.stones), (.slice Ab d.eras.length cb, spanList d 7 d.eras.length)] (fun p : List Int × List Int => p.1.getD i 0) (fun p : List Int × List Int => decide (p.1.getD i 0 = (year : Int))) (fun p : List Int × List Int => decide (p.1.getD i 0 < p.1.getD other 0)) hlen3 hi hot (fun p hp => (allP_is HL.out hp).1) (fun _ _ => rfl) (fun _ _ => rfl) (fun _ _ => rfl) _ _ _ _ _ _ _ _ _ _ _ _ _ _ _ _ _ _ _ _ _ _ _ _ _ _ _ _ _ _ _ _ _ _ _ _ _ _ _ _ _ _ _ _ _ _ _ _ _ _ _ _ _ _ _ _ _ _ _ _ _ _ _ _ _ _ _ _ _ _ _ _ _ _ _ _ _ _ _ _ _ _ _ _ _ _ _ _ _ _ _ _ _ _ _ _ _ _ _ _ _ _ _ _ _ _ _ _ _ _ _ _ _ _ _ _ _ _ _ _ _ _ _ _ _ _ _ _ _ _ _ _ _ _ _ _ _ _ _ _ _ _ _ _ _ _ _ _ _ _ _ _ _ _ _ _ _ _ _ _ _ _ _ _ _ _ _ _ _ _ _ _ _ _ _ _ _ _ _ _ _ _ _ _ _ _ _ _ _ _ _ _ _ _ _ _ _ _ _ _ _ _ _ _ _ _ _ _ _ _ _ _ _ _ _ _ HS5.out ?_
      intro _ _ _ _ _ _ _ _ _ _ _ _ _ _ _ _ _ _ _ _ _ _ _ _ _ _ _ _ _ _ _ _ _ _ _ _ _ _ _ _ _ _ w6 hs6
      have hse := stone_ends HL.out HMAY.out hi
      have hp1 : lowOf ((allP d).map (fun p : List Int × List Int => p.1.getD i 0)) = (d.span (1 + i)).1 := congrArg Prod.fst hse
      have hp2 : highOf ((allP d).map (fun p : List Int × List Int => p.1.getD i 0)) = (d.span (1 + i)).2 := congrArg Prod.snd hse
      rw [hp1, hp2] at hs6
      obtain ⟨p, hp⟩ : ∃ p, p = d.span (1 + i) := ⟨_, rfl⟩
      rw [← hp] at hs6
      obtain ⟨u1, u2⟩ := flatS_at (spanList d 1 d.stones) i p (by rw [hp]; simp [spanList, hi])
      have HPA := Lib.hid (fun (W : World) (h : LS w g bd d ve vn (.slice (some ⟨gt, 0, none⟩) (allP d).length ct) (allP d) [(.slice (some ⟨ga, 0, none⟩) d.stones ca, spanList d 1 d.stones), (.slice Ab d.eras.length cb, spanList d 7 d.eras.length)] bs p.1 p.2 W) => (show W.cell? ⟨ga, i * 2, none⟩ = some (.int .i64 p.1) ∧ W.cell? ⟨ga, i * 2 + 1, none⟩ = some (.int .i64 p.2) from by
        have hr : W.ownsRow w.heap.size 33 2 (.slice (some ⟨ga, 0, none⟩) d.stones ca) (spanList d 1 d.stones).length (flatS (spanList d 1 d.stones)) := h.le.row 0 rfl
        have hln : (spanList d 1 d.stones).length = d.stones := by simp [spanList]
        rw [hln] at hr
        exact ⟨(hr.cellAt (i * 2) (by omega)).trans u1, (hr.cellAt (i * 2 + 1) (by omega)).trans u2⟩))
      have HS6 := Lib.hid hs6
      obtain ⟨pv, hpv⟩ : ∃ v, v = d.cutV (1 + i) (year : Int) := ⟨_, rfl⟩
      obtain ⟨qv, hqv⟩ : ∃ v, v = d.laterV (1 + i) (1 + other) := ⟨_, rfl⟩
      have ha1 := fun w => said_any ((allP d).countP (fun p : List Int × List Int => decide (p.1.getD i 0 = (year : Int)))) (allP d).length w
      have ha2 := fun w => said_any ((allP d).countP (fun p : List Int × List Int => decide (p.1.getD i 0 < p.1.getD other 0))) (allP d).length w
      rw [← cut_said HL.out HMAY.out hi (year : Int), ← hpv] at ha1
      rw [← later_said HL.out HMAY.out hi hot, ← hqv] at ha2
      have HA1 := Lib.hid ha1
      have HA2 := Lib.hid ha2
      have HC1 := Lib.hid (cut_yes d HD.out HYES.out i hi (year : Int) (outB_no (by omega) (by omega)))
      have HE1 := Lib.hid (earlier_yes d HD.out HYES.out i other hi hot)
      rw [← hpv] at HC1
      rw [← hqv] at HE1
      obtain ⟨nC, hnC⟩ : ∃ n, n = (allP d).countP (fun p : List Int × List Int => decide (p.1.getD i 0 = (year : Int))) := ⟨_, rfl⟩
      obtain ⟨nB, hnB⟩ : ∃ n, n = (allP d).countP (fun p : List Int × List Int => decide (p.1.getD i 0 < p.1.getD other 0)) := ⟨_, rfl⟩
      rw [← hnC] at HA1 ⊢
      rw [← hnB] at HA2 ⊢
      clear hse hp1 hp2 hs6 hp u1 u2 hpv hqv ha1 ha2 hnC hnB HS5
      have d0 := HS6.out.le.kd.cell 0
      have d1 := HS6.out.le.kd.cell 1
      have d2 := HS6.out.le.kd.cell 2
      simp at d0 d1 d2
      go_wp2_with fail
      refine (HC1.out _ _ w6 (Nat.le_refl _) HS6.out.le.dat.dat).mono ?_
      rintro e w7 ⟨rfl, hb⟩
      have HS7 := Lib.hid (HS6.out.to hb)
      clear hb d0 d1 d2 HS6
      have d0 := HS7.out.le.kd.cell 0
      have d1 := HS7.out.le.kd.cell 1
      have d2 := HS7.out.le.kd.cell 2
      simp at d0 d1 d2
      go_wp2_with fail
      refine (HE1.out _ _ w7 (Nat.le_refl _) HS7.out.le.dat.dat).mono ?_
      rintro e w8 ⟨rfl, hb⟩
      have HS9 := Lib.hid (HS7.out.to hb)
      clear hb d0 d1 d2 HS7 HC1 HE1
      go_wp2_with fail
      refine wp_region_v [(fun j => j == 3 || j == 4 || j == 5 || j == 6 || j == 7 || j == 8 || j == 9 || j == 10 || j == 11 || j == 12 || j == 13 || j == 14 || j == 15 || j == 16 || j == 17 || j == 18 || j == 19 || j == 20 || j == 21 || j == 22 || j == 23 || j == 24 || j == 25 || j == 26 || j == 27 || j == 28 || j == 29, fun W => W.cell? ⟨ga, i * 2, none⟩ = some (.int .i64 p.1) ∧ W.cell? ⟨ga, i * 2 + 1, none⟩ = some (.int .i64 p.2)), (fun j => j == 4 || j == 5 || j == 6 || j == 7 || j == 8 || j == 9 || j == 10 || j == 11 || j == 12 || j == 13 || j == 14 || j == 15 || j == 16 || j == 17 || j == 18 || j == 19 || j == 20 || j == 21 || j == 22 || j == 23 || j == 24 || j == 25 || j == 26 || j == 27 || j == 28 || j == 29, fun W => W.cell? ⟨bs, 0, none⟩ = some (.int .i64 p.1) ∧ W.cell? ⟨bs, 1, none⟩ = some (.int .i64 p.2))] (by kernel_rfl) ?_
      refine wpAnyV_world (fun W => LS w g bd d ve vn (.slice (some ⟨gt, 0, none⟩) (allP d).length ct) (allP d) [(.slice (some ⟨ga, 0, none⟩) d.stones ca, spanList d 1 d.stones), (.slice Ab d.eras.length cb, spanList d 7 d.eras.length)] bs p.1 p.2 W) HS9.out.drew (fun V hV => ?_)
      have HV := Lib.hid hV
      clear hV
      refine wpAnyV_free (i := 0) (v := ?_) (by simp only [List.getElem?_toArray, List.getElem?_cons_zero]; rfl) (by kernel_rfl) (by kernel_rfl) (by kernel_rfl) (by kernel_rfl) (by exact fun c a w h => HQP0.out c a _ _ w h) (Or.inl ⟨by rfl, ?hyb2⟩) (behind_cons (fun h => by simp at h) (behind_cons (fun h => by simp at h) (fun p hp => by cases hp))) ?restb2
      case hyb2 => (intro W' _; go_simp; try with_reducible rfl)
      try simp only [Act.put, List.setIfInBounds_toArray, List.set_cons_zero, List.set_cons_succ]
      refine wpAnyV_free (i := 1) (v := ?_) (by simp only [List.getElem?_toArray, List.getElem?_cons_zero, List.getElem?_cons_succ]; rfl) (by kernel_rfl) (by kernel_rfl) (by kernel_rfl) (by kernel_rfl) (by exact fun c a w h => HQP0.out c a _ _ w h) (Or.inl ⟨by rfl, ?hyb3⟩) (behind_cons (fun h => by simp at h) (behind_cons (fun h => by simp at h) (fun p hp => by cases hp))) ?restb3
      case hyb3 => (intro W' _; go_simp; try with_reducible rfl)
      try simp only [Act.put, List.setIfInBounds_toArray, List.set_cons_zero, List.set_cons_succ]
      refine wpAnyV_free (i := 2) (v := ?_) (by simp only [List.getElem?_toArray, List.getElem?_cons_zero, List.getElem?_cons_succ]; rfl) (by kernel_rfl) (by kernel_rfl) (by kernel_rfl) (by kernel_rfl) (by exact fun c a w h => HQP0.out c a _ _ w h) (Or.inl ⟨by rfl, ?hyb4⟩) (behind_cons (fun h => by simp at h) (behind_cons (fun h => by simp at h) (fun p hp => by cases hp))) ?restb4
      case hyb4 => (intro W' _; go_simp; try with_reducible rfl)
      try simp only [Act.put, List.setIfInBounds_toArray, List.set_cons_zero, List.set_cons_succ]
      refine wpAnyV_take (i := 3) (m := 0) (v := ?_) (by simp only [List.getElem?_toArray, List.getElem?_cons_zero, List.getElem?_cons_succ]; rfl) (by rfl) (by kernel_rfl) (by kernel_rfl) (by kernel_rfl) (by kernel_rfl) (by exact fun c a w h => HQP0.out c a _ _ w h) (Or.inl ⟨by rfl, ?hyb5⟩) ((HPA.out _ HV.out)) (behind_cons (fun _ => (HPA.out _ HV.out)) (behind_cons (fun h => by simp at h) (fun p hp => by cases hp))) ?restb5
      case hyb5 => (intro W' hSW; try obtain ⟨hSW1, hSW2⟩ := hSW; go_simp; try with_reducible rfl)
      try simp only [Act.put, List.setIfInBounds_toArray, List.set_cons_zero, List.set_cons_succ]
      refine wpAnyV_take (i := 4) (m := 1) (v := ?_) (by simp only [List.getElem?_toArray, List.getElem?_cons_zero, List.getElem?_cons_succ]; rfl) (by rfl) (by kernel_rfl) (by kernel_rfl) (by kernel_rfl) (by kernel_rfl) (by exact fun c a w h => HQP0.out c a _ _ w h) (Or.inl ⟨by rfl, ?hyb6⟩) ((And.intro (HV.out.nb.cell 0) (HV.out.nb.cell 1))) (behind_cons (fun _ => (HPA.out _ HV.out)) (behind_cons (fun _ => (And.intro (HV.out.nb.cell 0) (HV.out.nb.cell 1))) (fun p hp => by cases hp))) ?restb6
      case hyb6 => (intro W' hSW; try obtain ⟨hSW1, hSW2⟩ := hSW; go_simp; try with_reducible rfl)
      try simp only [Act.put, List.setIfInBounds_toArray, List.set_cons_zero, List.set_cons_succ]
      refine wpAnyV_free (i := 5) (v := ?_) (by simp only [List.getElem?_toArray, List.getElem?_cons_zero, List.getElem?_cons_succ]; rfl) (by kernel_rfl) (by kernel_rfl) (by kernel_rfl) (by kernel_rfl) (by exact fun c a w h => HQP0.out c a _ _ w h) (Or.inl ⟨by rfl, ?hyb7⟩) (behind_cons (fun _ => (HPA.out _ HV.out)) (behind_cons (fun _ => (And.intro (HV.out.nb.cell 0) (HV.out.nb.cell 1))) (fun p hp => by cases hp))) ?restb7
      case hyb7 => (intro W' _; go_simp; try with_reducible rfl)
      try simp only [Act.put, List.setIfInBounds_toArray, List.set_cons_zero, List.set_cons_succ]
      refine wpAnyV_free (i := 6) (v := ?_) (by simp only [List.getElem?_toArray, List.getElem?_cons_zero, List.getElem?_cons_succ]; rfl) (by kernel_rfl) (by kernel_rfl) (by kernel_rfl) (by kernel_rfl) (by exact fun c a w h => HQP0.out c a _ _ w h) (Or.inl ⟨by rfl, ?hyb8⟩) (behind_cons (fun _ => (HPA.out _ HV.out)) (behind_cons (fun _ => (And.intro (HV.out.nb.cell 0) (HV.out.nb.cell 1))) (fun p hp => by cases hp))) ?restb8
      case hyb8 => (intro W' _; go_simp; try with_reducible rfl)
      try simp only [Act.put, List.setIfInBounds_toArray, List.set_cons_zero, List.set_cons_succ]
      refine wpAnyV_free (i := 7) (v := ?_) (by simp only [List.getElem?_toArray, List.getElem?_cons_zero, List.getElem?_cons_succ]; rfl) (by kernel_rfl) (by kernel_rfl) (by kernel_rfl) (by kernel_rfl) (by exact fun c a w h => HQP0.out c a _ _ w h) (Or.inl ⟨by rfl, ?hyb9⟩) (behind_cons (fun _ => (HPA.out _ HV.out)) (behind_cons (fun _ => (And.intro (HV.out.nb.cell 0) (HV.out.nb.cell 1))) (fun p hp => by cases hp))) ?restb9
      case hyb9 => (intro W' _; go_simp; try with_reducible rfl)
      try simp only [Act.put, List.setIfInBounds_toArray, List.set_cons_zero, List.set_cons_succ]
      refine wpAnyV_free (i := 8) (v := ?_) (by simp only [List.getElem?_toArray, List.getElem?_cons_zero, List.getElem?_cons_succ]; rfl) (by kernel_rfl) (by kernel_rfl) (by kernel_rfl) (by kernel_rfl) (by exact fun c a w h => HQP0.out c a _ _ w h) (Or.inl ⟨by rfl, ?hyb10⟩) (behind_cons (fun _ => (HPA.out _ HV.out)) (behind_cons (fun _ => (And.intro (HV.out.nb.cell 0) (HV.out.nb.cell 1))) (fun p hp => by cases hp))) ?restb10
      case hyb10 => (intro W' _; go_simp; try with_reducible rfl)
      try simp only [Act.put, List.setIfInBounds_toArray, List.set_cons_zero, List.set_cons_succ]
      refine wpAnyV_free (i := 9) (v := ?_) (by simp only [List.getElem?_toArray, List.getElem?_cons_zero, List.getElem?_cons_succ]; rfl) (by kernel_rfl) (by kernel_rfl) (by kernel_rfl) (by kernel_rfl) (by exact fun c a w h => HQP0.out c a _ _ w h) (Or.inl ⟨by rfl, ?hyb11⟩) (behind_cons (fun _ => (HPA.out _ HV.out)) (behind_cons (fun _ => (And.intro (HV.out.nb.cell 0) (HV.out.nb.cell 1))) (fun p hp => by cases hp))) ?restb11
      case hyb11 => (intro W' _; go_simp; try with_reducible rfl)
      try simp only [Act.put, List.setIfInBounds_toArray, List.set_cons_zero, List.set_cons_succ]
      refine wpAnyV_free (i := 10) (v := ?_) (by simp only [List.getElem?_toArray, List.getElem?_cons_zero, List.getElem?_cons_succ]; rfl) (by kernel_rfl) (by kernel_rfl) (by kernel_rfl) (by kernel_rfl) (by exact fun c a w h => HQP0.out c a _ _ w h) (Or.inl ⟨by rfl, ?hyb12⟩) (behind_cons (fun _ => (HPA.out _ HV.out)) (behind_cons (fun _ => (And.intro (HV.out.nb.cell 0) (HV.out.nb.cell 1))) (fun p hp => by cases hp))) ?restb12
      case hyb12 => (intro W' _; go_simp; try with_reducible rfl)
      try simp only [Act.put, List.setIfInBounds_toArray, List.set_cons_zero, List.set_cons_succ]
      refine wpAnyV_free (i := 11) (v := ?_) (by simp only [List.getElem?_toArray, List.getElem?_cons_zero, List.getElem?_cons_succ]; rfl) (by kernel_rfl) (by kernel_rfl) (by kernel_rfl) (by kernel_rfl) (by exact fun c a w h => HQP0.out c a _ _ w h) (Or.inl ⟨by rfl, ?hyb13⟩) (behind_cons (fun _ => (HPA.out _ HV.out)) (behind_cons (fun _ => (And.intro (HV.out.nb.cell 0) (HV.out.nb.cell 1))) (fun p hp => by cases hp))) ?restb13
      case hyb13 => (intro W' _; go_simp; try with_reducible rfl)
      try simp only [Act.put, List.setIfInBounds_toArray, List.set_cons_zero, List.set_cons_succ]
      refine wpAnyV_free (i := 12) (v := ?_) (by simp only [List.getElem?_toArray, List.getElem?_cons_zero, List.getElem?_cons_succ]; rfl) (by kernel_rfl) (by kernel_rfl) (by kernel_rfl) (by kernel_rfl) (by exact fun c a w h => HQP0.out c a _ _ w h) (Or.inl ⟨by rfl, ?hyb14⟩) (behind_cons (fun _ => (HPA.out _ HV.out)) (behind_cons (fun _ => (And.intro (HV.out.nb.cell 0) (HV.out.nb.cell 1))) (fun p hp => by cases hp))) ?restb14
      case hyb14 => (intro W' _; go_simp; try with_reducible rfl)
      try simp only [Act.put, List.setIfInBounds_toArray, List.set_cons_zero, List.set_cons_succ]
      refine wpAnyV_free (i := 13) (v := ?_) (by simp only [List.getElem?_toArray, List.getElem?_cons_zero, List.getElem?_cons_succ]; rfl) (by kernel_rfl) (by kernel_rfl) (by kernel_rfl) (by kernel_rfl) (by exact fun c a w h => HQP0.out c a _ _ w h) (Or.inl ⟨by rfl, ?hyb15⟩) (behind_cons (fun _ => (HPA.out _ HV.out)) (behind_cons (fun _ => (And.intro (HV.out.nb.cell 0) (HV.out.nb.cell 1))) (fun p hp => by cases hp))) ?restb15
      case hyb15 => (intro W' _; go_simp; try with_reducible rfl)
      try simp only [Act.put, List.setIfInBounds_toArray, List.set_cons_zero, List.set_cons_succ]
      refine wpAnyV_free (i := 14) (v := ?_) (by simp only [List.getElem?_toArray, List.getElem?_cons_zero, List.getElem?_cons_succ]; rfl) (by kernel_rfl) (by kernel_rfl) (by kernel_rfl) (by kernel_rfl) (by exact fun c a w h => HQP0.out c a _ _ w h) (Or.inl ⟨by rfl, ?hyb16⟩) (behind_cons (fun _ => (HPA.out _ HV.out)) (behind_cons (fun _ => (And.intro (HV.out.nb.cell 0) (HV.out.nb.cell 1))) (fun p hp => by cases hp))) ?restb16
      case hyb16 => (intro W' _; go_simp; try with_reducible rfl)
      try simp only [Act.put, List.setIfInBounds_toArray, List.set_cons_zero, List.set_cons_succ]
      refine wpAnyV_free (i := 15) (v := ?_) (by simp only [List.getElem?_toArray, List.getElem?_cons_zero, List.getElem?_cons_succ]; rfl) (by kernel_rfl) (by kernel_rfl) (by kernel_rfl) (by kernel_rfl) (by exact fun c a w h => HQP0.out c a _ _ w h) (Or.inl ⟨by rfl, ?hyb17⟩) (behind_cons (fun _ => (HPA.out _ HV.out)) (behind_cons (fun _ => (And.intro (HV.out.nb.cell 0) (HV.out.nb.cell 1))) (fun p hp => by cases hp))) ?restb17
      case hyb17 => (intro W' _; go_simp; try with_reducible rfl)
      try simp only [Act.put, List.setIfInBounds_toArray, List.set_cons_zero, List.set_cons_succ]
      refine wpAnyV_free (i := 16) (v := ?_) (by simp only [List.getElem?_toArray, List.getElem?_cons_zero, List.getElem?_cons_succ]; rfl) (by kernel_rfl) (by kernel_rfl) (by kernel_rfl) (by kernel_rfl) (by exact fun c a w h => HQP0.out c a _ _ w h) (Or.inl ⟨by rfl, ?hyb18⟩) (behind_cons (fun _ => (HPA.out _ HV.out)) (behind_cons (fun _ => (And.intro (HV.out.nb.cell 0) (HV.out.nb.cell 1))) (fun p hp => by cases hp))) ?restb18
      case hyb18 => (intro W' _; go_simp; try with_reducible rfl)
      try simp only [Act.put, List.setIfInBounds_toArray, List.set_cons_zero, List.set_cons_succ]
      refine wpAnyV_free (i := 17) (v := ?_) (by simp only [List.getElem?_toArray, List.getElem?_cons_zero, List.getElem?_cons_succ]; rfl) (by kernel_rfl) (by kernel_rfl) (by kernel_rfl) (by kernel_rfl) (by exact fun c a w h => HQP0.out c a _ _ w h) (Or.inl ⟨by rfl, ?hyb19⟩) (behind_cons (fun _ => (HPA.out _ HV.out)) (behind_cons (fun _ => (And.intro (HV.out.nb.cell 0) (HV.out.nb.cell 1))) (fun p hp => by cases hp))) ?restb19
      case hyb19 => (intro W' _; go_simp; try with_reducible rfl)
      try simp only [Act.put, List.setIfInBounds_toArray, List.set_cons_zero, List.set_cons_succ]
      refine wpAnyV_free (i := 18) (v := ?_) (by simp only [List.getElem?_toArray, List.getElem?_cons_zero, List.getElem?_cons_succ]; rfl) (by kernel_rfl) (by kernel_rfl) (by kernel_rfl) (by kernel_rfl) (by exact fun c a w h => HQP0.out c a _ _ w h) (Or.inl ⟨by rfl, ?hyb20⟩) (behind_cons (fun _ => (HPA.out _ HV.out)) (behind_cons (fun _ => (And.intro (HV.out.nb.cell 0) (HV.out.nb.cell 1))) (fun p hp => by cases hp))) ?restb20
      case hyb20 => (intro W' _; go_simp; try with_reducible rfl)
      try simp only [Act.put, List.setIfInBounds_toArray, List.set_cons_zero, List.set_cons_succ]
      refine wpAnyV_ready (rs := [19]) (by kernel_rfl) (by simp) ?_
      refine AllReadyV.cons (by simp only [List.getElem?_toArray, List.getElem?_cons_zero, List.getElem?_cons_succ]; rfl) (fun K hK => ?_) AllReadyV.nil
      go_simp
      go_at_call 15
      (with_reducible refine (HA1.out _).mono ?_)
      rintro e w505 ⟨rfl, rfl⟩
      refine hK.out _ _ (behind_cons (fun _ => (HPA.out _ HV.out)) (behind_cons (fun _ => (And.intro (HV.out.nb.cell 0) (HV.out.nb.cell 1))) (fun p hp => by cases hp))) ?_
      clear hK K
      try simp only [Act.put, List.setIfInBounds_toArray, List.set_cons_zero, List.set_cons_succ]
      refine wpAnyV_free (i := 20) (v := ?_) (by simp only [List.getElem?_toArray, List.getElem?_cons_zero, List.getElem?_cons_succ]; rfl) (by kernel_rfl) (by kernel_rfl) (by kernel_rfl) (by kernel_rfl) (by exact fun c a w h => HQP0.out c a _ _ w h) (Or.inl ⟨by rfl, ?hyb22⟩) (behind_cons (fun _ => (HPA.out _ HV.out)) (behind_cons (fun _ => (And.intro (HV.out.nb.cell 0) (HV.out.nb.cell 1))) (fun p hp => by cases hp))) ?restb22
      case hyb22 => (intro W' _; go_simp; try with_reducible rfl)
      try simp only [Act.put, List.setIfInBounds_toArray, List.set_cons_zero, List.set_cons_succ]
      refine wpAnyV_free (i := 21) (v := ?_) (by simp only [List.getElem?_toArray, List.getElem?_cons_zero, List.getElem?_cons_succ]; rfl) (by kernel_rfl) (by kernel_rfl) (by kernel_rfl) (by kernel_rfl) (by exact fun c a w h => HQP0.out c a _ _ w h) (Or.inl ⟨by rfl, ?hyb23⟩) (behind_cons (fun _ => (HPA.out _ HV.out)) (behind_cons (fun _ => (And.intro (HV.out.nb.cell 0) (HV.out.nb.cell 1))) (fun p hp => by cases hp))) ?restb23
      case hyb23 => (intro W' _; go_simp; try with_reducible rfl)
      try simp only [Act.put, List.setIfInBounds_toArray, List.set_cons_zero, List.set_cons_succ]
      refine wpAnyV_free (i := 22) (v := ?_) (by simp only [List.getElem?_toArray, List.getElem?_cons_zero, List.getElem?_cons_succ]; rfl) (by kernel_rfl) (by kernel_rfl) (by kernel_rfl) (by kernel_rfl) (by exact fun c a w h => HQP0.out c a _ _ w h) (Or.inl ⟨by rfl, ?hyb24⟩) (behind_cons (fun _ => (HPA.out _ HV.out)) (behind_cons (fun _ => (And.intro (HV.out.nb.cell 0) (HV.out.nb.cell 1))) (fun p hp => by cases hp))) ?restb24
      case hyb24 => (intro W' _; go_simp; try with_reducible rfl)
      try simp only [Act.put, List.setIfInBounds_toArray, List.set_cons_zero, List.set_cons_succ]
      refine wpAnyV_free (i := 23) (v := ?_) (by simp only [List.getElem?_toArray, List.getElem?_cons_zero, List.getElem?_cons_succ]; rfl) (by kernel_rfl) (by kernel_rfl) (by kernel_rfl) (by kernel_rfl) (by exact fun c a w h => HQP0.out c a _ _ w h) (Or.inl ⟨by rfl, ?hyb25⟩) (behind_cons (fun _ => (HPA.out _ HV.out)) (behind_cons (fun _ => (And.intro (HV.out.nb.cell 0) (HV.out.nb.cell 1))) (fun p hp => by cases hp))) ?restb25
      case hyb25 => (intro W' _; go_simp; try with_reducible rfl)
      try simp only [Act.put, List.setIfInBounds_toArray, List.set_cons_zero, List.set_cons_succ]
      refine wpAnyV_free (i := 24) (v := ?_) (by simp only [List.getElem?_toArray, List.getElem?_cons_zero, List.getElem?_cons_succ]; rfl) (by kernel_rfl) (by kernel_rfl) (by kernel_rfl) (by kernel_rfl) (by exact fun c a w h => HQP0.out c a _ _ w h) (Or.inl ⟨by rfl, ?hyb26⟩) (behind_cons (fun _ => (HPA.out _ HV.out)) (behind_cons (fun _ => (And.intro (HV.out.nb.cell 0) (HV.out.nb.cell 1))) (fun p hp => by cases hp))) ?restb26
      case hyb26 => (intro W' _; go_simp; try with_reducible rfl)
      try simp only [Act.put, List.setIfInBounds_toArray, List.set_cons_zero, List.set_cons_succ]
      refine wpAnyV_free (i := 25) (v := ?_) (by simp only [List.getElem?_toArray, List.getElem?_cons_zero, List.getElem?_cons_succ]; rfl) (by kernel_rfl) (by kernel_rfl) (by kernel_rfl) (by kernel_rfl) (by exact fun c a w h => HQP0.out c a _ _ w h) (Or.inl ⟨by rfl, ?hyb27⟩) (behind_cons (fun _ => (HPA.out _ HV.out)) (behind_cons (fun _ => (And.intro (HV.out.nb.cell 0) (HV.out.nb.cell 1))) (fun p hp => by cases hp))) ?restb27
      case hyb27 => (intro W' _; go_simp; try with_reducible rfl)
      try simp only [Act.put, List.setIfInBounds_toArray, List.set_cons_zero, List.set_cons_succ]
      refine wpAnyV_free (i := 26) (v := ?_) (by simp only [List.getElem?_toArray, List.getElem?_cons_zero, List.getElem?_cons_succ]; rfl) (by kernel_rfl) (by kernel_rfl) (by kernel_rfl) (by kernel_rfl) (by exact fun c a w h => HQP0.out c a _ _ w h) (Or.inl ⟨by rfl, ?hyb28⟩) (behind_cons (fun _ => (HPA.out _ HV.out)) (behind_cons (fun _ => (And.intro (HV.out.nb.cell 0) (HV.out.nb.cell 1))) (fun p hp => by cases hp))) ?restb28
      case hyb28 => (intro W' _; go_simp; try with_reducible rfl)
      try simp only [Act.put, List.setIfInBounds_toArray, List.set_cons_zero, List.set_cons_succ]
      refine wpAnyV_ready (rs := [27]) (by kernel_rfl) (by simp) ?_
      refine AllReadyV.cons (by simp only [List.getElem?_toArray, List.getElem?_cons_zero, List.getElem?_cons_succ]; rfl) (fun K hK => ?_) AllReadyV.nil
      go_simp
      go_at_call 15
      (with_reducible refine (HA2.out _).mono ?_)
      rintro e w506 ⟨rfl, rfl⟩
      refine hK.out _ _ (behind_cons (fun _ => (HPA.out _ HV.out)) (behind_cons (fun _ => (And.intro (HV.out.nb.cell 0) (HV.out.nb.cell 1))) (fun p hp => by cases hp))) ?_
      clear hK K
      try simp only [Act.put, List.setIfInBounds_toArray, List.set_cons_zero, List.set_cons_succ]
      refine wpAnyV_free (i := 28) (v := ?_) (by simp only [List.getElem?_toArray, List.getElem?_cons_zero, List.getElem?_cons_succ]; rfl) (by kernel_rfl) (by kernel_rfl) (by kernel_rfl) (by kernel_rfl) (by exact fun c a w h => HQP0.out c a _ _ w h) (Or.inl ⟨by rfl, ?hyb30⟩) (behind_cons (fun _ => (HPA.out _ HV.out)) (behind_cons (fun _ => (And.intro (HV.out.nb.cell 0) (HV.out.nb.cell 1))) (fun p hp => by cases hp))) ?restb30
      case hyb30 => (intro W' _; go_simp; try with_reducible rfl)
      try simp only [Act.put, List.setIfInBounds_toArray, List.set_cons_zero, List.set_cons_succ]
      refine wpAnyV_free (i := 29) (v := ?_) (by simp only [List.getElem?_toArray, List.getElem?_cons_zero, List.getElem?_cons_succ]; rfl) (by kernel_rfl) (by kernel_rfl) (by kernel_rfl) (by kernel_rfl) (by exact fun c a w h => HQP0.out c a _ _ w h) (Or.inl ⟨by rfl, ?hyb31⟩) (behind_cons (fun _ => (HPA.out _ HV.out)) (behind_cons (fun _ => (And.intro (HV.out.nb.cell 0) (HV.out.nb.cell 1))) (fun p hp => by cases hp))) ?restb31
      case hyb31 => (intro W' _; go_simp; try with_reducible rfl)
      try simp only [Act.put, List.setIfInBounds_toArray, List.set_cons_zero, List.set_cons_succ]
      refine wpAnyV_done (by kernel_rfl) ?_ _
      have HE9 := Lib.hid HV.out.le
      go_wp2_with fail
      go_roundg (gk - 1)
      case measure => omega
      case rel => exact ⟨i + 1, by omega, by go_num, HE9.out⟩
    · go_wp2_with fail
      exact HEX.out _ _ _ _ _ _ _ _ _ _ _ _ _ _ _ _ _ _ _ _ _ _ _ _ _ _ _ _ _ _ _ _ _ _ _ _ _ _ _ _ _ _ _ _ _ _ _ _ _ _ _ _ _ _ _ _ _ _ _ _ _ _ _ _ _ _ _ _ _ _ _ _ _ _ _ _ _ _ _ _ _ _ _ _ _ _ _ _ _ _ _ _ _ _ _ _ _ _ _ _ _ _ _ _ _ _ _ _ _ _ _ HE.out
set_option maxRecDepth 100000 in
set_option maxHeartbeats 8000000 in
theorem ends_eras (w W0 : World) (g bd gt ct ga ca cb : Nat) (Ab : Option Addr) (d : Dat) (ve vn : Value) (hl : Little d) (hyes : d.all ≠ [])
    (s0 s1 s2 s6 s7 s9 s10 s11 s12 s13 s14 s15 s16 s17 s18 s19 s20 s21 s23 s24 s25 s26 s27 s28 s29 s30 s31 s32 s33 s34 s35 s36 s37 s38 s39 s40 s41 s42 s43 s44 s45 s46 s47 s48 s49 s50 s51 s52 s53 s54 s55 s56 s57 s58 s59 s60 s61 s62 s63 s64 s65 s66 s67 s68 s69 s70 s71 s72 s73 s74 s75 s76 s77 s78 s79 s80 s81 s82 s83 s84 s85 s86 s87 s88 s89 s90 s91 s92 s93 s94 s95 s96 s97 s98 s99 s100 s101 s102 s103 s104 s105 s106 s107 s108 s109 s110 s111 s112 s113 s114 s115 s116 s117 s118 s119 s120 s121 s122 s123 s124 s125 s126 s127 s128 s129 s130 s131 s132 s133 s134 s135 s136 s137 s138 s139 s140 s141 s142 s143 s144 s145 s146 s147 s148 s149 s150 s151 s152 s153 s154 s155 s156 s157 s158 s159 s160 s161 s162 s163 s164 s165 s166 s167 s168 s169 s170 s171 s172 s173 s174 s175 s176 s177 s178 s179 s180 s181 s182 s183 s184 s185 s186 s187 s188 s189 s190 s191 s192 s193 s194 s195 s196 s197 s198 s199 s200 s201 s202 s203 s204 s205 s206 s207 s208 s209 s210 s211 s212 s213 s214 s215 s216 s217 s218 s219 s220 s221 s222 s223 : Value) (Q : Exit → Act → World → Prop) (h0 : LE w g bd d ve vn (.slice (some ⟨gt, 0, none⟩) (allP d).length ct) (allP d) [(.slice (some ⟨ga, 0, none⟩) d.stones ca, spanList d 1 d.stones), (.slice Ab d.eras.length cb, spanList d 7 d.eras.length)] W0) (hqp : ∀ c a dst v w, Q (.panic c) (Act.put a dst v) w → Q (.panic c) a w)
    (hexit : ∀ (u2 u22 u23 u24 u181 u182 u183 u184 u185 u186 u187 u188 u189 u190 u191 u192 u193 u194 u195 u196 u197 u198 u199 u200 u201 u202 u203 u204 u205 u206 u207 u208 u209 u210 u211 u212 u213 u214 u215 u216 u217 u218 u219 u220 u221 u222 : Value) (wx : World), LE w g bd d ve vn (.slice (some ⟨gt, 0, none⟩) (allP d).length ct) (allP d) [(.slice (some ⟨ga, 0, none⟩) d.stones ca, spanList d 1 d.stones), (.slice Ab d.eras.length cb, spanList d 7 d.eras.length)] wx → Q (.exit 4) ⟨List.toArray (s0 :: s1 :: u2 :: Value.pointer (some ⟨g, 0, none⟩) :: Value.pointer (some ⟨bd, 0, none⟩) :: Value.slice (some ⟨gt, 0, none⟩) (allP d).length ct :: s6 :: s7 :: Value.slice Ab d.eras.length cb :: s9 :: s10 :: s11 :: s12 :: s13 :: s14 :: s15 :: s16 :: s17 :: s18 :: s19 :: s20 :: s21 :: u22 :: u23 :: u24 :: s25 :: s26 :: s27 :: s28 :: s29 :: s30 :: s31 :: s32 :: s33 :: s34 :: s35 :: s36 :: s37 :: s38 :: s39 :: s40 :: s41 :: s42 :: s43 :: s44 :: s45 :: s46 :: s47 :: s48 :: s49 :: s50 :: s51 :: s52 :: s53 :: s54 :: s55 :: s56 :: s57 :: s58 :: s59 :: s60 :: s61 :: s62 :: s63 :: s64 :: s65 :: s66 :: s67 :: s68 :: s69 :: s70 :: s71 :: s72 :: s73 :: s74 :: s75 :: s76 :: s77 :: s78 :: s79 :: s80 :: s81 :: s82 :: s83 :: s84 :: s85 :: s86 :: s87 :: s88 :: s89 :: s90 :: s91 :: s92 :: s93 :: s94 :: s95 :: s96 :: s97 :: s98 :: s99 :: s100 :: s101 :: s102 :: s103 :: s104 :: s105 :: s106 :: s107 :: s108 :: s109 :: s110 :: s111 :: s112 :: s113 :: s114 :: s115 :: s116 :: s117 :: s118 :: s119 :: s120 :: s121 :: s122 :: s123 :: s124 :: s125 :: s126 :: s127 :: s128 :: s129 :: s130 :: s131 :: s132 :: s133 :: s134 :: s135 :: s136 :: s137 :: s138 :: s139 :: s140 :: s141 :: s142 :: s143 :: s144 :: s145 :: s146 :: s147 :: s148 :: s149 :: s150 :: s151 :: s152 :: s153 :: s154 :: s155 :: s156 :: s157 :: s158 :: s159 :: s160 :: s161 :: s162 :: s163 :: s164 :: s165 :: s166 :: s167 :: s168 :: s169 :: s170 :: s171 :: s172 :: s173 :: s174 :: s175 :: s176 :: s177 :: s178 :: s179 :: s180 :: u181 :: u182 :: u183 :: u184 :: u185 :: u186 :: u187 :: u188 :: u189 :: u190 :: u191 :: u192 :: u193 :: u194 :: u195 :: u196 :: u197 :: u198 :: u199 :: u200 :: u201 :: u202 :: u203 :: u204 :: u205 :: u206 :: u207 :: u208 :: u209 :: u210 :: u211 :: u212 :: u213 :: u214 :: u215 :: u216 :: u217 :: u218 :: u219 :: u220 :: u221 :: u222 :: s223 :: []), []⟩ wx) :
    Code.wp Tryz.prog (eLoop 4) Q ⟨List.toArray (s0 :: s1 :: s2 :: Value.pointer (some ⟨g, 0, none⟩) :: Value.pointer (some ⟨bd, 0, none⟩) :: Value.slice (some ⟨gt, 0, none⟩) (allP d).length ct :: s6 :: s7 :: Value.slice Ab d.eras.length cb :: s9 :: s10 :: s11 :: s12 :: s13 :: s14 :: s15 :: s16 :: s17 :: s18 :: s19 :: s20 :: s21 :: Value.int .i64 (0 : Nat) :: s23 :: s24 :: s25 :: s26 :: s27 :: s28 :: s29 :: s30 :: s31 :: s32 :: s33 :: s34 :: s35 :: s36 :: s37 :: s38 :: s39 :: s40 :: s41 :: s42 :: s43 :: s44 :: s45 :: s46 :: s47 :: s48 :: s49 :: s50 :: s51 :: s52 :: s53 :: s54 :: s55 :: s56 :: s57 :: s58 :: s59 :: s60 :: s61 :: s62 :: s63 :: s64 :: s65 :: s66 :: s67 :: s68 :: s69 :: s70 :: s71 :: s72 :: s73 :: s74 :: s75 :: s76 :: s77 :: s78 :: s79 :: s80 :: s81 :: s82 :: s83 :: s84 :: s85 :: s86 :: s87 :: s88 :: s89 :: s90 :: s91 :: s92 :: s93 :: s94 :: s95 :: s96 :: s97 :: s98 :: s99 :: s100 :: s101 :: s102 :: s103 :: s104 :: s105 :: s106 :: s107 :: s108 :: s109 :: s110 :: s111 :: s112 :: s113 :: s114 :: s115 :: s116 :: s117 :: s118 :: s119 :: s120 :: s121 :: s122 :: s123 :: s124 :: s125 :: s126 :: s127 :: s128 :: s129 :: s130 :: s131 :: s132 :: s133 :: s134 :: s135 :: s136 :: s137 :: s138 :: s139 :: s140 :: s141 :: s142 :: s143 :: s144 :: s145 :: s146 :: s147 :: s148 :: s149 :: s150 :: s151 :: s152 :: s153 :: s154 :: s155 :: s156 :: s157 :: s158 :: s159 :: s160 :: s161 :: s162 :: s163 :: s164 :: s165 :: s166 :: s167 :: s168 :: s169 :: s170 :: s171 :: s172 :: s173 :: s174 :: s175 :: s176 :: s177 :: s178 :: s179 :: s180 :: s181 :: s182 :: s183 :: s184 :: s185 :: s186 :: s187 :: s188 :: s189 :: s190 :: s191 :: s192 :: s193 :: s194 :: s195 :: s196 :: s197 :: s198 :: s199 :: s200 :: s201 :: s202 :: s203 :: s204 :: s205 :: s206 :: s207 :: s208 :: s209 :: s210 :: s211 :: s212 :: s213 :: s214 :: s215 :: s216 :: s217 :: s218 :: s219 :: s220 :: s221 :: s222 :: s223 :: []), []⟩ W0 := by
  have HEX := Lib.hid hexit
  have HQP0 := Lib.hid hqp
  have HE0 := Lib.hid h0
  have HL := Lib.hid hl
  have HMAY := Lib.hid ((may_iff hl.ok).2 hyes)
  have her1 := hl.er1
  have hlen := allP_len hl
  have hlen3 : (allP d).length ≤ 3000 := by omega
  clear hexit hqp h0 hl hyes hlen
  conv => arg 2; whnf
  go_loopg [22] d.eras.length (fun r vi wr => ∃ i : Nat, i + r = d.eras.length ∧ vi = .int .i64 (i : Nat) ∧ LE w g bd d ve vn (.slice (some ⟨gt, 0, none⟩) (allP d).length ct) (allP d) [(.slice (some ⟨ga, 0, none⟩) d.stones ca, spanList d 1 d.stones), (.slice Ab d.eras.length cb, spanList d 7 d.eras.length)] wr)
  case atStart => exact ⟨0, by omega, rfl, HE0.out⟩
  case round =>
    clear HE0
    obtain ⟨i, hir, rfl, hs⟩ := hrel
    have HE := Lib.hid hs
    clear hs
    by_cases hi : i < d.eras.length
    · obtain ⟨gb, rfl⟩ : ∃ gb, Ab = some ⟨gb, 0, none⟩ := by
        have hr : wr.ownsRow w.heap.size 33 2 (.slice Ab d.eras.length cb) (spanList d 7 d.eras.length).length (flatS (spanList d 7 d.eras.length)) := HE.out.row 1 rfl
        rw [show (spanList d 7 d.eras.length).length = d.eras.length by simp [spanList]] at hr
        exact own_addr hr (by omega)
      go_wp2_with fail
      refine (to_any 99 (-99) _).mono ?_
      rintro e w1 ⟨rfl, hb1⟩
      have HE1 := Lib.hid (HE.out.to hb1)
      clear hb1 HE
      go_upto_region 32 with fail
      obtain ⟨bs, hbs⟩ : ∃ bs, bs = w1.heap.size := ⟨_, rfl⟩
      obtain ⟨w4, hw4⟩ : ∃ w4, w4 = w1.alloc (.cells #[.int .i64 99, .int .i64 (-99)] 33) := ⟨_, rfl⟩
      have HS1 := Lib.hid (HE1.out.var 99 (-99))
      rw [← hw4, ← hbs] at HS1
      rw [← hw4, ← hbs]
      clear hw4 hbs HE1
      go_wp2_with fail
      refine ends_in2 w _ g bd bs gt ct i d ve vn (allP d) [(.slice (some ⟨ga, 0, none⟩) d.stones ca, spanList d 1 d.stones), (.slice (some ⟨gb, 0, none⟩) d.eras.length cb, spanList d 7 d.eras.length)] (fun p : List Int × List Int => p.2.getD i 0) hlen3 hi (fun p hp => (allP_is HL.out hp).2.1) (fun _ _ => rfl) _ _ _ _ _ _ _ _ _ _ _ _ _ _ _ _ _ _ _ _ _ _ _ _ _ _ _ _ _ _ _ _ _ _ _ _ _ _ _ _ _ _ _ _ _ _ _ _ _ _ _ _ _ _ _ _ _ _ _ _ _ _ _ _ _ _ _ _ _ _ _ _ _ _ _ _ _ _ _ _ _ _ _ _ _ _ _ _ _ _ _ _ _ _ _ _ _ _ _ _ _ _ _ _ _ _ _ _ _ _ _ _ _ _ _ _ _ _ _ _ _ _ _ _ _ _ _ _ _ _ _ _ _ _ _ _ _ _ _ _ _ _ _ _ _ _ _ _ _ _ _ _ _ _ _ _ _ _ _ _ _ _ _ _ _ _ _ _ _ _ _ _ _ _ _ _ _ _ _ _ _ _ _ _ _ _ _ _ _ _ _ _ _ _ _ _ _ _ _ _ _ _ _ _ _ _ _ _ _ _ _ _ _ _ _ _ _ _ _ _ _ HS1.out ?hqp ?_
      case hqp => exact fun c a dst v w h => HQP0.out c a dst v w h
      intro _ _ _ _ _ _ _ _ _ _ _ _ _ _ _ _ _ _ _ _ _ _ _ _ _ _ _ _ _ _ w6 hs6
      have hse := era_ends HL.out HMAY.out hi
      have hp1 : lowOf ((allP d).map (fun p : List Int × List Int => p.2.getD i 0)) = (d.span (7 + i)).1 := congrArg Prod.fst hse
      have hp2 : highOf ((allP d).map (fun p : List Int × List Int => p.2.getD i 0)) = (d.span (7 + i)).2 := congrArg Prod.snd hse
      rw [hp1, hp2] at hs6
      obtain ⟨p, hp⟩ : ∃ p, p = d.span (7 + i) := ⟨_, rfl⟩
      rw [← hp] at hs6
      obtain ⟨u1, u2⟩ := flatS_at (spanList d 7 d.eras.length) i p (by rw [hp]; simp [spanList, hi])
      have HPA := Lib.hid (fun (W : World) (h : LS w g bd d ve vn (.slice (some ⟨gt, 0, none⟩) (allP d).length ct) (allP d) [(.slice (some ⟨ga, 0, none⟩) d.stones ca, spanList d 1 d.stones), (.slice (some ⟨gb, 0, none⟩) d.eras.length cb, spanList d 7 d.eras.length)] bs p.1 p.2 W) => (show W.cell? ⟨gb, i * 2, none⟩ = some (.int .i64 p.1) ∧ W.cell? ⟨gb, i * 2 + 1, none⟩ = some (.int .i64 p.2) from by
        have hr : W.ownsRow w.heap.size 33 2 (.slice (some ⟨gb, 0, none⟩) d.eras.length cb) (spanList d 7 d.eras.length).length (flatS (spanList d 7 d.eras.length)) := h.le.row 1 rfl
        have hln : (spanList d 7 d.eras.length).length = d.eras.length := by simp [spanList]
        rw [hln] at hr
        exact ⟨(hr.cellAt (i * 2) (by omega)).trans u1, (hr.cellAt (i * 2 + 1) (by omega)).trans u2⟩))
      have HS6 := Lib.hid hs6
      clear hse hp1 hp2 hs6 hp u1 u2 HS1
      go_wp2_with fail
      refine wp_region_v [(fun j => j == 3 || j == 4 || j == 5, fun W => W.cell? ⟨gb, i * 2, none⟩ = some (.int .i64 p.1) ∧ W.cell? ⟨gb, i * 2 + 1, none⟩ = some (.int .i64 p.2)), (fun j => j == 4 || j == 5, fun W => W.cell? ⟨bs, 0, none⟩ = some (.int .i64 p.1) ∧ W.cell? ⟨bs, 1, none⟩ = some (.int .i64 p.2))] (by kernel_rfl) ?_
      refine wpAnyV_world (fun W => LS w g bd d ve vn (.slice (some ⟨gt, 0, none⟩) (allP d).length ct) (allP d) [(.slice (some ⟨ga, 0, none⟩) d.stones ca, spanList d 1 d.stones), (.slice (some ⟨gb, 0, none⟩) d.eras.length cb, spanList d 7 d.eras.length)] bs p.1 p.2 W) HS6.out.drew (fun V hV => ?_)
      have HV := Lib.hid hV
      clear hV
      refine wpAnyV_free (i := 0) (v := ?_) (by simp only [List.getElem?_toArray, List.getElem?_cons_zero]; rfl) (by kernel_rfl) (by kernel_rfl) (by kernel_rfl) (by kernel_rfl) (by exact fun c a w h => HQP0.out c a _ _ w h) (Or.inl ⟨by rfl, ?hyc2⟩) (behind_cons (fun h => by simp at h) (behind_cons (fun h => by simp at h) (fun p hp => by cases hp))) ?restc2
      case hyc2 => (intro W' _; go_simp; try with_reducible rfl)
      try simp only [Act.put, List.setIfInBounds_toArray, List.set_cons_zero, List.set_cons_succ]
      refine wpAnyV_free (i := 1) (v := ?_) (by simp only [List.getElem?_toArray, List.getElem?_cons_zero, List.getElem?_cons_succ]; rfl) (by kernel_rfl) (by kernel_rfl) (by kernel_rfl) (by kernel_rfl) (by exact fun c a w h => HQP0.out c a _ _ w h) (Or.inl ⟨by rfl, ?hyc3⟩) (behind_cons (fun h => by simp at h) (behind_cons (fun h => by simp at h) (fun p hp => by cases hp))) ?restc3
      case hyc3 => (intro W' _; go_simp; try with_reducible rfl)
      try simp only [Act.put, List.setIfInBounds_toArray, List.set_cons_zero, List.set_cons_succ]
      refine wpAnyV_free (i := 2) (v := ?_) (by simp only [List.getElem?_toArray, List.getElem?_cons_zero, List.getElem?_cons_succ]; rfl) (by kernel_rfl) (by kernel_rfl) (by kernel_rfl) (by kernel_rfl) (by exact fun c a w h => HQP0.out c a _ _ w h) (Or.inl ⟨by rfl, ?hyc4⟩) (behind_cons (fun h => by simp at h) (behind_cons (fun h => by simp at h) (fun p hp => by cases hp))) ?restc4
      case hyc4 => (intro W' _; go_simp; try with_reducible rfl)
      try simp only [Act.put, List.setIfInBounds_toArray, List.set_cons_zero, List.set_cons_succ]
      refine wpAnyV_take (i := 3) (m := 0) (v := ?_) (by simp only [List.getElem?_toArray, List.getElem?_cons_zero, List.getElem?_cons_succ]; rfl) (by rfl) (by kernel_rfl) (by kernel_rfl) (by kernel_rfl) (by kernel_rfl) (by exact fun c a w h => HQP0.out c a _ _ w h) (Or.inl ⟨by rfl, ?hyc5⟩) ((HPA.out _ HV.out)) (behind_cons (fun _ => (HPA.out _ HV.out)) (behind_cons (fun h => by simp at h) (fun p hp => by cases hp))) ?restc5
      case hyc5 => (intro W' hSW; try obtain ⟨hSW1, hSW2⟩ := hSW; go_simp; try with_reducible rfl)
      try simp only [Act.put, List.setIfInBounds_toArray, List.set_cons_zero, List.set_cons_succ]
      refine wpAnyV_take (i := 4) (m := 1) (v := ?_) (by simp only [List.getElem?_toArray, List.getElem?_cons_zero, List.getElem?_cons_succ]; rfl) (by rfl) (by kernel_rfl) (by kernel_rfl) (by kernel_rfl) (by kernel_rfl) (by exact fun c a w h => HQP0.out c a _ _ w h) (Or.inl ⟨by rfl, ?hyc6⟩) ((And.intro (HV.out.nb.cell 0) (HV.out.nb.cell 1))) (behind_cons (fun _ => (HPA.out _ HV.out)) (behind_cons (fun _ => (And.intro (HV.out.nb.cell 0) (HV.out.nb.cell 1))) (fun p hp => by cases hp))) ?restc6
      case hyc6 => (intro W' hSW; try obtain ⟨hSW1, hSW2⟩ := hSW; go_simp; try with_reducible rfl)
      try simp only [Act.put, List.setIfInBounds_toArray, List.set_cons_zero, List.set_cons_succ]
      refine wpAnyV_free (i := 5) (v := ?_) (by simp only [List.getElem?_toArray, List.getElem?_cons_zero, List.getElem?_cons_succ]; rfl) (by kernel_rfl) (by kernel_rfl) (by kernel_rfl) (by kernel_rfl) (by exact fun c a w h => HQP0.out c a _ _ w h) (Or.inl ⟨by rfl, ?hyc7⟩) (behind_cons (fun _ => (HPA.out _ HV.out)) (behind_cons (fun _ => (And.intro (HV.out.nb.cell 0) (HV.out.nb.cell 1))) (fun p hp => by cases hp))) ?restc7
      case hyc7 => (intro W' _; go_simp; try with_reducible rfl)
      try simp only [Act.put, List.setIfInBounds_toArray, List.set_cons_zero, List.set_cons_succ]
      refine wpAnyV_done (by kernel_rfl) ?_ _
      have HE9 := Lib.hid HV.out.le
      go_wp2_with fail
      go_roundg (gk - 1)
      case measure => omega
      case rel => exact ⟨i + 1, by omega, by go_num, HE9.out⟩
    · go_wp2_with fail
      exact HEX.out _ _ _ _ _ _ _ _ _ _ _ _ _ _ _ _ _ _ _ _ _ _ _ _ _ _ _ _ _ _ _ _ _ _ _ _ _ _ _ _ _ _ _ _ _ _ _ HE.out
end Go.Proofs.YtmfjfjahemlhkaaGreat
