/- DateEnds: the loops over all truths. -/
import Derived.Test.YtmfjfjahemlhkaaGreatPr
namespace Go.Proofs.YtmfjfjahemlhkaaGreat
open Go.RowKit Dt

noncomputable def eLoop (n : Nat) : Code := (Tryz.f3.body.bind (findBlock n)).getD .skip
set_option maxRecDepth 100000 in
set_option maxHeartbeats 8000000 in
theorem ends_in (w W0 : World) (g bd bs gt ct i other : Nat) (year : Int) (d : Dat) (ve vn : Value) (L : List (List Int × List Int)) (R : List (Value × List (Int × Int))) (fY : List Int × List Int → Int) (fC fB : List Int × List Int → Bool)
    (hL : L.length ≤ 3000) (hi : i < d.stones) (ho : other < d.stones) (hlen : ∀ p ∈ L, p.1.length = d.stones)
    (hY : ∀ p ∈ L, fY p = p.1.getD i 0) (hC : ∀ p ∈ L, fC p = decide (p.1.getD i 0 = year)) (hB : ∀ p ∈ L, fB p = decide (p.1.getD i 0 < p.1.getD other 0))
    (s0 s1 s2 s3 s6 s7 s8 s9 s17 s18 s19 s20 s21 s22 s23 s24 s25 s26 s27 s28 s29 s30 s31 s32 s33 s34 s35 s36 s37 s38 s39 s40 s41 s42 s43 s44 s45 s46 s47 s48 s49 s50 s51 s52 s53 s54 s55 s56 s57 s58 s59 s60 s61 s62 s63 s64 s65 s66 s67 s68 s69 s70 s71 s72 s73 s74 s75 s76 s77 s78 s79 s80 s81 s82 s83 s84 s85 s86 s87 s88 s89 s90 s91 s92 s93 s94 s95 s96 s97 s98 s99 s100 s101 s102 s103 s104 s105 s106 s107 s108 s109 s110 s111 s112 s113 s114 s115 s116 s117 s118 s119 s120 s121 s122 s123 s124 s125 s126 s127 s128 s129 s130 s131 s132 s133 s134 s135 s136 s137 s138 s139 s140 s141 s142 s143 s144 s145 s146 s147 s148 s149 s150 s151 s152 s153 s154 s155 s156 s157 s158 s159 s160 s161 s162 s163 s164 s165 s166 s167 s168 s169 s170 s171 s172 s173 s174 s175 s176 s177 s178 s179 s180 s181 s182 s183 s184 s185 s186 s187 s188 s189 s190 s191 s192 s193 s194 s195 s196 s197 s198 s199 s200 s201 s202 s203 s204 s205 s206 s207 s208 s209 s210 s211 s212 s213 s214 s215 s216 s217 s218 s219 s220 s221 s222 s223 : Value) (Q : Exit → Act → World → Prop) (h0 : LS w g bd d ve vn (.slice (some ⟨gt, 0, none⟩) L.length ct) L R bs 99 (-99) W0)
    (hexit : ∀ (u16 u17 u97 u98 u99 u100 u101 u102 u103 u104 u105 u106 u107 u108 u109 u110 u111 u112 u113 u114 u115 u116 u117 u118 u119 u120 u121 u122 u123 u124 u125 u126 u127 u128 u129 u130 u131 u132 u133 u134 u135 u136 : Value) (wx : World), LS w g bd d ve vn (.slice (some ⟨gt, 0, none⟩) L.length ct) L R bs (lowOf (L.map fY)) (highOf (L.map fY)) wx → Q (.exit 2) ⟨List.toArray (s0 :: s1 :: s2 :: s3 :: Value.pointer (some ⟨bd, 0, none⟩) :: Value.slice (some ⟨gt, 0, none⟩) L.length ct :: s6 :: s7 :: s8 :: s9 :: Value.int .i64 (i : Nat) :: Value.pointer (some ⟨bs, 0, none⟩) :: Value.int .i64 (year : Int) :: Value.int .i64 (other : Nat) :: Value.int .i64 (L.countP fC : Nat) :: Value.int .i64 (L.countP fB : Nat) :: u16 :: u17 :: s18 :: s19 :: s20 :: s21 :: s22 :: s23 :: s24 :: s25 :: s26 :: s27 :: s28 :: s29 :: s30 :: s31 :: s32 :: s33 :: s34 :: s35 :: s36 :: s37 :: s38 :: s39 :: s40 :: s41 :: s42 :: s43 :: s44 :: s45 :: s46 :: s47 :: s48 :: s49 :: s50 :: s51 :: s52 :: s53 :: s54 :: s55 :: s56 :: s57 :: s58 :: s59 :: s60 :: s61 :: s62 :: s63 :: s64 :: s65 :: s66 :: s67 :: s68 :: s69 :: s70 :: s71 :: s72 :: s73 :: s74 :: s75 :: s76 :: s77 :: s78 :: s79 :: s80 :: s81 :: s82 :: s83 :: s84 :: s85 :: s86 :: s87 :: s88 :: s89 :: s90 :: s91 :: s92 :: s93 :: s94 :: s95 :: s96 :: u97 :: u98 :: u99 :: u100 :: u101 :: u102 :: u103 :: u104 :: u105 :: u106 :: u107 :: u108 :: u109 :: u110 :: u111 :: u112 :: u113 :: u114 :: u115 :: u116 :: u117 :: u118 :: u119 :: u120 :: u121 :: u122 :: u123 :: u124 :: u125 :: u126 :: u127 :: u128 :: u129 :: u130 :: u131 :: u132 :: u133 :: u134 :: u135 :: u136 :: s137 :: s138 :: s139 :: s140 :: s141 :: s142 :: s143 :: s144 :: s145 :: s146 :: s147 :: s148 :: s149 :: s150 :: s151 :: s152 :: s153 :: s154 :: s155 :: s156 :: s157 :: s158 :: s159 :: s160 :: s161 :: s162 :: s163 :: s164 :: s165 :: s166 :: s167 :: s168 :: s169 :: s170 :: s171 :: s172 :: s173 :: s174 :: s175 :: s176 :: s177 :: s178 :: s179 :: s180 :: s181 :: s182 :: s183 :: s184 :: s185 :: s186 :: s187 :: s188 :: s189 :: s190 :: s191 :: s192 :: s193 :: s194 :: s195 :: s196 :: s197 :: s198 :: s199 :: s200 :: s201 :: s202 :: s203 :: s204 :: s205 :: s206 :: s207 :: s208 :: s209 :: s210 :: s211 :: s212 :: s213 :: s214 :: s215 :: s216 :: s217 :: s218 :: s219 :: s220 :: s221 :: s222 :: s223 :: []), []⟩ wx) :
    Code.wp Tryz.prog (eLoop 2) Q ⟨List.toArray (s0 :: s1 :: s2 :: s3 :: Value.pointer (some ⟨bd, 0, none⟩) :: Value.slice (some ⟨gt, 0, none⟩) L.length ct :: s6 :: s7 :: s8 :: s9 :: Value.int .i64 (i : Nat) :: Value.pointer (some ⟨bs, 0, none⟩) :: Value.int .i64 (year : Int) :: Value.int .i64 (other : Nat) :: Value.int .i64 (0 : Nat) :: Value.int .i64 (0 : Nat) :: Value.int .i64 (0 : Nat) :: s17 :: s18 :: s19 :: s20 :: s21 :: s22 :: s23 :: s24 :: s25 :: s26 :: s27 :: s28 :: s29 :: s30 :: s31 :: s32 :: s33 :: s34 :: s35 :: s36 :: s37 :: s38 :: s39 :: s40 :: s41 :: s42 :: s43 :: s44 :: s45 :: s46 :: s47 :: s48 :: s49 :: s50 :: s51 :: s52 :: s53 :: s54 :: s55 :: s56 :: s57 :: s58 :: s59 :: s60 :: s61 :: s62 :: s63 :: s64 :: s65 :: s66 :: s67 :: s68 :: s69 :: s70 :: s71 :: s72 :: s73 :: s74 :: s75 :: s76 :: s77 :: s78 :: s79 :: s80 :: s81 :: s82 :: s83 :: s84 :: s85 :: s86 :: s87 :: s88 :: s89 :: s90 :: s91 :: s92 :: s93 :: s94 :: s95 :: s96 :: s97 :: s98 :: s99 :: s100 :: s101 :: s102 :: s103 :: s104 :: s105 :: s106 :: s107 :: s108 :: s109 :: s110 :: s111 :: s112 :: s113 :: s114 :: s115 :: s116 :: s117 :: s118 :: s119 :: s120 :: s121 :: s122 :: s123 :: s124 :: s125 :: s126 :: s127 :: s128 :: s129 :: s130 :: s131 :: s132 :: s133 :: s134 :: s135 :: s136 :: s137 :: s138 :: s139 :: s140 :: s141 :: s142 :: s143 :: s144 :: s145 :: s146 :: s147 :: s148 :: s149 :: s150 :: s151 :: s152 :: s153 :: s154 :: s155 :: s156 :: s157 :: s158 :: s159 :: s160 :: s161 :: s162 :: s163 :: s164 :: s165 :: s166 :: s167 :: s168 :: s169 :: s170 :: s171 :: s172 :: s173 :: s174 :: s175 :: s176 :: s177 :: s178 :: s179 :: s180 :: s181 :: s182 :: s183 :: s184 :: s185 :: s186 :: s187 :: s188 :: s189 :: s190 :: s191 :: s192 :: s193 :: s194 :: s195 :: s196 :: s197 :: s198 :: s199 :: s200 :: s201 :: s202 :: s203 :: s204 :: s205 :: s206 :: s207 :: s208 :: s209 :: s210 :: s211 :: s212 :: s213 :: s214 :: s215 :: s216 :: s217 :: s218 :: s219 :: s220 :: s221 :: s222 :: s223 :: []), []⟩ W0 := by
  have HEX := Lib.hid hexit
  have HS0 := Lib.hid h0
  have HLEN := Lib.hid hlen
  have HYY := Lib.hid hY
  have HCC := Lib.hid hC
  have HBB := Lib.hid hB
  clear hexit h0 hlen hY hC hB
  conv => arg 2; whnf
  go_loopg [14, 15, 16] L.length (fun r vo vb vk wr => ∃ k of bf : Nat, k + r = L.length ∧ vk = .int .i64 (k : Nat) ∧ vo = .int .i64 (of : Nat) ∧ vb = .int .i64 (bf : Nat) ∧ of = (L.take k).countP fC ∧ bf = (L.take k).countP fB ∧ LS w g bd d ve vn (.slice (some ⟨gt, 0, none⟩) L.length ct) L R bs (lowOf ((L.take k).map fY)) (highOf ((L.take k).map fY)) wr)
  case atStart => exact ⟨0, 0, 0, by omega, rfl, rfl, rfl, by simp, by simp, HS0.out⟩
  case round =>
    clear HS0
    obtain ⟨k, of, bf, hkr, rfl, rfl, rfl, hof, hbf, hs⟩ := hrel
    obtain ⟨lo, hlo⟩ : ∃ x, x = (lowOf ((L.take k).map fY)) := ⟨_, rfl⟩
    obtain ⟨hi', hhi⟩ : ∃ x, x = (highOf ((L.take k).map fY)) := ⟨_, rfl⟩
    have ofb : of ≤ 3000 := by rw [hof]; exact Nat.le_trans List.countP_le_length (by rw [List.length_take]; omega)
    have bfb : bf ≤ 3000 := by rw [hbf]; exact Nat.le_trans List.countP_le_length (by rw [List.length_take]; omega)
    rw [← hlo, ← hhi] at hs
    have HS := Lib.hid hs
    have HLO := Lib.hid hlo
    have HHI := Lib.hid hhi
    have HO := Lib.hid hof
    have HB := Lib.hid hbf
    clear hs hlo hhi hof hbf
    by_cases hk : k < L.length
    · obtain ⟨q, hq⟩ : ∃ q, L[k]? = some q := ⟨_, List.getElem?_eq_getElem hk⟩
      have hqm := List.mem_of_getElem? hq
      obtain ⟨v1, v2, t1, t2, i1, i2⟩ := HS.out.le.tr.at hq
      have hql := HLEN.out q hqm
      obtain ⟨gy, cy, rfl, y1⟩ := i1.at (i := i) (by omega)
      obtain ⟨gy', cy', e1, y2⟩ := i1.at (i := other) (by omega)
      injection e1 with e1 e2 e3
      injection e1 with e1
      injection e1 with e1
      subst e1
      obtain ⟨n, hn⟩ : ∃ n, n = q.1.getD i 0 := ⟨_, rfl⟩
      obtain ⟨n2, hn2⟩ : ∃ n, n = q.1.getD other 0 := ⟨_, rfl⟩
      obtain ⟨nl, hnl⟩ : ∃ n, n = q.1.length := ⟨_, rfl⟩
      have hil : i < nl := by omega
      have hol : other < nl := by omega
      rw [← hn] at y1
      rw [← hn2] at y2
      rw [← hnl] at t1
      have hLO : (lowOf ((L.take (k + 1)).map fY)) = min lo n := by rw [take_snoc fY L k q hq, lowOf_snoc, ← HLO.out, HYY.out q hqm, hn]
      have hHI : (highOf ((L.take (k + 1)).map fY)) = max hi' n := by rw [take_snoc fY L k q hq, highOf_snoc, ← HHI.out, HYY.out q hqm, hn]
      have hOF : (L.take (k + 1)).countP fC = of + (if n = year then 1 else 0) := by rw [take_count fC L k q hq, HCC.out q hqm, ← HO.out, ← hn]; simp
      have hBF : (L.take (k + 1)).countP fB = bf + (if n < n2 then 1 else 0) := by rw [take_count fB L k q hq, HBB.out q hqm, ← HB.out, ← hn, ← hn2]; simp
      have HLO1 := Lib.hid hLO
      have HHI1 := Lib.hid hHI
      have HOF1 := Lib.hid hOF
      have HBF1 := Lib.hid hBF
      have c0 := HS.out.nb.cell 0
      have c1 := HS.out.nb.cell 1
      simp at c0 c1
      clear hLO hHI hOF hBF t2 i1 i2 hn e2 e3
      go_upto_region 19 with fail
      clear y1 y2 t1
      obtain ⟨z1, hz1⟩ : ∃ z, z = min lo n := ⟨_, rfl⟩
      obtain ⟨z2, hz2⟩ : ∃ z, z = max hi' n := ⟨_, rfl⟩
      rw [← hz1] at HLO1
      rw [← hz2] at HHI1
      have e1 := hz1.symm
      have e2 := hz2.symm
      clear hz1 hz2
      go_wp2_with fail
      refine (to_any z1 z2 _).mono ?_
      rintro e w1 ⟨rfl, hb1⟩
      have HS1 := Lib.hid (HS.out.to hb1)
      have f0 := HS1.out.nb.free 0
      have f1 := HS1.out.nb.free 1
      have d0 := HS1.out.nb.cell 0
      have d1 := HS1.out.nb.cell 1
      simp at d0 d1
      clear hb1 c0 c1 e1 e2 HS
      go_upto_region 20 with fail
      obtain ⟨w2, hw2⟩ : ∃ w2, w2 = (w1.setCell ⟨bs, 0, none⟩ (.int .i64 z1)).setCell ⟨bs, 1, none⟩ (.int .i64 z2) := ⟨_, rfl⟩
      have HS2 := Lib.hid (HS1.out.store z1 z2)
      rw [← hw2] at HS2 ⊢
      clear hw2 d0 d1 f0 f1 HS1
      obtain ⟨v1, v2, t1, t2, i1, i2⟩ := HS2.out.le.tr.at hq
      obtain ⟨gz, cz, rfl, y2⟩ := i1.at (i := other) (by omega)
      rw [← hn2] at y2
      rw [← hnl] at t1
      have HOFb := HOF1
      clear t2 i1 i2 hql hn2 hnl hq hqm
      by_cases c1 : n = year
      · have c1' : ((n == year) = true) := by simp [c1]
        by_cases c2 : n < n2
        · have HC1 := Lib.hid c1
          have HC2 := Lib.hid c2
          clear c1
          go_wp2_with fail
          go_roundg (gk - 1)
          case measure => omega
          case rel => exact ⟨k + 1, of + 1, bf + 1, by omega, by go_num, by go_num, by go_num, by rw [HOF1.out]; have := HC1.out; split <;> omega, by rw [HBF1.out]; have := HC2.out; split <;> omega, by rw [HLO1.out, HHI1.out]; exact HS2.out⟩
        · have HC1 := Lib.hid c1
          have HC2 := Lib.hid c2
          clear c1
          go_wp2_with fail
          go_roundg (gk - 1)
          case measure => omega
          case rel => exact ⟨k + 1, of + 1, bf, by omega, by go_num, by go_num, by go_num, by rw [HOF1.out]; have := HC1.out; split <;> omega, by rw [HBF1.out]; have := HC2.out; split <;> omega, by rw [HLO1.out, HHI1.out]; exact HS2.out⟩
      · have c1' : ((n == year) = false) := by simp [c1]
        by_cases c2 : n < n2
        · have HC1 := Lib.hid c1
          have HC2 := Lib.hid c2
          clear c1
          go_wp2_with fail
          go_roundg (gk - 1)
          case measure => omega
          case rel => exact ⟨k + 1, of, bf + 1, by omega, by go_num, by go_num, by go_num, by rw [HOF1.out]; have := HC1.out; split <;> omega, by rw [HBF1.out]; have := HC2.out; split <;> omega, by rw [HLO1.out, HHI1.out]; exact HS2.out⟩
        · have HC1 := Lib.hid c1
          have HC2 := Lib.hid c2
          clear c1
          go_wp2_with fail
          go_roundg (gk - 1)
          case measure => omega
          case rel => exact ⟨k + 1, of, bf, by omega, by go_num, by go_num, by go_num, by rw [HOF1.out]; have := HC1.out; split <;> omega, by rw [HBF1.out]; have := HC2.out; split <;> omega, by rw [HLO1.out, HHI1.out]; exact HS2.out⟩
    · have hk' : k = L.length := by omega
      subst hk'
      have hf := HS.out
      have ho1 := HO.out
      have hb1 := HB.out
      rw [HLO.out, HHI.out, List.take_length] at hf
      rw [List.take_length] at ho1 hb1
      have HF := Lib.hid hf
      clear hf
      have HO1 := Lib.hid ho1
      have HB1 := Lib.hid hb1
      clear ho1 hb1
      go_wp2_with fail
      rw [HO1.out, HB1.out]
      exact HEX.out _ _ _ _ _ _ _ _ _ _ _ _ _ _ _ _ _ _ _ _ _ _ _ _ _ _ _ _ _ _ _ _ _ _ _ _ _ _ _ _ _ _ _ HF.out
set_option maxRecDepth 100000 in
set_option maxHeartbeats 8000000 in
theorem ends_in2 (w W0 : World) (g bd bs gt ct i : Nat) (d : Dat) (ve vn : Value) (L : List (List Int × List Int)) (R : List (Value × List (Int × Int))) (fY : List Int × List Int → Int)
    (hL : L.length ≤ 3000) (hi : i < d.eras.length) (hlen : ∀ p ∈ L, p.2.length = d.eras.length) (hY : ∀ p ∈ L, fY p = p.2.getD i 0)
    (s0 s1 s2 s3 s4 s6 s7 s8 s9 s10 s11 s12 s13 s14 s15 s16 s17 s18 s19 s20 s21 s25 s26 s27 s28 s29 s30 s31 s32 s33 s34 s35 s36 s37 s38 s39 s40 s41 s42 s43 s44 s45 s46 s47 s48 s49 s50 s51 s52 s53 s54 s55 s56 s57 s58 s59 s60 s61 s62 s63 s64 s65 s66 s67 s68 s69 s70 s71 s72 s73 s74 s75 s76 s77 s78 s79 s80 s81 s82 s83 s84 s85 s86 s87 s88 s89 s90 s91 s92 s93 s94 s95 s96 s97 s98 s99 s100 s101 s102 s103 s104 s105 s106 s107 s108 s109 s110 s111 s112 s113 s114 s115 s116 s117 s118 s119 s120 s121 s122 s123 s124 s125 s126 s127 s128 s129 s130 s131 s132 s133 s134 s135 s136 s137 s138 s139 s140 s141 s142 s143 s144 s145 s146 s147 s148 s149 s150 s151 s152 s153 s154 s155 s156 s157 s158 s159 s160 s161 s162 s163 s164 s165 s166 s167 s168 s169 s170 s171 s172 s173 s174 s175 s176 s177 s178 s179 s180 s181 s182 s183 s184 s185 s186 s187 s188 s189 s190 s191 s192 s193 s194 s195 s196 s197 s198 s199 s200 s201 s202 s203 s204 s205 s206 s207 s208 s209 s210 s211 s212 s213 s214 s215 s216 s217 s218 s219 s220 s221 s222 s223 : Value) (Q : Exit → Act → World → Prop) (h0 : LS w g bd d ve vn (.slice (some ⟨gt, 0, none⟩) L.length ct) L R bs 99 (-99) W0) (hqp : ∀ c a dst v w, Q (.panic c) (Act.put a dst v) w → Q (.panic c) a w)
    (hexit : ∀ (u24 u188 u189 u190 u191 u192 u193 u194 u195 u196 u197 u198 u199 u200 u201 u202 u203 u204 u205 u206 u207 u208 u209 u210 u211 u212 u213 u214 u215 u216 : Value) (wx : World), LS w g bd d ve vn (.slice (some ⟨gt, 0, none⟩) L.length ct) L R bs (lowOf (L.map fY)) (highOf (L.map fY)) wx → Q (.exit 6) ⟨List.toArray (s0 :: s1 :: s2 :: s3 :: s4 :: Value.slice (some ⟨gt, 0, none⟩) L.length ct :: s6 :: s7 :: s8 :: s9 :: s10 :: s11 :: s12 :: s13 :: s14 :: s15 :: s16 :: s17 :: s18 :: s19 :: s20 :: s21 :: Value.int .i64 (i : Nat) :: Value.pointer (some ⟨bs, 0, none⟩) :: u24 :: s25 :: s26 :: s27 :: s28 :: s29 :: s30 :: s31 :: s32 :: s33 :: s34 :: s35 :: s36 :: s37 :: s38 :: s39 :: s40 :: s41 :: s42 :: s43 :: s44 :: s45 :: s46 :: s47 :: s48 :: s49 :: s50 :: s51 :: s52 :: s53 :: s54 :: s55 :: s56 :: s57 :: s58 :: s59 :: s60 :: s61 :: s62 :: s63 :: s64 :: s65 :: s66 :: s67 :: s68 :: s69 :: s70 :: s71 :: s72 :: s73 :: s74 :: s75 :: s76 :: s77 :: s78 :: s79 :: s80 :: s81 :: s82 :: s83 :: s84 :: s85 :: s86 :: s87 :: s88 :: s89 :: s90 :: s91 :: s92 :: s93 :: s94 :: s95 :: s96 :: s97 :: s98 :: s99 :: s100 :: s101 :: s102 :: s103 :: s104 :: s105 :: s106 :: s107 :: s108 :: s109 :: s110 :: s111 :: s112 :: s113 :: s114 :: s115 :: s116 :: s117 :: s118 :: s119 :: s120 :: s121 :: s122 :: s123 :: s124 :: s125 :: s126 :: s127 :: s128 :: s129 :: s130 :: s131 :: s132 :: s133 :: s134 :: s135 :: s136 :: s137 :: s138 :: s139 :: s140 :: s141 :: s142 :: s143 :: s144 :: s145 :: s146 :: s147 :: s148 :: s149 :: s150 :: s151 :: s152 :: s153 :: s154 :: s155 :: s156 :: s157 :: s158 :: s159 :: s160 :: s161 :: s162 :: s163 :: s164 :: s165 :: s166 :: s167 :: s168 :: s169 :: s170 :: s171 :: s172 :: s173 :: s174 :: s175 :: s176 :: s177 :: s178 :: s179 :: s180 :: s181 :: s182 :: s183 :: s184 :: s185 :: s186 :: s187 :: u188 :: u189 :: u190 :: u191 :: u192 :: u193 :: u194 :: u195 :: u196 :: u197 :: u198 :: u199 :: u200 :: u201 :: u202 :: u203 :: u204 :: u205 :: u206 :: u207 :: u208 :: u209 :: u210 :: u211 :: u212 :: u213 :: u214 :: u215 :: u216 :: s217 :: s218 :: s219 :: s220 :: s221 :: s222 :: s223 :: []), []⟩ wx) :
    Code.wp Tryz.prog (eLoop 6) Q ⟨List.toArray (s0 :: s1 :: s2 :: s3 :: s4 :: Value.slice (some ⟨gt, 0, none⟩) L.length ct :: s6 :: s7 :: s8 :: s9 :: s10 :: s11 :: s12 :: s13 :: s14 :: s15 :: s16 :: s17 :: s18 :: s19 :: s20 :: s21 :: Value.int .i64 (i : Nat) :: Value.pointer (some ⟨bs, 0, none⟩) :: Value.int .i64 (0 : Nat) :: s25 :: s26 :: s27 :: s28 :: s29 :: s30 :: s31 :: s32 :: s33 :: s34 :: s35 :: s36 :: s37 :: s38 :: s39 :: s40 :: s41 :: s42 :: s43 :: s44 :: s45 :: s46 :: s47 :: s48 :: s49 :: s50 :: s51 :: s52 :: s53 :: s54 :: s55 :: s56 :: s57 :: s58 :: s59 :: s60 :: s61 :: s62 :: s63 :: s64 :: s65 :: s66 :: s67 :: s68 :: s69 :: s70 :: s71 :: s72 :: s73 :: s74 :: s75 :: s76 :: s77 :: s78 :: s79 :: s80 :: s81 :: s82 :: s83 :: s84 :: s85 :: s86 :: s87 :: s88 :: s89 :: s90 :: s91 :: s92 :: s93 :: s94 :: s95 :: s96 :: s97 :: s98 :: s99 :: s100 :: s101 :: s102 :: s103 :: s104 :: s105 :: s106 :: s107 :: s108 :: s109 :: s110 :: s111 :: s112 :: s113 :: s114 :: s115 :: s116 :: s117 :: s118 :: s119 :: s120 :: s121 :: s122 :: s123 :: s124 :: s125 :: s126 :: s127 :: s128 :: s129 :: s130 :: s131 :: s132 :: s133 :: s134 :: s135 :: s136 :: s137 :: s138 :: s139 :: s140 :: s141 :: s142 :: s143 :: s144 :: s145 :: s146 :: s147 :: s148 :: s149 :: s150 :: s151 :: s152 :: s153 :: s154 :: s155 :: s156 :: s157 :: s158 :: s159 :: s160 :: s161 :: s162 :: s163 :: s164 :: s165 :: s166 :: s167 :: s168 :: s169 :: s170 :: s171 :: s172 :: s173 :: s174 :: s175 :: s176 :: s177 :: s178 :: s179 :: s180 :: s181 :: s182 :: s183 :: s184 :: s185 :: s186 :: s187 :: s188 :: s189 :: s190 :: s191 :: s192 :: s193 :: s194 :: s195 :: s196 :: s197 :: s198 :: s199 :: s200 :: s201 :: s202 :: s203 :: s204 :: s205 :: s206 :: s207 :: s208 :: s209 :: s210 :: s211 :: s212 :: s213 :: s214 :: s215 :: s216 :: s217 :: s218 :: s219 :: s220 :: s221 :: s222 :: s223 :: []), []⟩ W0 := by
  have HEX := Lib.hid hexit
  have HQP0 := Lib.hid hqp
  have HS0 := Lib.hid h0
  have HLEN := Lib.hid hlen
  have HYY := Lib.hid hY
  clear hexit hqp h0 hlen hY
  conv => arg 2; whnf
  go_loopg [24] L.length (fun r vk wr => ∃ k : Nat, k + r = L.length ∧ vk = .int .i64 (k : Nat) ∧ LS w g bd d ve vn (.slice (some ⟨gt, 0, none⟩) L.length ct) L R bs (lowOf ((L.take k).map fY)) (highOf ((L.take k).map fY)) wr)
  case atStart => exact ⟨0, by omega, rfl, HS0.out⟩
  case round =>
    clear HS0
    obtain ⟨k, hkr, rfl, hs⟩ := hrel
    obtain ⟨lo, hlo⟩ : ∃ x, x = (lowOf ((L.take k).map fY)) := ⟨_, rfl⟩
    obtain ⟨hi', hhi⟩ : ∃ x, x = (highOf ((L.take k).map fY)) := ⟨_, rfl⟩
    rw [← hlo, ← hhi] at hs
    have HS := Lib.hid hs
    have HLO := Lib.hid hlo
    have HHI := Lib.hid hhi
    clear hs hlo hhi
    by_cases hk : k < L.length
    · obtain ⟨q, hq⟩ : ∃ q, L[k]? = some q := ⟨_, List.getElem?_eq_getElem hk⟩
      have hqm := List.mem_of_getElem? hq
      obtain ⟨v1, v2, t1, t2, i1, i2⟩ := HS.out.le.tr.at hq
      have hql := HLEN.out q hqm
      obtain ⟨gz, cz, rfl, y2⟩ := i2.at (i := i) (by omega)
      obtain ⟨n, hn⟩ : ∃ n, n = q.2.getD i 0 := ⟨_, rfl⟩
      obtain ⟨nl, hnl⟩ : ∃ n, n = q.2.length := ⟨_, rfl⟩
      have hil : i < nl := by omega
      rw [← hn] at y2
      rw [← hnl] at t2
      have hLO : (lowOf ((L.take (k + 1)).map fY)) = min lo n := by rw [take_snoc fY L k q hq, lowOf_snoc, ← HLO.out, HYY.out q hqm, hn]
      have hHI : (highOf ((L.take (k + 1)).map fY)) = max hi' n := by rw [take_snoc fY L k q hq, highOf_snoc, ← HHI.out, HYY.out q hqm, hn]
      have HLO1 := Lib.hid hLO
      have HHI1 := Lib.hid hHI
      obtain ⟨z1, hz1⟩ : ∃ z, z = min lo n := ⟨_, rfl⟩
      obtain ⟨z2, hz2⟩ : ∃ z, z = max hi' n := ⟨_, rfl⟩
      rw [← hz1] at HLO1
      rw [← hz2] at HHI1
      have e1 := hz1.symm
      have e2 := hz2.symm
      have t2' := t2
      have y2' := y2
      clear hLO hHI hq hqm t1 i1 i2 hql hn hnl hz1 hz2
      go_wp2_with fail
      refine wp_region_v [(fun j => j == 1 || j == 6 || j == 8 || j == 9 || j == 10 || j == 12 || j == 17 || j == 19 || j == 20 || j == 21 || j == 22, fun W => W.cell? ⟨bs, 0, none⟩ = some (.int .i64 lo)), (fun j => j == 6 || j == 8 || j == 9 || j == 10 || j == 12 || j == 17 || j == 19 || j == 20 || j == 21 || j == 22, fun W => W.cell? ⟨bs, 1, none⟩ = some (.int .i64 hi')), (fun j => j == 6 || j == 8 || j == 9 || j == 10 || j == 17 || j == 19 || j == 20 || j == 21 || j == 22, fun W => W.cell? ⟨gt, k * 2 + 1, none⟩ = some (.slice (some ⟨gz, 0, none⟩) nl cz)), (fun j => j == 9 || j == 10 || j == 20 || j == 21 || j == 22, fun W => W.cell? ⟨gz, i, none⟩ = some (.int .i64 n))] (by kernel_rfl) ?_
      refine wpAnyV_world (fun W => LS w g bd d ve vn (.slice (some ⟨gt, 0, none⟩) L.length ct) L R bs lo hi' W ∧ W.cell? ⟨gt, k * 2 + 1, none⟩ = some (.slice (some ⟨gz, 0, none⟩) nl cz) ∧ W.cell? ⟨gz, i, none⟩ = some (.int .i64 n)) ⟨HS.out.drew, t2', y2'⟩ (fun V hV => ?_)
      have HV := Lib.hid hV
      clear hV
      refine wpAnyV_free (i := 0) (v := ?_) (by simp only [List.getElem?_toArray, List.getElem?_cons_zero]; rfl) (by kernel_rfl) (by kernel_rfl) (by kernel_rfl) (by kernel_rfl) (by exact fun c a w h => HQP0.out c a _ _ w h) (Or.inl ⟨by rfl, ?hya2⟩) (behind_cons (fun h => by simp at h) (behind_cons (fun h => by simp at h) (behind_cons (fun h => by simp at h) (behind_cons (fun h => by simp at h) (fun p hp => by cases hp))))) ?resta2
      case hya2 => (intro W' _; go_simp; try with_reducible rfl)
      try simp only [Act.put, List.setIfInBounds_toArray, List.set_cons_zero, List.set_cons_succ]
      refine wpAnyV_free (i := 2) (v := ?_) (by simp only [List.getElem?_toArray, List.getElem?_cons_zero, List.getElem?_cons_succ]; rfl) (by kernel_rfl) (by kernel_rfl) (by kernel_rfl) (by kernel_rfl) (by exact fun c a w h => HQP0.out c a _ _ w h) (Or.inl ⟨by rfl, ?hya3⟩) (behind_cons (fun h => by simp at h) (behind_cons (fun h => by simp at h) (behind_cons (fun h => by simp at h) (behind_cons (fun h => by simp at h) (fun p hp => by cases hp))))) ?resta3
      case hya3 => (intro W' _; go_simp; try with_reducible rfl)
      try simp only [Act.put, List.setIfInBounds_toArray, List.set_cons_zero, List.set_cons_succ]
      refine wpAnyV_free (i := 3) (v := ?_) (by simp only [List.getElem?_toArray, List.getElem?_cons_zero, List.getElem?_cons_succ]; rfl) (by kernel_rfl) (by kernel_rfl) (by kernel_rfl) (by kernel_rfl) (by exact fun c a w h => HQP0.out c a _ _ w h) (Or.inl ⟨by rfl, ?hya4⟩) (behind_cons (fun h => by simp at h) (behind_cons (fun h => by simp at h) (behind_cons (fun h => by simp at h) (behind_cons (fun h => by simp at h) (fun p hp => by cases hp))))) ?resta4
      case hya4 => (intro W' _; go_simp; try with_reducible rfl)
      try simp only [Act.put, List.setIfInBounds_toArray, List.set_cons_zero, List.set_cons_succ]
      refine wpAnyV_free (i := 4) (v := ?_) (by simp only [List.getElem?_toArray, List.getElem?_cons_zero, List.getElem?_cons_succ]; rfl) (by kernel_rfl) (by kernel_rfl) (by kernel_rfl) (by kernel_rfl) (by exact fun c a w h => HQP0.out c a _ _ w h) (Or.inl ⟨by rfl, ?hya5⟩) (behind_cons (fun h => by simp at h) (behind_cons (fun h => by simp at h) (behind_cons (fun h => by simp at h) (behind_cons (fun h => by simp at h) (fun p hp => by cases hp))))) ?resta5
      case hya5 => (intro W' _; go_simp; try with_reducible rfl)
      try simp only [Act.put, List.setIfInBounds_toArray, List.set_cons_zero, List.set_cons_succ]
      refine wpAnyV_free (i := 5) (v := ?_) (by simp only [List.getElem?_toArray, List.getElem?_cons_zero, List.getElem?_cons_succ]; rfl) (by kernel_rfl) (by kernel_rfl) (by kernel_rfl) (by kernel_rfl) (by exact fun c a w h => HQP0.out c a _ _ w h) (Or.inl ⟨by rfl, ?hya6⟩) (behind_cons (fun h => by simp at h) (behind_cons (fun h => by simp at h) (behind_cons (fun h => by simp at h) (behind_cons (fun h => by simp at h) (fun p hp => by cases hp))))) ?resta6
      case hya6 => (intro W' _; go_simp; try with_reducible rfl)
      try simp only [Act.put, List.setIfInBounds_toArray, List.set_cons_zero, List.set_cons_succ]
      refine wpAnyV_free (i := 7) (v := ?_) (by simp only [List.getElem?_toArray, List.getElem?_cons_zero, List.getElem?_cons_succ]; rfl) (by kernel_rfl) (by kernel_rfl) (by kernel_rfl) (by kernel_rfl) (by exact fun c a w h => HQP0.out c a _ _ w h) (Or.inl ⟨by rfl, ?hya7⟩) (behind_cons (fun h => by simp at h) (behind_cons (fun h => by simp at h) (behind_cons (fun h => by simp at h) (behind_cons (fun h => by simp at h) (fun p hp => by cases hp))))) ?resta7
      case hya7 => (intro W' _; go_simp; try with_reducible rfl)
      try simp only [Act.put, List.setIfInBounds_toArray, List.set_cons_zero, List.set_cons_succ]
      refine wpAnyV_free (i := 11) (v := ?_) (by simp only [List.getElem?_toArray, List.getElem?_cons_zero, List.getElem?_cons_succ]; rfl) (by kernel_rfl) (by kernel_rfl) (by kernel_rfl) (by kernel_rfl) (by exact fun c a w h => HQP0.out c a _ _ w h) (Or.inl ⟨by rfl, ?hya8⟩) (behind_cons (fun h => by simp at h) (behind_cons (fun h => by simp at h) (behind_cons (fun h => by simp at h) (behind_cons (fun h => by simp at h) (fun p hp => by cases hp))))) ?resta8
      case hya8 => (intro W' _; go_simp; try with_reducible rfl)
      try simp only [Act.put, List.setIfInBounds_toArray, List.set_cons_zero, List.set_cons_succ]
      refine wpAnyV_free (i := 13) (v := ?_) (by simp only [List.getElem?_toArray, List.getElem?_cons_zero, List.getElem?_cons_succ]; rfl) (by kernel_rfl) (by kernel_rfl) (by kernel_rfl) (by kernel_rfl) (by exact fun c a w h => HQP0.out c a _ _ w h) (Or.inl ⟨by rfl, ?hya9⟩) (behind_cons (fun h => by simp at h) (behind_cons (fun h => by simp at h) (behind_cons (fun h => by simp at h) (behind_cons (fun h => by simp at h) (fun p hp => by cases hp))))) ?resta9
      case hya9 => (intro W' _; go_simp; try with_reducible rfl)
      try simp only [Act.put, List.setIfInBounds_toArray, List.set_cons_zero, List.set_cons_succ]
      refine wpAnyV_free (i := 14) (v := ?_) (by simp only [List.getElem?_toArray, List.getElem?_cons_zero, List.getElem?_cons_succ]; rfl) (by kernel_rfl) (by kernel_rfl) (by kernel_rfl) (by kernel_rfl) (by exact fun c a w h => HQP0.out c a _ _ w h) (Or.inl ⟨by rfl, ?hya10⟩) (behind_cons (fun h => by simp at h) (behind_cons (fun h => by simp at h) (behind_cons (fun h => by simp at h) (behind_cons (fun h => by simp at h) (fun p hp => by cases hp))))) ?resta10
      case hya10 => (intro W' _; go_simp; try with_reducible rfl)
      try simp only [Act.put, List.setIfInBounds_toArray, List.set_cons_zero, List.set_cons_succ]
      refine wpAnyV_free (i := 15) (v := ?_) (by simp only [List.getElem?_toArray, List.getElem?_cons_zero, List.getElem?_cons_succ]; rfl) (by kernel_rfl) (by kernel_rfl) (by kernel_rfl) (by kernel_rfl) (by exact fun c a w h => HQP0.out c a _ _ w h) (Or.inl ⟨by rfl, ?hya11⟩) (behind_cons (fun h => by simp at h) (behind_cons (fun h => by simp at h) (behind_cons (fun h => by simp at h) (behind_cons (fun h => by simp at h) (fun p hp => by cases hp))))) ?resta11
      case hya11 => (intro W' _; go_simp; try with_reducible rfl)
      try simp only [Act.put, List.setIfInBounds_toArray, List.set_cons_zero, List.set_cons_succ]
      refine wpAnyV_free (i := 16) (v := ?_) (by simp only [List.getElem?_toArray, List.getElem?_cons_zero, List.getElem?_cons_succ]; rfl) (by kernel_rfl) (by kernel_rfl) (by kernel_rfl) (by kernel_rfl) (by exact fun c a w h => HQP0.out c a _ _ w h) (Or.inl ⟨by rfl, ?hya12⟩) (behind_cons (fun h => by simp at h) (behind_cons (fun h => by simp at h) (behind_cons (fun h => by simp at h) (behind_cons (fun h => by simp at h) (fun p hp => by cases hp))))) ?resta12
      case hya12 => (intro W' _; go_simp; try with_reducible rfl)
      try simp only [Act.put, List.setIfInBounds_toArray, List.set_cons_zero, List.set_cons_succ]
      refine wpAnyV_free (i := 18) (v := ?_) (by simp only [List.getElem?_toArray, List.getElem?_cons_zero, List.getElem?_cons_succ]; rfl) (by kernel_rfl) (by kernel_rfl) (by kernel_rfl) (by kernel_rfl) (by exact fun c a w h => HQP0.out c a _ _ w h) (Or.inl ⟨by rfl, ?hya13⟩) (behind_cons (fun h => by simp at h) (behind_cons (fun h => by simp at h) (behind_cons (fun h => by simp at h) (behind_cons (fun h => by simp at h) (fun p hp => by cases hp))))) ?resta13
      case hya13 => (intro W' _; go_simp; try with_reducible rfl)
      try simp only [Act.put, List.setIfInBounds_toArray, List.set_cons_zero, List.set_cons_succ]
      refine wpAnyV_take (i := 1) (m := 0) (v := ?_) (by simp only [List.getElem?_toArray, List.getElem?_cons_zero, List.getElem?_cons_succ]; rfl) (by rfl) (by kernel_rfl) (by kernel_rfl) (by kernel_rfl) (by kernel_rfl) (by exact fun c a w h => HQP0.out c a _ _ w h) (Or.inl ⟨by rfl, ?hya14⟩) ((HV.out.1.nb.cell 0)) (behind_cons (fun _ => (HV.out.1.nb.cell 0)) (behind_cons (fun h => by simp at h) (behind_cons (fun h => by simp at h) (behind_cons (fun h => by simp at h) (fun p hp => by cases hp))))) ?resta14
      case hya14 => (intro W' hSW; go_simp; try with_reducible rfl)
      try simp only [Act.put, List.setIfInBounds_toArray, List.set_cons_zero, List.set_cons_succ]
      refine wpAnyV_take (i := 12) (m := 1) (v := ?_) (by simp only [List.getElem?_toArray, List.getElem?_cons_zero, List.getElem?_cons_succ]; rfl) (by rfl) (by kernel_rfl) (by kernel_rfl) (by kernel_rfl) (by kernel_rfl) (by exact fun c a w h => HQP0.out c a _ _ w h) (Or.inl ⟨by rfl, ?hya15⟩) ((HV.out.1.nb.cell 1)) (behind_cons (fun _ => (HV.out.1.nb.cell 0)) (behind_cons (fun _ => (HV.out.1.nb.cell 1)) (behind_cons (fun h => by simp at h) (behind_cons (fun h => by simp at h) (fun p hp => by cases hp))))) ?resta15
      case hya15 => (intro W' hSW; go_simp; try with_reducible rfl)
      try simp only [Act.put, List.setIfInBounds_toArray, List.set_cons_zero, List.set_cons_succ]
      refine wpAnyV_take (i := 6) (m := 2) (v := ?_) (by simp only [List.getElem?_toArray, List.getElem?_cons_zero, List.getElem?_cons_succ]; rfl) (by rfl) (by kernel_rfl) (by kernel_rfl) (by kernel_rfl) (by kernel_rfl) (by exact fun c a w h => HQP0.out c a _ _ w h) (Or.inl ⟨by rfl, ?hya16⟩) (HV.out.2.1) (behind_cons (fun _ => (HV.out.1.nb.cell 0)) (behind_cons (fun _ => (HV.out.1.nb.cell 1)) (behind_cons (fun _ => HV.out.2.1) (behind_cons (fun h => by simp at h) (fun p hp => by cases hp))))) ?resta16
      case hya16 => (intro W' hSW; go_simp; try with_reducible rfl)
      try simp only [Act.put, List.setIfInBounds_toArray, List.set_cons_zero, List.set_cons_succ]
      refine wpAnyV_free (i := 8) (v := ?_) (by simp only [List.getElem?_toArray, List.getElem?_cons_zero, List.getElem?_cons_succ]; rfl) (by kernel_rfl) (by kernel_rfl) (by kernel_rfl) (by kernel_rfl) (by exact fun c a w h => HQP0.out c a _ _ w h) (Or.inl ⟨by rfl, ?hya17⟩) (behind_cons (fun _ => (HV.out.1.nb.cell 0)) (behind_cons (fun _ => (HV.out.1.nb.cell 1)) (behind_cons (fun _ => HV.out.2.1) (behind_cons (fun h => by simp at h) (fun p hp => by cases hp))))) ?resta17
      case hya17 => (intro W' _; go_simp; try with_reducible rfl)
      try simp only [Act.put, List.setIfInBounds_toArray, List.set_cons_zero, List.set_cons_succ]
      refine wpAnyV_take (i := 17) (m := 2) (v := ?_) (by simp only [List.getElem?_toArray, List.getElem?_cons_zero, List.getElem?_cons_succ]; rfl) (by rfl) (by kernel_rfl) (by kernel_rfl) (by kernel_rfl) (by kernel_rfl) (by exact fun c a w h => HQP0.out c a _ _ w h) (Or.inl ⟨by rfl, ?hya18⟩) (HV.out.2.1) (behind_cons (fun _ => (HV.out.1.nb.cell 0)) (behind_cons (fun _ => (HV.out.1.nb.cell 1)) (behind_cons (fun _ => HV.out.2.1) (behind_cons (fun h => by simp at h) (fun p hp => by cases hp))))) ?resta18
      case hya18 => (intro W' hSW; go_simp; try with_reducible rfl)
      try simp only [Act.put, List.setIfInBounds_toArray, List.set_cons_zero, List.set_cons_succ]
      refine wpAnyV_free (i := 19) (v := ?_) (by simp only [List.getElem?_toArray, List.getElem?_cons_zero, List.getElem?_cons_succ]; rfl) (by kernel_rfl) (by kernel_rfl) (by kernel_rfl) (by kernel_rfl) (by exact fun c a w h => HQP0.out c a _ _ w h) (Or.inl ⟨by rfl, ?hya19⟩) (behind_cons (fun _ => (HV.out.1.nb.cell 0)) (behind_cons (fun _ => (HV.out.1.nb.cell 1)) (behind_cons (fun _ => HV.out.2.1) (behind_cons (fun h => by simp at h) (fun p hp => by cases hp))))) ?resta19
      case hya19 => (intro W' _; go_simp; try with_reducible rfl)
      try simp only [Act.put, List.setIfInBounds_toArray, List.set_cons_zero, List.set_cons_succ]
      refine wpAnyV_take (i := 9) (m := 3) (v := ?_) (by simp only [List.getElem?_toArray, List.getElem?_cons_zero, List.getElem?_cons_succ]; rfl) (by rfl) (by kernel_rfl) (by kernel_rfl) (by kernel_rfl) (by kernel_rfl) (by exact fun c a w h => HQP0.out c a _ _ w h) (Or.inl ⟨by rfl, ?hya20⟩) (HV.out.2.2) (behind_cons (fun _ => (HV.out.1.nb.cell 0)) (behind_cons (fun _ => (HV.out.1.nb.cell 1)) (behind_cons (fun _ => HV.out.2.1) (behind_cons (fun _ => HV.out.2.2) (fun p hp => by cases hp))))) ?resta20
      case hya20 => (intro W' hSW; go_simp; try with_reducible rfl)
      try simp only [Act.put, List.setIfInBounds_toArray, List.set_cons_zero, List.set_cons_succ]
      refine wpAnyV_free (i := 10) (v := ?_) (by simp only [List.getElem?_toArray, List.getElem?_cons_zero, List.getElem?_cons_succ]; rfl) (by kernel_rfl) (by kernel_rfl) (by kernel_rfl) (by kernel_rfl) (by exact fun c a w h => HQP0.out c a _ _ w h) (Or.inl ⟨by rfl, ?hya21⟩) (behind_cons (fun _ => (HV.out.1.nb.cell 0)) (behind_cons (fun _ => (HV.out.1.nb.cell 1)) (behind_cons (fun _ => HV.out.2.1) (behind_cons (fun _ => HV.out.2.2) (fun p hp => by cases hp))))) ?resta21
      case hya21 => (intro W' _; go_simp; try with_reducible rfl)
      try simp only [Act.put, List.setIfInBounds_toArray, List.set_cons_zero, List.set_cons_succ]
      refine wpAnyV_take (i := 20) (m := 3) (v := ?_) (by simp only [List.getElem?_toArray, List.getElem?_cons_zero, List.getElem?_cons_succ]; rfl) (by rfl) (by kernel_rfl) (by kernel_rfl) (by kernel_rfl) (by kernel_rfl) (by exact fun c a w h => HQP0.out c a _ _ w h) (Or.inl ⟨by rfl, ?hya22⟩) (HV.out.2.2) (behind_cons (fun _ => (HV.out.1.nb.cell 0)) (behind_cons (fun _ => (HV.out.1.nb.cell 1)) (behind_cons (fun _ => HV.out.2.1) (behind_cons (fun _ => HV.out.2.2) (fun p hp => by cases hp))))) ?resta22
      case hya22 => (intro W' hSW; go_simp; try with_reducible rfl)
      try simp only [Act.put, List.setIfInBounds_toArray, List.set_cons_zero, List.set_cons_succ]
      refine wpAnyV_free (i := 21) (v := ?_) (by simp only [List.getElem?_toArray, List.getElem?_cons_zero, List.getElem?_cons_succ]; rfl) (by kernel_rfl) (by kernel_rfl) (by kernel_rfl) (by kernel_rfl) (by exact fun c a w h => HQP0.out c a _ _ w h) (Or.inl ⟨by rfl, ?hya23⟩) (behind_cons (fun _ => (HV.out.1.nb.cell 0)) (behind_cons (fun _ => (HV.out.1.nb.cell 1)) (behind_cons (fun _ => HV.out.2.1) (behind_cons (fun _ => HV.out.2.2) (fun p hp => by cases hp))))) ?resta23
      case hya23 => (intro W' _; go_simp; try with_reducible rfl)
      try simp only [Act.put, List.setIfInBounds_toArray, List.set_cons_zero, List.set_cons_succ]
      refine wpAnyV_ready (rs := [22]) (by kernel_rfl) (by simp) ?_
      refine AllReadyV.cons (by simp only [List.getElem?_toArray, List.getElem?_cons_zero, List.getElem?_cons_succ]; rfl) (fun K hK => ?_) AllReadyV.nil
      go_simp
      go_at_call 8
      (with_reducible refine (to_any z1 z2 _).mono ?_)
      rintro e w501 ⟨rfl, hb⟩
      have HC501 := Lib.hid (show LS w g bd d ve vn (.slice (some ⟨gt, 0, none⟩) L.length ct) L R bs lo hi' w501 ∧ w501.cell? ⟨gt, k * 2 + 1, none⟩ = some (.slice (some ⟨gz, 0, none⟩) nl cz) ∧ w501.cell? ⟨gz, i, none⟩ = some (.int .i64 n) from ⟨HV.out.1.to hb, (hb.cell (p := ⟨gt, k * 2 + 1, none⟩) (HV.out.1.le.tr.lt gt rfl)).trans HV.out.2.1, (hb.cell (p := ⟨gz, i, none⟩) (World.block_lt_of_cell? _ _ HV.out.2.2)).trans HV.out.2.2⟩)
      clear hb
      refine hK.out _ _ (behind_cons (fun _ => (HC501.out.1.nb.cell 0)) (behind_cons (fun _ => (HC501.out.1.nb.cell 1)) (behind_cons (fun _ => HC501.out.2.1) (behind_cons (fun _ => HC501.out.2.2) (fun p hp => by cases hp))))) ?_
      clear hK K
      try simp only [Act.put, List.setIfInBounds_toArray, List.set_cons_zero, List.set_cons_succ]
      refine wpAnyV_ready (rs := [23]) (by kernel_rfl) (by simp) ?_
      refine AllReadyV.cons (by simp only [List.getElem?_toArray, List.getElem?_cons_zero, List.getElem?_cons_succ]; rfl) (fun K hK => ?_) AllReadyV.nil
      have f0 := HC501.out.1.nb.free 0
      have f1 := HC501.out.1.nb.free 1
      have d0 := HC501.out.1.nb.cell 0
      have d1 := HC501.out.1.nb.cell 1
      simp at d0 d1
      go_simp
      clear f0 f1 d0 d1
      have HC502 := Lib.hid (HC501.out.1.store z1 z2)
      refine hK.out _ _ (behind_cons (fun h => by simp at h) (behind_cons (fun h => by simp at h) (behind_cons (fun h => by simp at h) (behind_cons (fun h => by simp at h) (fun p hp => by cases hp))))) ?_
      clear hK K
      try simp only [Act.put, List.setIfInBounds_toArray, List.set_cons_zero, List.set_cons_succ]
      refine wpAnyV_done (by kernel_rfl) ?_ _
      go_wp2_with fail
      go_roundg (gk - 1)
      case measure => omega
      case rel => exact ⟨k + 1, by omega, by go_num, by rw [HLO1.out, HHI1.out]; exact HC502.out⟩
    · have hk' : k = L.length := by omega
      subst hk'
      have hf := HS.out
      rw [HLO.out, HHI.out, List.take_length] at hf
      have HF := Lib.hid hf
      clear hf
      go_wp2_with fail
      exact HEX.out _ _ _ _ _ _ _ _ _ _ _ _ _ _ _ _ _ _ _ _ _ _ _ _ _ _ _ _ _ _ _ HF.out
end Go.Proofs.YtmfjfjahemlhkaaGreat
