/- DateMore: its last loop. -/
import Derived.Test.YtcbdcdpoackplaaGl
namespace Go.Proofs.Ytcbdcdpoackplaa
open Go.RowKit Dt

theorem verdict_cases {T T' so : (Nat → Int) → Prop} {v u : Nat} (h : Verdict T so v) (h' : Verdict T' so u) (hsub : ∀ y, T' y → T y) : (v = 1 ∧ u = 1) ∨ (v = 2 ∧ u = 2) ∨ v = 3 := by
  have h3 := less_verdict h h' hsub
  have := h.rest
  omega
noncomputable def moreLoop (n : Nat) : Code := (Try.f4.body.bind (findBlock n)).getD .skip
set_option maxRecDepth 100000 in
set_option maxHeartbeats 20000000 in
theorem more_last (w w2 w6 w13 : World) (d x : Dat) (ys fs : List Int) (Ae An Af Ax Ac Ay2 : Option Addr) (ce cn cy cf cx g8 c8 gy ga gb ca cb cc cy2 : Nat)
    (hm : Made 4 6 d ys fs) (hyes : d.all ≠ []) (hmo : More d x) (hxa : x.all ≠ [])
    (s0 s1 s2 s7 s8 s9 s11 s13 s14 s15 s16 s17 s18 s20 s21 s22 s23 s24 s25 s26 s27 s28 s29 s30 s31 s32 s33 s34 s35 s36 s37 s38 s39 s40 s41 s42 s43 s44 s45 s46 s47 s48 s49 s50 s51 s52 s53 s54 s55 s56 s57 s58 s59 s60 s61 s62 s63 s64 s65 s66 s67 s68 s69 s70 s71 s72 s73 s74 s75 s76 s77 s78 s79 s80 s81 s82 s83 s84 s85 s86 s87 s88 s89 s90 s91 s92 s93 s94 s95 s96 s97 s98 s99 s100 s101 s102 s103 s104 s105 s106 s107 s108 s109 s110 s111 s112 s113 s114 s115 s116 s117 s118 s119 s120 s121 s122 s123 s124 s125 s126 s127 s128 s129 s130 s131 s132 s133 s134 s135 s136 s137 s138 s139 s140 s141 s142 s143 s144 s145 s146 s147 s148 s149 s150 s151 s152 s153 s154 s155 s156 s157 s158 s159 s160 s161 s162 s163 s164 s165 s166 s167 s168 s169 s170 s171 s172 s173 s174 s175 s176 s177 s178 s179 s180 s181 s182 s183 s184 s185 s186 s187 s188 s189 s190 s191 s192 s193 s194 s195 s196 s197 s198 s199 s200 s201 s202 s203 s204 s205 s206 s207 s208 s209 s210 s211 s212 s213 s214 s215 s216 s217 s218 s219 s220 s221 s222 s223 s224 s225 s226 s227 s228 s229 s230 s231 s232 s233 s234 s235 s236 s237 s238 s239 s240 s241 s242 s243 s244 s245 s246 s247 s248 s249 s250 : Value) (Q : Exit → Act → World → Prop) (h0 : LG w w.heap.size w2.heap.size d ys fs (.slice Ae d.eras.length ce) (.slice An d.notes.length cn) (.slice (some ⟨gy, 0, none⟩) ys.length cy) (.slice Af fs.length cf) [⟨w6.heap.size, 28, [.int .i64 d.stones, .slice Ax d.eras.length cx, .slice (some ⟨g8, 0, none⟩) (d.notes.length + 1) c8]⟩] [⟨39, 2, .slice (some ⟨ga, 0, none⟩) d.stones ca, d.stones, flatS (spanList d 1 d.stones)⟩, ⟨39, 2, .slice (some ⟨gb, 0, none⟩) d.stones cb, d.stones, flatS (spanList x 1 d.stones)⟩, ⟨39, 2, .slice Ac d.eras.length cc, d.eras.length, flatS (spanList d 7 d.eras.length)⟩, ⟨39, 2, .slice Ay2 d.eras.length cy2, d.eras.length, flatS (spanList x 7 d.eras.length)⟩] [] [(.agg #[.int .i64 d.stones, .slice Ax d.eras.length cx, .slice (some ⟨g8, 0, none⟩) (d.notes.length + 1) c8], x)] w13) (hqp : ∀ c a dst v w, Q (.panic c) (Act.put a dst v) w → Q (.panic c) a w)
    (hexit : ∀ (u2 u19 u20 u21 u22 u23 u24 u25 u26 u27 u28 u29 u160 u161 u162 u163 u164 u165 u166 u167 u168 u169 u170 u171 u172 u173 u174 u175 u176 u177 u178 u179 u180 u181 u182 u183 u184 u185 u186 u187 u188 u189 u190 u191 u192 u193 u194 u195 u196 u197 u198 u199 u200 u201 u202 u203 u204 u205 u206 u207 u208 u209 u210 u211 u212 u213 u214 u215 u216 u217 u218 u219 u220 u221 u222 u223 u224 u225 u226 u227 u228 u229 u230 u231 u232 u233 u234 u235 u236 u237 u238 u239 u240 u241 u242 u243 u244 u245 u246 u247 u248 u249 : Value) (wx : World), LG w w.heap.size w2.heap.size d ys fs (.slice Ae d.eras.length ce) (.slice An d.notes.length cn) (.slice (some ⟨gy, 0, none⟩) ys.length cy) (.slice Af fs.length cf) [⟨w6.heap.size, 28, [.int .i64 d.stones, .slice Ax d.eras.length cx, .slice (some ⟨g8, 0, none⟩) (d.notes.length + 1) c8]⟩] [⟨39, 2, .slice (some ⟨ga, 0, none⟩) d.stones ca, d.stones, flatS (spanList d 1 d.stones)⟩, ⟨39, 2, .slice (some ⟨gb, 0, none⟩) d.stones cb, d.stones, flatS (spanList x 1 d.stones)⟩, ⟨39, 2, .slice Ac d.eras.length cc, d.eras.length, flatS (spanList d 7 d.eras.length)⟩, ⟨39, 2, .slice Ay2 d.eras.length cy2, d.eras.length, flatS (spanList x 7 d.eras.length)⟩] [] [(.agg #[.int .i64 d.stones, .slice Ax d.eras.length cx, .slice (some ⟨g8, 0, none⟩) (d.notes.length + 1) c8], x)] wx → Q (.exit 4) ⟨List.toArray (s0 :: s1 :: u2 :: Value.pointer (some ⟨w.heap.size, 0, none⟩) :: Value.pointer (some ⟨w2.heap.size, 0, none⟩) :: Value.pointer (some ⟨(w2.heap.size + 1), 0, none⟩) :: Value.pointer (some ⟨w6.heap.size, 0, none⟩) :: s7 :: s8 :: s9 :: Value.slice (some ⟨ga, 0, none⟩) d.stones ca :: s11 :: Value.slice (some ⟨gb, 0, none⟩) d.stones cb :: s13 :: s14 :: s15 :: s16 :: s17 :: s18 :: u19 :: u20 :: u21 :: u22 :: u23 :: u24 :: u25 :: u26 :: u27 :: u28 :: u29 :: s30 :: s31 :: s32 :: s33 :: s34 :: s35 :: s36 :: s37 :: s38 :: s39 :: s40 :: s41 :: s42 :: s43 :: s44 :: s45 :: s46 :: s47 :: s48 :: s49 :: s50 :: s51 :: s52 :: s53 :: s54 :: s55 :: s56 :: s57 :: s58 :: s59 :: s60 :: s61 :: s62 :: s63 :: s64 :: s65 :: s66 :: s67 :: s68 :: s69 :: s70 :: s71 :: s72 :: s73 :: s74 :: s75 :: s76 :: s77 :: s78 :: s79 :: s80 :: s81 :: s82 :: s83 :: s84 :: s85 :: s86 :: s87 :: s88 :: s89 :: s90 :: s91 :: s92 :: s93 :: s94 :: s95 :: s96 :: s97 :: s98 :: s99 :: s100 :: s101 :: s102 :: s103 :: s104 :: s105 :: s106 :: s107 :: s108 :: s109 :: s110 :: s111 :: s112 :: s113 :: s114 :: s115 :: s116 :: s117 :: s118 :: s119 :: s120 :: s121 :: s122 :: s123 :: s124 :: s125 :: s126 :: s127 :: s128 :: s129 :: s130 :: s131 :: s132 :: s133 :: s134 :: s135 :: s136 :: s137 :: s138 :: s139 :: s140 :: s141 :: s142 :: s143 :: s144 :: s145 :: s146 :: s147 :: s148 :: s149 :: s150 :: s151 :: s152 :: s153 :: s154 :: s155 :: s156 :: s157 :: s158 :: s159 :: u160 :: u161 :: u162 :: u163 :: u164 :: u165 :: u166 :: u167 :: u168 :: u169 :: u170 :: u171 :: u172 :: u173 :: u174 :: u175 :: u176 :: u177 :: u178 :: u179 :: u180 :: u181 :: u182 :: u183 :: u184 :: u185 :: u186 :: u187 :: u188 :: u189 :: u190 :: u191 :: u192 :: u193 :: u194 :: u195 :: u196 :: u197 :: u198 :: u199 :: u200 :: u201 :: u202 :: u203 :: u204 :: u205 :: u206 :: u207 :: u208 :: u209 :: u210 :: u211 :: u212 :: u213 :: u214 :: u215 :: u216 :: u217 :: u218 :: u219 :: u220 :: u221 :: u222 :: u223 :: u224 :: u225 :: u226 :: u227 :: u228 :: u229 :: u230 :: u231 :: u232 :: u233 :: u234 :: u235 :: u236 :: u237 :: u238 :: u239 :: u240 :: u241 :: u242 :: u243 :: u244 :: u245 :: u246 :: u247 :: u248 :: u249 :: s250 :: []), []⟩ wx) :
    Code.wp Try.prog (moreLoop 4) Q ⟨List.toArray (s0 :: s1 :: s2 :: Value.pointer (some ⟨w.heap.size, 0, none⟩) :: Value.pointer (some ⟨w2.heap.size, 0, none⟩) :: Value.pointer (some ⟨(w2.heap.size + 1), 0, none⟩) :: Value.pointer (some ⟨w6.heap.size, 0, none⟩) :: s7 :: s8 :: s9 :: Value.slice (some ⟨ga, 0, none⟩) d.stones ca :: s11 :: Value.slice (some ⟨gb, 0, none⟩) d.stones cb :: s13 :: s14 :: s15 :: s16 :: s17 :: s18 :: Value.int .i64 0 :: s20 :: s21 :: s22 :: s23 :: s24 :: s25 :: s26 :: s27 :: s28 :: s29 :: s30 :: s31 :: s32 :: s33 :: s34 :: s35 :: s36 :: s37 :: s38 :: s39 :: s40 :: s41 :: s42 :: s43 :: s44 :: s45 :: s46 :: s47 :: s48 :: s49 :: s50 :: s51 :: s52 :: s53 :: s54 :: s55 :: s56 :: s57 :: s58 :: s59 :: s60 :: s61 :: s62 :: s63 :: s64 :: s65 :: s66 :: s67 :: s68 :: s69 :: s70 :: s71 :: s72 :: s73 :: s74 :: s75 :: s76 :: s77 :: s78 :: s79 :: s80 :: s81 :: s82 :: s83 :: s84 :: s85 :: s86 :: s87 :: s88 :: s89 :: s90 :: s91 :: s92 :: s93 :: s94 :: s95 :: s96 :: s97 :: s98 :: s99 :: s100 :: s101 :: s102 :: s103 :: s104 :: s105 :: s106 :: s107 :: s108 :: s109 :: s110 :: s111 :: s112 :: s113 :: s114 :: s115 :: s116 :: s117 :: s118 :: s119 :: s120 :: s121 :: s122 :: s123 :: s124 :: s125 :: s126 :: s127 :: s128 :: s129 :: s130 :: s131 :: s132 :: s133 :: s134 :: s135 :: s136 :: s137 :: s138 :: s139 :: s140 :: s141 :: s142 :: s143 :: s144 :: s145 :: s146 :: s147 :: s148 :: s149 :: s150 :: s151 :: s152 :: s153 :: s154 :: s155 :: s156 :: s157 :: s158 :: s159 :: s160 :: s161 :: s162 :: s163 :: s164 :: s165 :: s166 :: s167 :: s168 :: s169 :: s170 :: s171 :: s172 :: s173 :: s174 :: s175 :: s176 :: s177 :: s178 :: s179 :: s180 :: s181 :: s182 :: s183 :: s184 :: s185 :: s186 :: s187 :: s188 :: s189 :: s190 :: s191 :: s192 :: s193 :: s194 :: s195 :: s196 :: s197 :: s198 :: s199 :: s200 :: s201 :: s202 :: s203 :: s204 :: s205 :: s206 :: s207 :: s208 :: s209 :: s210 :: s211 :: s212 :: s213 :: s214 :: s215 :: s216 :: s217 :: s218 :: s219 :: s220 :: s221 :: s222 :: s223 :: s224 :: s225 :: s226 :: s227 :: s228 :: s229 :: s230 :: s231 :: s232 :: s233 :: s234 :: s235 :: s236 :: s237 :: s238 :: s239 :: s240 :: s241 :: s242 :: s243 :: s244 :: s245 :: s246 :: s247 :: s248 :: s249 :: s250 :: []), []⟩ w13 := by
  have HEX := Lib.hid hexit
  have HQP := Lib.hid hqp
  have HM := Lib.hid hm
  have HD := Lib.hid hm.ok
  have HYES := Lib.hid hyes
  have HMO := Lib.hid hmo
  have HNY := Lib.hid hm.ny
  have hst := hm.ok.stones
  have hs6 := hm.stones
  have hmx : x.may := (may_iff HMO.out.ok).2 hxa
  have HMX := Lib.hid hmx
  have HS := Lib.hid h0
  clear hexit hqp hm hyes hmo hmx h0
  conv => arg 2; whnf
  go_loopg [19] d.stones (fun r i wr => ∃ k : Nat, i = .int .i64 (k : Nat) ∧ k + r = d.stones ∧ LG w w.heap.size w2.heap.size d ys fs (.slice Ae d.eras.length ce) (.slice An d.notes.length cn) (.slice (some ⟨gy, 0, none⟩) ys.length cy) (.slice Af fs.length cf) [⟨w6.heap.size, 28, [.int .i64 d.stones, .slice Ax d.eras.length cx, .slice (some ⟨g8, 0, none⟩) (d.notes.length + 1) c8]⟩] [⟨39, 2, .slice (some ⟨ga, 0, none⟩) d.stones ca, d.stones, flatS (spanList d 1 d.stones)⟩, ⟨39, 2, .slice (some ⟨gb, 0, none⟩) d.stones cb, d.stones, flatS (spanList x 1 d.stones)⟩, ⟨39, 2, .slice Ac d.eras.length cc, d.eras.length, flatS (spanList d 7 d.eras.length)⟩, ⟨39, 2, .slice Ay2 d.eras.length cy2, d.eras.length, flatS (spanList x 7 d.eras.length)⟩] [] [(.agg #[.int .i64 d.stones, .slice Ax d.eras.length cx, .slice (some ⟨g8, 0, none⟩) (d.notes.length + 1) c8], x)] wr)
  case atStart => exact ⟨0, rfl, by omega, HS.out⟩
  case round =>
    clear HS
    obtain ⟨k3, rfl, hkr3, hs⟩ := hrel
    have HS := Lib.hid hs
    clear hs
    by_cases hlt3 : k3 < d.stones
    · have hky : k3 < ys.length := by have := HNY.out; omega
      obtain ⟨y, hy⟩ : ∃ y, ys[k3]? = some y := ⟨_, List.getElem?_eq_getElem hky⟩
      obtain ⟨yb1, yb2⟩ := HM.out.years y (List.mem_of_getElem? hy)
      have HCY := Lib.hid (fun (W : World) (h : LG w w.heap.size w2.heap.size d ys fs (.slice Ae d.eras.length ce) (.slice An d.notes.length cn) (.slice (some ⟨gy, 0, none⟩) ys.length cy) (.slice Af fs.length cf) [⟨w6.heap.size, 28, [.int .i64 d.stones, .slice Ax d.eras.length cx, .slice (some ⟨g8, 0, none⟩) (d.notes.length + 1) c8]⟩] [⟨39, 2, .slice (some ⟨ga, 0, none⟩) d.stones ca, d.stones, flatS (spanList d 1 d.stones)⟩, ⟨39, 2, .slice (some ⟨gb, 0, none⟩) d.stones cb, d.stones, flatS (spanList x 1 d.stones)⟩, ⟨39, 2, .slice Ac d.eras.length cc, d.eras.length, flatS (spanList d 7 d.eras.length)⟩, ⟨39, 2, .slice Ay2 d.eras.length cy2, d.eras.length, flatS (spanList x 7 d.eras.length)⟩] [] [(.agg #[.int .i64 d.stones, .slice Ax d.eras.length cx, .slice (some ⟨g8, 0, none⟩) (d.notes.length + 1) c8], x)] W) => (show W.cell? ⟨gy, k3, none⟩ = some (.int .i64 y) by
        rw [h.lc.oy.cellAt k3 (by omega)]
        simp [intCells, hy]))
      clear hy
      go_wp2_with fail
      refine wp_region_v [(fun j => j == 1 || j == 3 || j == 4 || j == 6 || j == 7 || j == 10 || j == 11 || j == 12 || j == 13, fun W => W.cell? ⟨w2.heap.size + 1, 0, none⟩ = some (.slice (some ⟨gy, 0, none⟩) ys.length cy)), (fun j => j == 4 || j == 6 || j == 7 || j == 10 || j == 11 || j == 12 || j == 13, fun W => W.cell? ⟨gy, k3, none⟩ = some (.int .i64 y)), (fun j => j == 6 || j == 7 || j == 10 || j == 11 || j == 12 || j == 13, fun W => W.cell? ⟨w2.heap.size, 0, none⟩ = some (.int .i64 d.stones))] (by kernel_rfl) ?_
      refine wpAnyV_world (fun W => LG w w.heap.size w2.heap.size d ys fs (.slice Ae d.eras.length ce) (.slice An d.notes.length cn) (.slice (some ⟨gy, 0, none⟩) ys.length cy) (.slice Af fs.length cf) [⟨w6.heap.size, 28, [.int .i64 d.stones, .slice Ax d.eras.length cx, .slice (some ⟨g8, 0, none⟩) (d.notes.length + 1) c8]⟩] [⟨39, 2, .slice (some ⟨ga, 0, none⟩) d.stones ca, d.stones, flatS (spanList d 1 d.stones)⟩, ⟨39, 2, .slice (some ⟨gb, 0, none⟩) d.stones cb, d.stones, flatS (spanList x 1 d.stones)⟩, ⟨39, 2, .slice Ac d.eras.length cc, d.eras.length, flatS (spanList d 7 d.eras.length)⟩, ⟨39, 2, .slice Ay2 d.eras.length cy2, d.eras.length, flatS (spanList x 7 d.eras.length)⟩] [] [(.agg #[.int .i64 d.stones, .slice Ax d.eras.length cx, .slice (some ⟨g8, 0, none⟩) (d.notes.length + 1) c8], x)] W) HS.out.drew (fun V hV => ?_)
      have HV := Lib.hid hV
      clear hV
      refine wpAnyV_free (i := 0) (v := ?_) (by simp only [List.getElem?_toArray, List.getElem?_cons_zero]; rfl) (by kernel_rfl) (by kernel_rfl) (by kernel_rfl) (by kernel_rfl) (by exact fun c a w h => HQP.out c a _ _ w h) (Or.inl ⟨by rfl, ?hyd2⟩) (behind_cons (fun h => by simp at h) (behind_cons (fun h => by simp at h) (behind_cons (fun h => by simp at h) (fun p hp => by cases hp)))) ?restd2
      case hyd2 => (intro W' _; go_simp; try with_reducible rfl)
      try simp only [Act.put, List.setIfInBounds_toArray, List.set_cons_zero, List.set_cons_succ]
      refine wpAnyV_free (i := 2) (v := ?_) (by simp only [List.getElem?_toArray, List.getElem?_cons_zero, List.getElem?_cons_succ]; rfl) (by kernel_rfl) (by kernel_rfl) (by kernel_rfl) (by kernel_rfl) (by exact fun c a w h => HQP.out c a _ _ w h) (Or.inl ⟨by rfl, ?hyd3⟩) (behind_cons (fun h => by simp at h) (behind_cons (fun h => by simp at h) (behind_cons (fun h => by simp at h) (fun p hp => by cases hp)))) ?restd3
      case hyd3 => (intro W' _; go_simp; try with_reducible rfl)
      try simp only [Act.put, List.setIfInBounds_toArray, List.set_cons_zero, List.set_cons_succ]
      refine wpAnyV_free (i := 5) (v := ?_) (by simp only [List.getElem?_toArray, List.getElem?_cons_zero, List.getElem?_cons_succ]; rfl) (by kernel_rfl) (by kernel_rfl) (by kernel_rfl) (by kernel_rfl) (by exact fun c a w h => HQP.out c a _ _ w h) (Or.inl ⟨by rfl, ?hyd4⟩) (behind_cons (fun h => by simp at h) (behind_cons (fun h => by simp at h) (behind_cons (fun h => by simp at h) (fun p hp => by cases hp)))) ?restd4
      case hyd4 => (intro W' _; go_simp; try with_reducible rfl)
      try simp only [Act.put, List.setIfInBounds_toArray, List.set_cons_zero, List.set_cons_succ]
      refine wpAnyV_free (i := 8) (v := ?_) (by simp only [List.getElem?_toArray, List.getElem?_cons_zero, List.getElem?_cons_succ]; rfl) (by kernel_rfl) (by kernel_rfl) (by kernel_rfl) (by kernel_rfl) (by exact fun c a w h => HQP.out c a _ _ w h) (Or.inl ⟨by rfl, ?hyd5⟩) (behind_cons (fun h => by simp at h) (behind_cons (fun h => by simp at h) (behind_cons (fun h => by simp at h) (fun p hp => by cases hp)))) ?restd5
      case hyd5 => (intro W' _; go_simp; try with_reducible rfl)
      try simp only [Act.put, List.setIfInBounds_toArray, List.set_cons_zero, List.set_cons_succ]
      refine wpAnyV_free (i := 9) (v := ?_) (by simp only [List.getElem?_toArray, List.getElem?_cons_zero, List.getElem?_cons_succ]; rfl) (by kernel_rfl) (by kernel_rfl) (by kernel_rfl) (by kernel_rfl) (by exact fun c a w h => HQP.out c a _ _ w h) (Or.inl ⟨by rfl, ?hyd6⟩) (behind_cons (fun h => by simp at h) (behind_cons (fun h => by simp at h) (behind_cons (fun h => by simp at h) (fun p hp => by cases hp)))) ?restd6
      case hyd6 => (intro W' _; go_simp; try with_reducible rfl)
      try simp only [Act.put, List.setIfInBounds_toArray, List.set_cons_zero, List.set_cons_succ]
      refine wpAnyV_take (i := 1) (m := 0) (v := ?_) (by simp only [List.getElem?_toArray, List.getElem?_cons_zero, List.getElem?_cons_succ]; rfl) (by rfl) (by kernel_rfl) (by kernel_rfl) (by kernel_rfl) (by kernel_rfl) (by exact fun c a w h => HQP.out c a _ _ w h) (Or.inl ⟨by rfl, ?hyd7⟩) ((HV.out.lc.kw.cell 0)) (behind_cons (fun _ => (HV.out.lc.kw.cell 0)) (behind_cons (fun h => by simp at h) (behind_cons (fun h => by simp at h) (fun p hp => by cases hp)))) ?restd7
      case hyd7 => (intro W' hSW; go_simp; try with_reducible rfl)
      try simp only [Act.put, List.setIfInBounds_toArray, List.set_cons_zero, List.set_cons_succ]
      refine wpAnyV_free (i := 3) (v := ?_) (by simp only [List.getElem?_toArray, List.getElem?_cons_zero, List.getElem?_cons_succ]; rfl) (by kernel_rfl) (by kernel_rfl) (by kernel_rfl) (by kernel_rfl) (by exact fun c a w h => HQP.out c a _ _ w h) (Or.inl ⟨by rfl, ?hyd8⟩) (behind_cons (fun _ => (HV.out.lc.kw.cell 0)) (behind_cons (fun h => by simp at h) (behind_cons (fun h => by simp at h) (fun p hp => by cases hp)))) ?restd8
      case hyd8 => (intro W' _; go_simp; try with_reducible rfl)
      try simp only [Act.put, List.setIfInBounds_toArray, List.set_cons_zero, List.set_cons_succ]
      refine wpAnyV_take (i := 4) (m := 1) (v := ?_) (by simp only [List.getElem?_toArray, List.getElem?_cons_zero, List.getElem?_cons_succ]; rfl) (by rfl) (by kernel_rfl) (by kernel_rfl) (by kernel_rfl) (by kernel_rfl) (by exact fun c a w h => HQP.out c a _ _ w h) (Or.inl ⟨by rfl, ?hyd9⟩) ((HCY.out _ HV.out)) (behind_cons (fun _ => (HV.out.lc.kw.cell 0)) (behind_cons (fun _ => (HCY.out _ HV.out)) (behind_cons (fun h => by simp at h) (fun p hp => by cases hp)))) ?restd9
      case hyd9 => (intro W' hSW; go_simp; try with_reducible rfl)
      try simp only [Act.put, List.setIfInBounds_toArray, List.set_cons_zero, List.set_cons_succ]
      refine wpAnyV_take (i := 10) (m := 2) (v := ?_) (by simp only [List.getElem?_toArray, List.getElem?_cons_zero, List.getElem?_cons_succ]; rfl) (by rfl) (by kernel_rfl) (by kernel_rfl) (by kernel_rfl) (by kernel_rfl) (by exact fun c a w h => HQP.out c a _ _ w h) (Or.inl ⟨by rfl, ?hyd10⟩) ((HV.out.lc.kd.cell 0)) (behind_cons (fun _ => (HV.out.lc.kw.cell 0)) (behind_cons (fun _ => (HCY.out _ HV.out)) (behind_cons (fun _ => (HV.out.lc.kd.cell 0)) (fun p hp => by cases hp)))) ?restd10
      case hyd10 => (intro W' hSW; go_simp; try with_reducible rfl)
      try simp only [Act.put, List.setIfInBounds_toArray, List.set_cons_zero, List.set_cons_succ]
      refine wpAnyV_ready (rs := [6]) (by kernel_rfl) (by simp) ?_
      refine AllReadyV.cons (by simp only [List.getElem?_toArray, List.getElem?_cons_zero, List.getElem?_cons_succ]; rfl) (fun K hK => ?_) AllReadyV.nil
      go_simp
      go_at_call 15
      refine (from_any _ _ _ _ (by omega) (by omega) (by omega) (by omega) HV.out.urn).mono ?_
      rintro e w508 ⟨z, rfl, hz1, hz2, hu, hk⟩
      have HC508 := Lib.hid (HV.out.calls hu hk)
      clear hu hk
      have q5 : IntKind.i64.wrap (y + z) = y + z := IntWalk.i64_in _ (by omega)
      refine hK.out _ _ (behind_cons (fun _ => (HC508.out.lc.kw.cell 0)) (behind_cons (fun _ => (HCY.out _ HC508.out)) (behind_cons (fun _ => (HC508.out.lc.kd.cell 0)) (fun p hp => by cases hp)))) ?_
      clear hK K
      try simp only [Act.put, List.setIfInBounds_toArray, List.set_cons_zero, List.set_cons_succ]
      refine wpAnyV_free (i := 7) (v := ?_) (by simp only [List.getElem?_toArray, List.getElem?_cons_zero, List.getElem?_cons_succ]; rfl) (by kernel_rfl) (by kernel_rfl) (by kernel_rfl) (by kernel_rfl) (by exact fun c a w h => HQP.out c a _ _ w h) (Or.inl ⟨by rfl, ?hyd12⟩) (behind_cons (fun _ => (HC508.out.lc.kw.cell 0)) (behind_cons (fun _ => (HCY.out _ HC508.out)) (behind_cons (fun _ => (HC508.out.lc.kd.cell 0)) (fun p hp => by cases hp)))) ?restd12
      case hyd12 => (intro W' _; go_simp; try with_reducible rfl)
      try simp only [Act.put, List.setIfInBounds_toArray, List.set_cons_zero, List.set_cons_succ]
      refine wpAnyV_ready (rs := [11]) (by kernel_rfl) (by simp) ?_
      refine AllReadyV.cons (by simp only [List.getElem?_toArray, List.getElem?_cons_zero, List.getElem?_cons_succ]; rfl) (fun K hK => ?_) AllReadyV.nil
      go_simp
      go_at_call 16
      refine (up_any _ _ _ (by omega) HC508.out.urn).mono ?_
      rintro e w509 ⟨o, rfl, ho, hu, hk⟩
      have HC509 := Lib.hid (HC508.out.calls hu hk)
      clear hu hk
      refine hK.out _ _ (behind_cons (fun _ => (HC509.out.lc.kw.cell 0)) (behind_cons (fun _ => (HCY.out _ HC509.out)) (behind_cons (fun _ => (HC509.out.lc.kd.cell 0)) (fun p hp => by cases hp)))) ?_
      clear hK K
      try simp only [Act.put, List.setIfInBounds_toArray, List.set_cons_zero, List.set_cons_succ]
      refine wpAnyV_free (i := 12) (v := ?_) (by simp only [List.getElem?_toArray, List.getElem?_cons_zero, List.getElem?_cons_succ]; rfl) (by kernel_rfl) (by kernel_rfl) (by kernel_rfl) (by kernel_rfl) (by exact fun c a w h => HQP.out c a _ _ w h) (Or.inl ⟨by rfl, ?hyd14⟩) (behind_cons (fun _ => (HC509.out.lc.kw.cell 0)) (behind_cons (fun _ => (HCY.out _ HC509.out)) (behind_cons (fun _ => (HC509.out.lc.kd.cell 0)) (fun p hp => by cases hp)))) ?restd14
      case hyd14 => (intro W' _; go_simp; try with_reducible rfl)
      try simp only [Act.put, List.setIfInBounds_toArray, List.set_cons_zero, List.set_cons_succ]
      refine wpAnyV_free (i := 13) (v := ?_) (by simp only [List.getElem?_toArray, List.getElem?_cons_zero, List.getElem?_cons_succ]; rfl) (by kernel_rfl) (by kernel_rfl) (by kernel_rfl) (by kernel_rfl) (by exact fun c a w h => HQP.out c a _ _ w h) (Or.inl ⟨by rfl, ?hyd15⟩) (behind_cons (fun _ => (HC509.out.lc.kw.cell 0)) (behind_cons (fun _ => (HCY.out _ HC509.out)) (behind_cons (fun _ => (HC509.out.lc.kd.cell 0)) (fun p hp => by cases hp)))) ?restd15
      case hyd15 => (intro W' _; go_simp; try with_reducible rfl)
      try simp only [Act.put, List.setIfInBounds_toArray, List.set_cons_zero, List.set_cons_succ]
      refine wpAnyV_done (by kernel_rfl) ?_ _
      obtain ⟨w15, rfl⟩ : ∃ w15 : World, w15 = w509 := ⟨_, rfl⟩
      have HS15 := HC509
      obtain ⟨n, hn⟩ : ∃ n, n = y + z := ⟨_, rfl⟩
      rw [← hn]
      have n1 : -3000 ≤ n := by omega
      have n2 : n ≤ 3000 := by omega
      have hos : o < d.stones := by omega
      clear hn q5 ho
      have hsx := HMO.out.stones
      have HVC := Lib.hid (verdict_cases (cutV_spec HD.out ((may_iff HD.out).2 HYES.out) (1 + k3) (by omega) n) (cutV_spec HMO.out.ok HMX.out (1 + k3) (by omega) n) HMO.out.sub)
      have HVL := Lib.hid (verdict_cases (laterV_spec HD.out ((may_iff HD.out).2 HYES.out) (1 + k3) (1 + o) (by omega) (by omega)) (laterV_spec HMO.out.ok HMX.out (1 + k3) (1 + o) (by omega) (by omega)) HMO.out.sub)
      have HSX := Lib.hid hsx
      clear hsx
      obtain ⟨pv, hpv⟩ : ∃ v, v = d.cutV (1 + k3) n := ⟨_, rfl⟩
      obtain ⟨qv, hqv⟩ : ∃ v, v = x.cutV (1 + k3) n := ⟨_, rfl⟩
      obtain ⟨rv, hrv⟩ : ∃ v, v = d.laterV (1 + k3) (1 + o) := ⟨_, rfl⟩
      obtain ⟨sv, hsv⟩ : ∃ v, v = x.laterV (1 + k3) (1 + o) := ⟨_, rfl⟩
      have HC1 := Lib.hid (cut_yes d HD.out HYES.out k3 hlt3 n (outB_no (by omega) (by omega)))
      have HC2 := Lib.hid (cut_yes x HMO.out.ok hxa k3 (by rw [HSX.out]; exact hlt3) n (outB_no (by omega) (by omega)))
      have HE1 := Lib.hid (earlier_yes d HD.out HYES.out k3 o hlt3 hos)
      have HE2 := Lib.hid (earlier_yes x HMO.out.ok hxa k3 o (by rw [HSX.out]; exact hlt3) (by rw [HSX.out]; exact hos))
      rw [← hpv] at HC1 HVC
      rw [← hqv] at HC2 HVC
      rw [← hrv] at HE1 HVL
      rw [← hsv] at HE2 HVL
      clear hpv hqv hrv hsv
      have d0 := HS15.out.lc.kd.cell 0
      have d1 := HS15.out.lc.kd.cell 1
      have d2 := HS15.out.lc.kd.cell 2
      simp at d0 d1 d2
      go_wp2_with fail
      refine (HC1.out _ _ w15 (Nat.le_refl _) HS15.out.lc.dat.dat).mono ?_
      rintro e w16 ⟨rfl, hb⟩
      have HS16 := Lib.hid (HS15.out.to hb)
      clear hb d0 d1 d2 HS15
      have e0 := (HS16.out.blok 0 rfl).cell 0
      have e1 := (HS16.out.blok 0 rfl).cell 1
      have e2 := (HS16.out.blok 0 rfl).cell 2
      simp at e0 e1 e2
      go_wp2_with fail
      refine (HC2.out _ _ w16 (Nat.le_refl _) (HS16.out.dat 0 rfl).dat).mono ?_
      rintro e w17 ⟨rfl, hb⟩
      have HS17 := Lib.hid (HS16.out.to hb)
      clear hb e0 e1 e2 HS16
      have d0 := HS17.out.lc.kd.cell 0
      have d1 := HS17.out.lc.kd.cell 1
      have d2 := HS17.out.lc.kd.cell 2
      simp at d0 d1 d2
      go_wp2_with fail
      refine (HE1.out _ _ w17 (Nat.le_refl _) HS17.out.lc.dat.dat).mono ?_
      rintro e w18 ⟨rfl, hb⟩
      have HS18 := Lib.hid (HS17.out.to hb)
      clear hb d0 d1 d2 HS17
      have e0 := (HS18.out.blok 0 rfl).cell 0
      have e1 := (HS18.out.blok 0 rfl).cell 1
      have e2 := (HS18.out.blok 0 rfl).cell 2
      simp at e0 e1 e2
      go_wp2_with fail
      refine (HE2.out _ _ w18 (Nat.le_refl _) (HS18.out.dat 0 rfl).dat).mono ?_
      rintro e w19 ⟨rfl, hb⟩
      have HS19 := Lib.hid (HS18.out.to hb)
      clear hb e0 e1 e2 HS18 HC1 HC2 HE1 HE2
      obtain ⟨p, hp⟩ : ∃ p, p = d.span (1 + k3) := ⟨_, rfl⟩
      obtain ⟨p', hp'⟩ : ∃ p', p' = x.span (1 + k3) := ⟨_, rfl⟩
      obtain ⟨u1, u2⟩ := flatS_at (spanList d 1 d.stones) k3 p (by rw [hp]; simp [spanList, hlt3])
      obtain ⟨v1, v2⟩ := flatS_at (spanList x 1 d.stones) k3 p' (by rw [hp']; simp [spanList, hlt3])
      have hls := less_span HD.out HMO.out.ok HMX.out HMO.out.sub (1 + k3) (by omega)
      rw [← hp, ← hp'] at hls
      have hw : withinB p'.1 p'.2 p.1 p.2 = true := by simp [withinB, hls.1, hls.2]
      have HWI := Lib.hid (fun w => withinS_any p'.1 p'.2 p.1 p.2 w)
      rw [hw] at HWI
      have HCA := Lib.hid (fun (W : World) (h : LG w w.heap.size w2.heap.size d ys fs (.slice Ae d.eras.length ce) (.slice An d.notes.length cn) (.slice (some ⟨gy, 0, none⟩) ys.length cy) (.slice Af fs.length cf) [⟨w6.heap.size, 28, [.int .i64 d.stones, .slice Ax d.eras.length cx, .slice (some ⟨g8, 0, none⟩) (d.notes.length + 1) c8]⟩] [⟨39, 2, .slice (some ⟨ga, 0, none⟩) d.stones ca, d.stones, flatS (spanList d 1 d.stones)⟩, ⟨39, 2, .slice (some ⟨gb, 0, none⟩) d.stones cb, d.stones, flatS (spanList x 1 d.stones)⟩, ⟨39, 2, .slice Ac d.eras.length cc, d.eras.length, flatS (spanList d 7 d.eras.length)⟩, ⟨39, 2, .slice Ay2 d.eras.length cy2, d.eras.length, flatS (spanList x 7 d.eras.length)⟩] [] [(.agg #[.int .i64 d.stones, .slice Ax d.eras.length cx, .slice (some ⟨g8, 0, none⟩) (d.notes.length + 1) c8], x)] W) => (show W.cell? ⟨ga, k3 * 2, none⟩ = some (.int .i64 p.1) ∧ W.cell? ⟨ga, k3 * 2 + 1, none⟩ = some (.int .i64 p.2) from ⟨((h.row 0 rfl).cellAt (k3 * 2) (by show k3 * 2 < d.stones * 2; omega)).trans u1, ((h.row 0 rfl).cellAt (k3 * 2 + 1) (by show k3 * 2 + 1 < d.stones * 2; omega)).trans u2⟩))
      have HCB := Lib.hid (fun (W : World) (h : LG w w.heap.size w2.heap.size d ys fs (.slice Ae d.eras.length ce) (.slice An d.notes.length cn) (.slice (some ⟨gy, 0, none⟩) ys.length cy) (.slice Af fs.length cf) [⟨w6.heap.size, 28, [.int .i64 d.stones, .slice Ax d.eras.length cx, .slice (some ⟨g8, 0, none⟩) (d.notes.length + 1) c8]⟩] [⟨39, 2, .slice (some ⟨ga, 0, none⟩) d.stones ca, d.stones, flatS (spanList d 1 d.stones)⟩, ⟨39, 2, .slice (some ⟨gb, 0, none⟩) d.stones cb, d.stones, flatS (spanList x 1 d.stones)⟩, ⟨39, 2, .slice Ac d.eras.length cc, d.eras.length, flatS (spanList d 7 d.eras.length)⟩, ⟨39, 2, .slice Ay2 d.eras.length cy2, d.eras.length, flatS (spanList x 7 d.eras.length)⟩] [] [(.agg #[.int .i64 d.stones, .slice Ax d.eras.length cx, .slice (some ⟨g8, 0, none⟩) (d.notes.length + 1) c8], x)] W) => (show W.cell? ⟨gb, k3 * 2, none⟩ = some (.int .i64 p'.1) ∧ W.cell? ⟨gb, k3 * 2 + 1, none⟩ = some (.int .i64 p'.2) from ⟨((h.row 1 rfl).cellAt (k3 * 2) (by show k3 * 2 < d.stones * 2; omega)).trans v1, ((h.row 1 rfl).cellAt (k3 * 2 + 1) (by show k3 * 2 + 1 < d.stones * 2; omega)).trans v2⟩))
      clear u1 u2 v1 v2 hp hp' hls hw
      have hvc' : pv = 3 ∨ (((pv : Int) == 3) = false ∧ ((pv : Int) != 3) = true ∧ qv = pv) := by
        rcases HVC.out with ⟨rfl, rfl⟩ | ⟨rfl, rfl⟩ | rfl <;> simp
      have hvl' : rv = 3 ∨ (((rv : Int) == 3) = false ∧ ((rv : Int) != 3) = true ∧ sv = rv) := by
        rcases HVL.out with ⟨rfl, rfl⟩ | ⟨rfl, rfl⟩ | rfl <;> simp
      clear HVC HVL
      rcases hvc' with rfl | ⟨hp3, hp3', rfl⟩
      · rcases hvl' with rfl | ⟨hr3, hr3', rfl⟩
        · go_wp2_with fail
          refine wp_region_v [(fun j => j == 18 || j == 22 || j == 23 || j == 24 || j == 25 || j == 26 || j == 27 || j == 28 || j == 29 || j == 30 || j == 31 || j == 32 || j == 33 || j == 34 || j == 35 || j == 36 || j == 37 || j == 38 || j == 39 || j == 40 || j == 41 || j == 42 || j == 43, fun W => W.cell? ⟨gb, k3 * 2, none⟩ = some (.int .i64 p'.1) ∧ W.cell? ⟨gb, k3 * 2 + 1, none⟩ = some (.int .i64 p'.2)), (fun j => j == 22 || j == 23 || j == 24 || j == 25 || j == 26 || j == 27 || j == 28 || j == 29 || j == 30 || j == 31 || j == 32 || j == 33 || j == 34 || j == 35 || j == 36 || j == 37 || j == 38 || j == 39 || j == 40 || j == 41 || j == 42 || j == 43, fun W => W.cell? ⟨ga, k3 * 2, none⟩ = some (.int .i64 p.1) ∧ W.cell? ⟨ga, k3 * 2 + 1, none⟩ = some (.int .i64 p.2))] (by kernel_rfl) ?_
          refine wpAnyV_world (fun W => LG w w.heap.size w2.heap.size d ys fs (.slice Ae d.eras.length ce) (.slice An d.notes.length cn) (.slice (some ⟨gy, 0, none⟩) ys.length cy) (.slice Af fs.length cf) [⟨w6.heap.size, 28, [.int .i64 d.stones, .slice Ax d.eras.length cx, .slice (some ⟨g8, 0, none⟩) (d.notes.length + 1) c8]⟩] [⟨39, 2, .slice (some ⟨ga, 0, none⟩) d.stones ca, d.stones, flatS (spanList d 1 d.stones)⟩, ⟨39, 2, .slice (some ⟨gb, 0, none⟩) d.stones cb, d.stones, flatS (spanList x 1 d.stones)⟩, ⟨39, 2, .slice Ac d.eras.length cc, d.eras.length, flatS (spanList d 7 d.eras.length)⟩, ⟨39, 2, .slice Ay2 d.eras.length cy2, d.eras.length, flatS (spanList x 7 d.eras.length)⟩] [] [(.agg #[.int .i64 d.stones, .slice Ax d.eras.length cx, .slice (some ⟨g8, 0, none⟩) (d.notes.length + 1) c8], x)] W) HS19.out.drew (fun V hV => ?_)
          have HV := Lib.hid hV
          clear hV
          refine wpAnyV_free (i := 0) (v := ?_) (by simp only [List.getElem?_toArray, List.getElem?_cons_zero]; rfl) (by kernel_rfl) (by kernel_rfl) (by kernel_rfl) (by kernel_rfl) (by exact fun c a w h => HQP.out c a _ _ w h) (Or.inl ⟨by rfl, ?hyea2⟩) (behind_cons (fun h => by simp at h) (behind_cons (fun h => by simp at h) (fun p hp => by cases hp))) ?restea2
          case hyea2 => (intro W' _; go_simp; try with_reducible rfl)
          try simp only [Act.put, List.setIfInBounds_toArray, List.set_cons_zero, List.set_cons_succ]
          refine wpAnyV_free (i := 1) (v := ?_) (by simp only [List.getElem?_toArray, List.getElem?_cons_zero, List.getElem?_cons_succ]; rfl) (by kernel_rfl) (by kernel_rfl) (by kernel_rfl) (by kernel_rfl) (by exact fun c a w h => HQP.out c a _ _ w h) (Or.inl ⟨by rfl, ?hyea3⟩) (behind_cons (fun h => by simp at h) (behind_cons (fun h => by simp at h) (fun p hp => by cases hp))) ?restea3
          case hyea3 => (intro W' _; go_simp; try with_reducible rfl)
          try simp only [Act.put, List.setIfInBounds_toArray, List.set_cons_zero, List.set_cons_succ]
          refine wpAnyV_free (i := 2) (v := ?_) (by simp only [List.getElem?_toArray, List.getElem?_cons_zero, List.getElem?_cons_succ]; rfl) (by kernel_rfl) (by kernel_rfl) (by kernel_rfl) (by kernel_rfl) (by exact fun c a w h => HQP.out c a _ _ w h) (Or.inl ⟨by rfl, ?hyea4⟩) (behind_cons (fun h => by simp at h) (behind_cons (fun h => by simp at h) (fun p hp => by cases hp))) ?restea4
          case hyea4 => (intro W' _; go_simp; try with_reducible rfl)
          try simp only [Act.put, List.setIfInBounds_toArray, List.set_cons_zero, List.set_cons_succ]
          refine wpAnyV_free (i := 3) (v := ?_) (by simp only [List.getElem?_toArray, List.getElem?_cons_zero, List.getElem?_cons_succ]; rfl) (by kernel_rfl) (by kernel_rfl) (by kernel_rfl) (by kernel_rfl) (by exact fun c a w h => HQP.out c a _ _ w h) (Or.inl ⟨by rfl, ?hyea5⟩) (behind_cons (fun h => by simp at h) (behind_cons (fun h => by simp at h) (fun p hp => by cases hp))) ?restea5
          case hyea5 => (intro W' _; go_simp; try with_reducible rfl)
          try simp only [Act.put, List.setIfInBounds_toArray, List.set_cons_zero, List.set_cons_succ]
          refine wpAnyV_free (i := 4) (v := ?_) (by simp only [List.getElem?_toArray, List.getElem?_cons_zero, List.getElem?_cons_succ]; rfl) (by kernel_rfl) (by kernel_rfl) (by kernel_rfl) (by kernel_rfl) (by exact fun c a w h => HQP.out c a _ _ w h) (Or.inl ⟨by rfl, ?hyea6⟩) (behind_cons (fun h => by simp at h) (behind_cons (fun h => by simp at h) (fun p hp => by cases hp))) ?restea6
          case hyea6 => (intro W' _; go_simp; try with_reducible rfl)
          try simp only [Act.put, List.setIfInBounds_toArray, List.set_cons_zero, List.set_cons_succ]
          refine wpAnyV_free (i := 5) (v := ?_) (by simp only [List.getElem?_toArray, List.getElem?_cons_zero, List.getElem?_cons_succ]; rfl) (by kernel_rfl) (by kernel_rfl) (by kernel_rfl) (by kernel_rfl) (by exact fun c a w h => HQP.out c a _ _ w h) (Or.inl ⟨by rfl, ?hyea7⟩) (behind_cons (fun h => by simp at h) (behind_cons (fun h => by simp at h) (fun p hp => by cases hp))) ?restea7
          case hyea7 => (intro W' _; go_simp; try with_reducible rfl)
          try simp only [Act.put, List.setIfInBounds_toArray, List.set_cons_zero, List.set_cons_succ]
          refine wpAnyV_free (i := 6) (v := ?_) (by simp only [List.getElem?_toArray, List.getElem?_cons_zero, List.getElem?_cons_succ]; rfl) (by kernel_rfl) (by kernel_rfl) (by kernel_rfl) (by kernel_rfl) (by exact fun c a w h => HQP.out c a _ _ w h) (Or.inl ⟨by rfl, ?hyea8⟩) (behind_cons (fun h => by simp at h) (behind_cons (fun h => by simp at h) (fun p hp => by cases hp))) ?restea8
          case hyea8 => (intro W' _; go_simp; try with_reducible rfl)
          try simp only [Act.put, List.setIfInBounds_toArray, List.set_cons_zero, List.set_cons_succ]
          refine wpAnyV_free (i := 7) (v := ?_) (by simp only [List.getElem?_toArray, List.getElem?_cons_zero, List.getElem?_cons_succ]; rfl) (by kernel_rfl) (by kernel_rfl) (by kernel_rfl) (by kernel_rfl) (by exact fun c a w h => HQP.out c a _ _ w h) (Or.inl ⟨by rfl, ?hyea9⟩) (behind_cons (fun h => by simp at h) (behind_cons (fun h => by simp at h) (fun p hp => by cases hp))) ?restea9
          case hyea9 => (intro W' _; go_simp; try with_reducible rfl)
          try simp only [Act.put, List.setIfInBounds_toArray, List.set_cons_zero, List.set_cons_succ]
          refine wpAnyV_free (i := 8) (v := ?_) (by simp only [List.getElem?_toArray, List.getElem?_cons_zero, List.getElem?_cons_succ]; rfl) (by kernel_rfl) (by kernel_rfl) (by kernel_rfl) (by kernel_rfl) (by exact fun c a w h => HQP.out c a _ _ w h) (Or.inl ⟨by rfl, ?hyea10⟩) (behind_cons (fun h => by simp at h) (behind_cons (fun h => by simp at h) (fun p hp => by cases hp))) ?restea10
          case hyea10 => (intro W' _; go_simp; try with_reducible rfl)
          try simp only [Act.put, List.setIfInBounds_toArray, List.set_cons_zero, List.set_cons_succ]
          refine wpAnyV_free (i := 9) (v := ?_) (by simp only [List.getElem?_toArray, List.getElem?_cons_zero, List.getElem?_cons_succ]; rfl) (by kernel_rfl) (by kernel_rfl) (by kernel_rfl) (by kernel_rfl) (by exact fun c a w h => HQP.out c a _ _ w h) (Or.inl ⟨by rfl, ?hyea11⟩) (behind_cons (fun h => by simp at h) (behind_cons (fun h => by simp at h) (fun p hp => by cases hp))) ?restea11
          case hyea11 => (intro W' _; go_simp; try with_reducible rfl)
          try simp only [Act.put, List.setIfInBounds_toArray, List.set_cons_zero, List.set_cons_succ]
          refine wpAnyV_free (i := 10) (v := ?_) (by simp only [List.getElem?_toArray, List.getElem?_cons_zero, List.getElem?_cons_succ]; rfl) (by kernel_rfl) (by kernel_rfl) (by kernel_rfl) (by kernel_rfl) (by exact fun c a w h => HQP.out c a _ _ w h) (Or.inl ⟨by rfl, ?hyea12⟩) (behind_cons (fun h => by simp at h) (behind_cons (fun h => by simp at h) (fun p hp => by cases hp))) ?restea12
          case hyea12 => (intro W' _; go_simp; try with_reducible rfl)
          try simp only [Act.put, List.setIfInBounds_toArray, List.set_cons_zero, List.set_cons_succ]
          refine wpAnyV_free (i := 11) (v := ?_) (by simp only [List.getElem?_toArray, List.getElem?_cons_zero, List.getElem?_cons_succ]; rfl) (by kernel_rfl) (by kernel_rfl) (by kernel_rfl) (by kernel_rfl) (by exact fun c a w h => HQP.out c a _ _ w h) (Or.inl ⟨by rfl, ?hyea13⟩) (behind_cons (fun h => by simp at h) (behind_cons (fun h => by simp at h) (fun p hp => by cases hp))) ?restea13
          case hyea13 => (intro W' _; go_simp; try with_reducible rfl)
          try simp only [Act.put, List.setIfInBounds_toArray, List.set_cons_zero, List.set_cons_succ]
          refine wpAnyV_free (i := 12) (v := ?_) (by simp only [List.getElem?_toArray, List.getElem?_cons_zero, List.getElem?_cons_succ]; rfl) (by kernel_rfl) (by kernel_rfl) (by kernel_rfl) (by kernel_rfl) (by exact fun c a w h => HQP.out c a _ _ w h) (Or.inl ⟨by rfl, ?hyea14⟩) (behind_cons (fun h => by simp at h) (behind_cons (fun h => by simp at h) (fun p hp => by cases hp))) ?restea14
          case hyea14 => (intro W' _; go_simp; try with_reducible rfl)
          try simp only [Act.put, List.setIfInBounds_toArray, List.set_cons_zero, List.set_cons_succ]
          refine wpAnyV_free (i := 13) (v := ?_) (by simp only [List.getElem?_toArray, List.getElem?_cons_zero, List.getElem?_cons_succ]; rfl) (by kernel_rfl) (by kernel_rfl) (by kernel_rfl) (by kernel_rfl) (by exact fun c a w h => HQP.out c a _ _ w h) (Or.inl ⟨by rfl, ?hyea15⟩) (behind_cons (fun h => by simp at h) (behind_cons (fun h => by simp at h) (fun p hp => by cases hp))) ?restea15
          case hyea15 => (intro W' _; go_simp; try with_reducible rfl)
          try simp only [Act.put, List.setIfInBounds_toArray, List.set_cons_zero, List.set_cons_succ]
          refine wpAnyV_free (i := 14) (v := ?_) (by simp only [List.getElem?_toArray, List.getElem?_cons_zero, List.getElem?_cons_succ]; rfl) (by kernel_rfl) (by kernel_rfl) (by kernel_rfl) (by kernel_rfl) (by exact fun c a w h => HQP.out c a _ _ w h) (Or.inl ⟨by rfl, ?hyea16⟩) (behind_cons (fun h => by simp at h) (behind_cons (fun h => by simp at h) (fun p hp => by cases hp))) ?restea16
          case hyea16 => (intro W' _; go_simp; try with_reducible rfl)
          try simp only [Act.put, List.setIfInBounds_toArray, List.set_cons_zero, List.set_cons_succ]
          refine wpAnyV_free (i := 15) (v := ?_) (by simp only [List.getElem?_toArray, List.getElem?_cons_zero, List.getElem?_cons_succ]; rfl) (by kernel_rfl) (by kernel_rfl) (by kernel_rfl) (by kernel_rfl) (by exact fun c a w h => HQP.out c a _ _ w h) (Or.inl ⟨by rfl, ?hyea17⟩) (behind_cons (fun h => by simp at h) (behind_cons (fun h => by simp at h) (fun p hp => by cases hp))) ?restea17
          case hyea17 => (intro W' _; go_simp; try with_reducible rfl)
          try simp only [Act.put, List.setIfInBounds_toArray, List.set_cons_zero, List.set_cons_succ]
          refine wpAnyV_free (i := 16) (v := ?_) (by simp only [List.getElem?_toArray, List.getElem?_cons_zero, List.getElem?_cons_succ]; rfl) (by kernel_rfl) (by kernel_rfl) (by kernel_rfl) (by kernel_rfl) (by exact fun c a w h => HQP.out c a _ _ w h) (Or.inl ⟨by rfl, ?hyea18⟩) (behind_cons (fun h => by simp at h) (behind_cons (fun h => by simp at h) (fun p hp => by cases hp))) ?restea18
          case hyea18 => (intro W' _; go_simp; try with_reducible rfl)
          try simp only [Act.put, List.setIfInBounds_toArray, List.set_cons_zero, List.set_cons_succ]
          refine wpAnyV_free (i := 17) (v := ?_) (by simp only [List.getElem?_toArray, List.getElem?_cons_zero, List.getElem?_cons_succ]; rfl) (by kernel_rfl) (by kernel_rfl) (by kernel_rfl) (by kernel_rfl) (by exact fun c a w h => HQP.out c a _ _ w h) (Or.inl ⟨by rfl, ?hyea19⟩) (behind_cons (fun h => by simp at h) (behind_cons (fun h => by simp at h) (fun p hp => by cases hp))) ?restea19
          case hyea19 => (intro W' _; go_simp; try with_reducible rfl)
          try simp only [Act.put, List.setIfInBounds_toArray, List.set_cons_zero, List.set_cons_succ]
          refine wpAnyV_free (i := 19) (v := ?_) (by simp only [List.getElem?_toArray, List.getElem?_cons_zero, List.getElem?_cons_succ]; rfl) (by kernel_rfl) (by kernel_rfl) (by kernel_rfl) (by kernel_rfl) (by exact fun c a w h => HQP.out c a _ _ w h) (Or.inl ⟨by rfl, ?hyea20⟩) (behind_cons (fun h => by simp at h) (behind_cons (fun h => by simp at h) (fun p hp => by cases hp))) ?restea20
          case hyea20 => (intro W' _; go_simp; try with_reducible rfl)
          try simp only [Act.put, List.setIfInBounds_toArray, List.set_cons_zero, List.set_cons_succ]
          refine wpAnyV_free (i := 20) (v := ?_) (by simp only [List.getElem?_toArray, List.getElem?_cons_zero, List.getElem?_cons_succ]; rfl) (by kernel_rfl) (by kernel_rfl) (by kernel_rfl) (by kernel_rfl) (by exact fun c a w h => HQP.out c a _ _ w h) (Or.inl ⟨by rfl, ?hyea21⟩) (behind_cons (fun h => by simp at h) (behind_cons (fun h => by simp at h) (fun p hp => by cases hp))) ?restea21
          case hyea21 => (intro W' _; go_simp; try with_reducible rfl)
          try simp only [Act.put, List.setIfInBounds_toArray, List.set_cons_zero, List.set_cons_succ]
          refine wpAnyV_free (i := 21) (v := ?_) (by simp only [List.getElem?_toArray, List.getElem?_cons_zero, List.getElem?_cons_succ]; rfl) (by kernel_rfl) (by kernel_rfl) (by kernel_rfl) (by kernel_rfl) (by exact fun c a w h => HQP.out c a _ _ w h) (Or.inl ⟨by rfl, ?hyea22⟩) (behind_cons (fun h => by simp at h) (behind_cons (fun h => by simp at h) (fun p hp => by cases hp))) ?restea22
          case hyea22 => (intro W' _; go_simp; try with_reducible rfl)
          try simp only [Act.put, List.setIfInBounds_toArray, List.set_cons_zero, List.set_cons_succ]
          refine wpAnyV_take (i := 18) (m := 0) (v := ?_) (by simp only [List.getElem?_toArray, List.getElem?_cons_zero, List.getElem?_cons_succ]; rfl) (by rfl) (by kernel_rfl) (by kernel_rfl) (by kernel_rfl) (by kernel_rfl) (by exact fun c a w h => HQP.out c a _ _ w h) (Or.inl ⟨by rfl, ?hyea23⟩) ((HCB.out _ HV.out)) (behind_cons (fun _ => (HCB.out _ HV.out)) (behind_cons (fun h => by simp at h) (fun p hp => by cases hp))) ?restea23
          case hyea23 => (intro W' hSW; go_simp; try with_reducible rfl)
          try simp only [Act.put, List.setIfInBounds_toArray, List.set_cons_zero, List.set_cons_succ]
          refine wpAnyV_take (i := 22) (m := 1) (v := ?_) (by simp only [List.getElem?_toArray, List.getElem?_cons_zero, List.getElem?_cons_succ]; rfl) (by rfl) (by kernel_rfl) (by kernel_rfl) (by kernel_rfl) (by kernel_rfl) (by exact fun c a w h => HQP.out c a _ _ w h) (Or.inl ⟨by rfl, ?hyea24⟩) ((HCA.out _ HV.out)) (behind_cons (fun _ => (HCB.out _ HV.out)) (behind_cons (fun _ => (HCA.out _ HV.out)) (fun p hp => by cases hp))) ?restea24
          case hyea24 => (intro W' hSW; go_simp; try with_reducible rfl)
          try simp only [Act.put, List.setIfInBounds_toArray, List.set_cons_zero, List.set_cons_succ]
          refine wpAnyV_ready (rs := [23]) (by kernel_rfl) (by simp) ?_
          refine AllReadyV.cons (by simp only [List.getElem?_toArray, List.getElem?_cons_zero, List.getElem?_cons_succ]; rfl) (fun K hK => ?_) AllReadyV.nil
          go_simp
          go_at_call 24
          (with_reducible refine (HWI.out _).mono ?_)
          rintro e w510 ⟨rfl, hb⟩
          have HC510 := Lib.hid (HV.out.to hb)
          clear hb
          refine hK.out _ _ (behind_cons (fun _ => (HCB.out _ HC510.out)) (behind_cons (fun _ => (HCA.out _ HC510.out)) (fun p hp => by cases hp))) ?_
          clear hK K
          try simp only [Act.put, List.setIfInBounds_toArray, List.set_cons_zero, List.set_cons_succ]
          refine wpAnyV_free (i := 24) (v := ?_) (by simp only [List.getElem?_toArray, List.getElem?_cons_zero, List.getElem?_cons_succ]; rfl) (by kernel_rfl) (by kernel_rfl) (by kernel_rfl) (by kernel_rfl) (by exact fun c a w h => HQP.out c a _ _ w h) (Or.inl ⟨by rfl, ?hyea26⟩) (behind_cons (fun _ => (HCB.out _ HC510.out)) (behind_cons (fun _ => (HCA.out _ HC510.out)) (fun p hp => by cases hp))) ?restea26
          case hyea26 => (intro W' _; go_simp; try with_reducible rfl)
          try simp only [Act.put, List.setIfInBounds_toArray, List.set_cons_zero, List.set_cons_succ]
          refine wpAnyV_free (i := 25) (v := ?_) (by simp only [List.getElem?_toArray, List.getElem?_cons_zero, List.getElem?_cons_succ]; rfl) (by kernel_rfl) (by kernel_rfl) (by kernel_rfl) (by kernel_rfl) (by exact fun c a w h => HQP.out c a _ _ w h) (Or.inl ⟨by rfl, ?hyea27⟩) (behind_cons (fun _ => (HCB.out _ HC510.out)) (behind_cons (fun _ => (HCA.out _ HC510.out)) (fun p hp => by cases hp))) ?restea27
          case hyea27 => (intro W' _; go_simp; try with_reducible rfl)
          try simp only [Act.put, List.setIfInBounds_toArray, List.set_cons_zero, List.set_cons_succ]
          refine wpAnyV_free (i := 26) (v := ?_) (by simp only [List.getElem?_toArray, List.getElem?_cons_zero, List.getElem?_cons_succ]; rfl) (by kernel_rfl) (by kernel_rfl) (by kernel_rfl) (by kernel_rfl) (by exact fun c a w h => HQP.out c a _ _ w h) (Or.inl ⟨by rfl, ?hyea28⟩) (behind_cons (fun _ => (HCB.out _ HC510.out)) (behind_cons (fun _ => (HCA.out _ HC510.out)) (fun p hp => by cases hp))) ?restea28
          case hyea28 => (intro W' _; go_simp; try with_reducible rfl)
          try simp only [Act.put, List.setIfInBounds_toArray, List.set_cons_zero, List.set_cons_succ]
          refine wpAnyV_free (i := 27) (v := ?_) (by simp only [List.getElem?_toArray, List.getElem?_cons_zero, List.getElem?_cons_succ]; rfl) (by kernel_rfl) (by kernel_rfl) (by kernel_rfl) (by kernel_rfl) (by exact fun c a w h => HQP.out c a _ _ w h) (Or.inl ⟨by rfl, ?hyea29⟩) (behind_cons (fun _ => (HCB.out _ HC510.out)) (behind_cons (fun _ => (HCA.out _ HC510.out)) (fun p hp => by cases hp))) ?restea29
          case hyea29 => (intro W' _; go_simp; try with_reducible rfl)
          try simp only [Act.put, List.setIfInBounds_toArray, List.set_cons_zero, List.set_cons_succ]
          refine wpAnyV_free (i := 28) (v := ?_) (by simp only [List.getElem?_toArray, List.getElem?_cons_zero, List.getElem?_cons_succ]; rfl) (by kernel_rfl) (by kernel_rfl) (by kernel_rfl) (by kernel_rfl) (by exact fun c a w h => HQP.out c a _ _ w h) (Or.inl ⟨by rfl, ?hyea30⟩) (behind_cons (fun _ => (HCB.out _ HC510.out)) (behind_cons (fun _ => (HCA.out _ HC510.out)) (fun p hp => by cases hp))) ?restea30
          case hyea30 => (intro W' _; go_simp; try with_reducible rfl)
          try simp only [Act.put, List.setIfInBounds_toArray, List.set_cons_zero, List.set_cons_succ]
          refine wpAnyV_free (i := 29) (v := ?_) (by simp only [List.getElem?_toArray, List.getElem?_cons_zero, List.getElem?_cons_succ]; rfl) (by kernel_rfl) (by kernel_rfl) (by kernel_rfl) (by kernel_rfl) (by exact fun c a w h => HQP.out c a _ _ w h) (Or.inl ⟨by rfl, ?hyea31⟩) (behind_cons (fun _ => (HCB.out _ HC510.out)) (behind_cons (fun _ => (HCA.out _ HC510.out)) (fun p hp => by cases hp))) ?restea31
          case hyea31 => (intro W' _; go_simp; try with_reducible rfl)
          try simp only [Act.put, List.setIfInBounds_toArray, List.set_cons_zero, List.set_cons_succ]
          refine wpAnyV_free (i := 30) (v := undef) (by simp only [List.getElem?_toArray, List.getElem?_cons_zero, List.getElem?_cons_succ]; rfl) (by kernel_rfl) (by kernel_rfl) (by kernel_rfl) (by kernel_rfl) (by exact fun c a w h => HQP.out c a _ _ w h) (Or.inr ⟨by rfl, rfl⟩) (behind_cons (fun _ => (HCB.out _ HC510.out)) (behind_cons (fun _ => (HCA.out _ HC510.out)) (fun p hp => by cases hp))) ?_
          try simp only [Act.put, List.setIfInBounds_toArray, List.set_cons_zero, List.set_cons_succ]
          refine wpAnyV_free (i := 31) (v := undef) (by simp only [List.getElem?_toArray, List.getElem?_cons_zero, List.getElem?_cons_succ]; rfl) (by kernel_rfl) (by kernel_rfl) (by kernel_rfl) (by kernel_rfl) (by exact fun c a w h => HQP.out c a _ _ w h) (Or.inr ⟨by rfl, rfl⟩) (behind_cons (fun _ => (HCB.out _ HC510.out)) (behind_cons (fun _ => (HCA.out _ HC510.out)) (fun p hp => by cases hp))) ?_
          try simp only [Act.put, List.setIfInBounds_toArray, List.set_cons_zero, List.set_cons_succ]
          refine wpAnyV_free (i := 32) (v := undef) (by simp only [List.getElem?_toArray, List.getElem?_cons_zero, List.getElem?_cons_succ]; rfl) (by kernel_rfl) (by kernel_rfl) (by kernel_rfl) (by kernel_rfl) (by exact fun c a w h => HQP.out c a _ _ w h) (Or.inr ⟨by rfl, rfl⟩) (behind_cons (fun _ => (HCB.out _ HC510.out)) (behind_cons (fun _ => (HCA.out _ HC510.out)) (fun p hp => by cases hp))) ?_
          try simp only [Act.put, List.setIfInBounds_toArray, List.set_cons_zero, List.set_cons_succ]
          refine wpAnyV_free (i := 33) (v := ?_) (by simp only [List.getElem?_toArray, List.getElem?_cons_zero, List.getElem?_cons_succ]; rfl) (by kernel_rfl) (by kernel_rfl) (by kernel_rfl) (by kernel_rfl) (by exact fun c a w h => HQP.out c a _ _ w h) (Or.inl ⟨by rfl, ?hyea35⟩) (behind_cons (fun _ => (HCB.out _ HC510.out)) (behind_cons (fun _ => (HCA.out _ HC510.out)) (fun p hp => by cases hp))) ?restea35
          case hyea35 => (intro W' _; go_simp; try with_reducible rfl)
          try simp only [Act.put, List.setIfInBounds_toArray, List.set_cons_zero, List.set_cons_succ]
          refine wpAnyV_free (i := 34) (v := ?_) (by simp only [List.getElem?_toArray, List.getElem?_cons_zero, List.getElem?_cons_succ]; rfl) (by kernel_rfl) (by kernel_rfl) (by kernel_rfl) (by kernel_rfl) (by exact fun c a w h => HQP.out c a _ _ w h) (Or.inl ⟨by rfl, ?hyea36⟩) (behind_cons (fun _ => (HCB.out _ HC510.out)) (behind_cons (fun _ => (HCA.out _ HC510.out)) (fun p hp => by cases hp))) ?restea36
          case hyea36 => (intro W' _; go_simp; try with_reducible rfl)
          try simp only [Act.put, List.setIfInBounds_toArray, List.set_cons_zero, List.set_cons_succ]
          refine wpAnyV_free (i := 35) (v := ?_) (by simp only [List.getElem?_toArray, List.getElem?_cons_zero, List.getElem?_cons_succ]; rfl) (by kernel_rfl) (by kernel_rfl) (by kernel_rfl) (by kernel_rfl) (by exact fun c a w h => HQP.out c a _ _ w h) (Or.inl ⟨by rfl, ?hyea37⟩) (behind_cons (fun _ => (HCB.out _ HC510.out)) (behind_cons (fun _ => (HCA.out _ HC510.out)) (fun p hp => by cases hp))) ?restea37
          case hyea37 => (intro W' _; go_simp; try with_reducible rfl)
          try simp only [Act.put, List.setIfInBounds_toArray, List.set_cons_zero, List.set_cons_succ]
          refine wpAnyV_free (i := 36) (v := ?_) (by simp only [List.getElem?_toArray, List.getElem?_cons_zero, List.getElem?_cons_succ]; rfl) (by kernel_rfl) (by kernel_rfl) (by kernel_rfl) (by kernel_rfl) (by exact fun c a w h => HQP.out c a _ _ w h) (Or.inl ⟨by rfl, ?hyea38⟩) (behind_cons (fun _ => (HCB.out _ HC510.out)) (behind_cons (fun _ => (HCA.out _ HC510.out)) (fun p hp => by cases hp))) ?restea38
          case hyea38 => (intro W' _; go_simp; try with_reducible rfl)
          try simp only [Act.put, List.setIfInBounds_toArray, List.set_cons_zero, List.set_cons_succ]
          refine wpAnyV_free (i := 37) (v := ?_) (by simp only [List.getElem?_toArray, List.getElem?_cons_zero, List.getElem?_cons_succ]; rfl) (by kernel_rfl) (by kernel_rfl) (by kernel_rfl) (by kernel_rfl) (by exact fun c a w h => HQP.out c a _ _ w h) (Or.inl ⟨by rfl, ?hyea39⟩) (behind_cons (fun _ => (HCB.out _ HC510.out)) (behind_cons (fun _ => (HCA.out _ HC510.out)) (fun p hp => by cases hp))) ?restea39
          case hyea39 => (intro W' _; go_simp; try with_reducible rfl)
          try simp only [Act.put, List.setIfInBounds_toArray, List.set_cons_zero, List.set_cons_succ]
          refine wpAnyV_free (i := 38) (v := ?_) (by simp only [List.getElem?_toArray, List.getElem?_cons_zero, List.getElem?_cons_succ]; rfl) (by kernel_rfl) (by kernel_rfl) (by kernel_rfl) (by kernel_rfl) (by exact fun c a w h => HQP.out c a _ _ w h) (Or.inl ⟨by rfl, ?hyea40⟩) (behind_cons (fun _ => (HCB.out _ HC510.out)) (behind_cons (fun _ => (HCA.out _ HC510.out)) (fun p hp => by cases hp))) ?restea40
          case hyea40 => (intro W' _; go_simp; try with_reducible rfl)
          try simp only [Act.put, List.setIfInBounds_toArray, List.set_cons_zero, List.set_cons_succ]
          refine wpAnyV_free (i := 39) (v := undef) (by simp only [List.getElem?_toArray, List.getElem?_cons_zero, List.getElem?_cons_succ]; rfl) (by kernel_rfl) (by kernel_rfl) (by kernel_rfl) (by kernel_rfl) (by exact fun c a w h => HQP.out c a _ _ w h) (Or.inr ⟨by rfl, rfl⟩) (behind_cons (fun _ => (HCB.out _ HC510.out)) (behind_cons (fun _ => (HCA.out _ HC510.out)) (fun p hp => by cases hp))) ?_
          try simp only [Act.put, List.setIfInBounds_toArray, List.set_cons_zero, List.set_cons_succ]
          refine wpAnyV_free (i := 40) (v := undef) (by simp only [List.getElem?_toArray, List.getElem?_cons_zero, List.getElem?_cons_succ]; rfl) (by kernel_rfl) (by kernel_rfl) (by kernel_rfl) (by kernel_rfl) (by exact fun c a w h => HQP.out c a _ _ w h) (Or.inr ⟨by rfl, rfl⟩) (behind_cons (fun _ => (HCB.out _ HC510.out)) (behind_cons (fun _ => (HCA.out _ HC510.out)) (fun p hp => by cases hp))) ?_
          try simp only [Act.put, List.setIfInBounds_toArray, List.set_cons_zero, List.set_cons_succ]
          refine wpAnyV_free (i := 41) (v := undef) (by simp only [List.getElem?_toArray, List.getElem?_cons_zero, List.getElem?_cons_succ]; rfl) (by kernel_rfl) (by kernel_rfl) (by kernel_rfl) (by kernel_rfl) (by exact fun c a w h => HQP.out c a _ _ w h) (Or.inr ⟨by rfl, rfl⟩) (behind_cons (fun _ => (HCB.out _ HC510.out)) (behind_cons (fun _ => (HCA.out _ HC510.out)) (fun p hp => by cases hp))) ?_
          try simp only [Act.put, List.setIfInBounds_toArray, List.set_cons_zero, List.set_cons_succ]
          refine wpAnyV_free (i := 42) (v := ?_) (by simp only [List.getElem?_toArray, List.getElem?_cons_zero, List.getElem?_cons_succ]; rfl) (by kernel_rfl) (by kernel_rfl) (by kernel_rfl) (by kernel_rfl) (by exact fun c a w h => HQP.out c a _ _ w h) (Or.inl ⟨by rfl, ?hyea44⟩) (behind_cons (fun _ => (HCB.out _ HC510.out)) (behind_cons (fun _ => (HCA.out _ HC510.out)) (fun p hp => by cases hp))) ?restea44
          case hyea44 => (intro W' _; go_simp; try with_reducible rfl)
          try simp only [Act.put, List.setIfInBounds_toArray, List.set_cons_zero, List.set_cons_succ]
          refine wpAnyV_free (i := 43) (v := ?_) (by simp only [List.getElem?_toArray, List.getElem?_cons_zero, List.getElem?_cons_succ]; rfl) (by kernel_rfl) (by kernel_rfl) (by kernel_rfl) (by kernel_rfl) (by exact fun c a w h => HQP.out c a _ _ w h) (Or.inl ⟨by rfl, ?hyea45⟩) (behind_cons (fun _ => (HCB.out _ HC510.out)) (behind_cons (fun _ => (HCA.out _ HC510.out)) (fun p hp => by cases hp))) ?restea45
          case hyea45 => (intro W' _; go_simp; try with_reducible rfl)
          try simp only [Act.put, List.setIfInBounds_toArray, List.set_cons_zero, List.set_cons_succ]
          refine wpAnyV_done (by kernel_rfl) ?_ _
          have HS20 := HC510
          go_wp2_with fail
          go_roundg (gk - 1)
          case measure => omega
          case rel => exact ⟨k3 + 1, by go_num, by omega, HS20.out⟩
        · go_wp2_with fail
          refine wp_region_v [(fun j => j == 18 || j == 22 || j == 23 || j == 24 || j == 25 || j == 26 || j == 27 || j == 28 || j == 29 || j == 30 || j == 31 || j == 32 || j == 33 || j == 34 || j == 35 || j == 36 || j == 37 || j == 38 || j == 39 || j == 40 || j == 41 || j == 42 || j == 43, fun W => W.cell? ⟨gb, k3 * 2, none⟩ = some (.int .i64 p'.1) ∧ W.cell? ⟨gb, k3 * 2 + 1, none⟩ = some (.int .i64 p'.2)), (fun j => j == 22 || j == 23 || j == 24 || j == 25 || j == 26 || j == 27 || j == 28 || j == 29 || j == 30 || j == 31 || j == 32 || j == 33 || j == 34 || j == 35 || j == 36 || j == 37 || j == 38 || j == 39 || j == 40 || j == 41 || j == 42 || j == 43, fun W => W.cell? ⟨ga, k3 * 2, none⟩ = some (.int .i64 p.1) ∧ W.cell? ⟨ga, k3 * 2 + 1, none⟩ = some (.int .i64 p.2))] (by kernel_rfl) ?_
          refine wpAnyV_world (fun W => LG w w.heap.size w2.heap.size d ys fs (.slice Ae d.eras.length ce) (.slice An d.notes.length cn) (.slice (some ⟨gy, 0, none⟩) ys.length cy) (.slice Af fs.length cf) [⟨w6.heap.size, 28, [.int .i64 d.stones, .slice Ax d.eras.length cx, .slice (some ⟨g8, 0, none⟩) (d.notes.length + 1) c8]⟩] [⟨39, 2, .slice (some ⟨ga, 0, none⟩) d.stones ca, d.stones, flatS (spanList d 1 d.stones)⟩, ⟨39, 2, .slice (some ⟨gb, 0, none⟩) d.stones cb, d.stones, flatS (spanList x 1 d.stones)⟩, ⟨39, 2, .slice Ac d.eras.length cc, d.eras.length, flatS (spanList d 7 d.eras.length)⟩, ⟨39, 2, .slice Ay2 d.eras.length cy2, d.eras.length, flatS (spanList x 7 d.eras.length)⟩] [] [(.agg #[.int .i64 d.stones, .slice Ax d.eras.length cx, .slice (some ⟨g8, 0, none⟩) (d.notes.length + 1) c8], x)] W) HS19.out.drew (fun V hV => ?_)
          have HV := Lib.hid hV
          clear hV
          refine wpAnyV_free (i := 0) (v := ?_) (by simp only [List.getElem?_toArray, List.getElem?_cons_zero]; rfl) (by kernel_rfl) (by kernel_rfl) (by kernel_rfl) (by kernel_rfl) (by exact fun c a w h => HQP.out c a _ _ w h) (Or.inl ⟨by rfl, ?hyeb2⟩) (behind_cons (fun h => by simp at h) (behind_cons (fun h => by simp at h) (fun p hp => by cases hp))) ?resteb2
          case hyeb2 => (intro W' _; go_simp; try with_reducible rfl)
          try simp only [Act.put, List.setIfInBounds_toArray, List.set_cons_zero, List.set_cons_succ]
          refine wpAnyV_free (i := 1) (v := ?_) (by simp only [List.getElem?_toArray, List.getElem?_cons_zero, List.getElem?_cons_succ]; rfl) (by kernel_rfl) (by kernel_rfl) (by kernel_rfl) (by kernel_rfl) (by exact fun c a w h => HQP.out c a _ _ w h) (Or.inl ⟨by rfl, ?hyeb3⟩) (behind_cons (fun h => by simp at h) (behind_cons (fun h => by simp at h) (fun p hp => by cases hp))) ?resteb3
          case hyeb3 => (intro W' _; go_simp; try with_reducible rfl)
          try simp only [Act.put, List.setIfInBounds_toArray, List.set_cons_zero, List.set_cons_succ]
          refine wpAnyV_free (i := 2) (v := ?_) (by simp only [List.getElem?_toArray, List.getElem?_cons_zero, List.getElem?_cons_succ]; rfl) (by kernel_rfl) (by kernel_rfl) (by kernel_rfl) (by kernel_rfl) (by exact fun c a w h => HQP.out c a _ _ w h) (Or.inl ⟨by rfl, ?hyeb4⟩) (behind_cons (fun h => by simp at h) (behind_cons (fun h => by simp at h) (fun p hp => by cases hp))) ?resteb4
          case hyeb4 => (intro W' _; go_simp; try with_reducible rfl)
          try simp only [Act.put, List.setIfInBounds_toArray, List.set_cons_zero, List.set_cons_succ]
          refine wpAnyV_free (i := 3) (v := ?_) (by simp only [List.getElem?_toArray, List.getElem?_cons_zero, List.getElem?_cons_succ]; rfl) (by kernel_rfl) (by kernel_rfl) (by kernel_rfl) (by kernel_rfl) (by exact fun c a w h => HQP.out c a _ _ w h) (Or.inl ⟨by rfl, ?hyeb5⟩) (behind_cons (fun h => by simp at h) (behind_cons (fun h => by simp at h) (fun p hp => by cases hp))) ?resteb5
          case hyeb5 => (intro W' _; go_simp; try with_reducible rfl)
          try simp only [Act.put, List.setIfInBounds_toArray, List.set_cons_zero, List.set_cons_succ]
          refine wpAnyV_free (i := 4) (v := ?_) (by simp only [List.getElem?_toArray, List.getElem?_cons_zero, List.getElem?_cons_succ]; rfl) (by kernel_rfl) (by kernel_rfl) (by kernel_rfl) (by kernel_rfl) (by exact fun c a w h => HQP.out c a _ _ w h) (Or.inl ⟨by rfl, ?hyeb6⟩) (behind_cons (fun h => by simp at h) (behind_cons (fun h => by simp at h) (fun p hp => by cases hp))) ?resteb6
          case hyeb6 => (intro W' _; go_simp; try with_reducible rfl)
          try simp only [Act.put, List.setIfInBounds_toArray, List.set_cons_zero, List.set_cons_succ]
          refine wpAnyV_free (i := 5) (v := ?_) (by simp only [List.getElem?_toArray, List.getElem?_cons_zero, List.getElem?_cons_succ]; rfl) (by kernel_rfl) (by kernel_rfl) (by kernel_rfl) (by kernel_rfl) (by exact fun c a w h => HQP.out c a _ _ w h) (Or.inl ⟨by rfl, ?hyeb7⟩) (behind_cons (fun h => by simp at h) (behind_cons (fun h => by simp at h) (fun p hp => by cases hp))) ?resteb7
          case hyeb7 => (intro W' _; go_simp; try with_reducible rfl)
          try simp only [Act.put, List.setIfInBounds_toArray, List.set_cons_zero, List.set_cons_succ]
          refine wpAnyV_free (i := 6) (v := ?_) (by simp only [List.getElem?_toArray, List.getElem?_cons_zero, List.getElem?_cons_succ]; rfl) (by kernel_rfl) (by kernel_rfl) (by kernel_rfl) (by kernel_rfl) (by exact fun c a w h => HQP.out c a _ _ w h) (Or.inl ⟨by rfl, ?hyeb8⟩) (behind_cons (fun h => by simp at h) (behind_cons (fun h => by simp at h) (fun p hp => by cases hp))) ?resteb8
          case hyeb8 => (intro W' _; go_simp; try with_reducible rfl)
          try simp only [Act.put, List.setIfInBounds_toArray, List.set_cons_zero, List.set_cons_succ]
          refine wpAnyV_free (i := 7) (v := ?_) (by simp only [List.getElem?_toArray, List.getElem?_cons_zero, List.getElem?_cons_succ]; rfl) (by kernel_rfl) (by kernel_rfl) (by kernel_rfl) (by kernel_rfl) (by exact fun c a w h => HQP.out c a _ _ w h) (Or.inl ⟨by rfl, ?hyeb9⟩) (behind_cons (fun h => by simp at h) (behind_cons (fun h => by simp at h) (fun p hp => by cases hp))) ?resteb9
          case hyeb9 => (intro W' _; go_simp; try with_reducible rfl)
          try simp only [Act.put, List.setIfInBounds_toArray, List.set_cons_zero, List.set_cons_succ]
          refine wpAnyV_free (i := 8) (v := ?_) (by simp only [List.getElem?_toArray, List.getElem?_cons_zero, List.getElem?_cons_succ]; rfl) (by kernel_rfl) (by kernel_rfl) (by kernel_rfl) (by kernel_rfl) (by exact fun c a w h => HQP.out c a _ _ w h) (Or.inl ⟨by rfl, ?hyeb10⟩) (behind_cons (fun h => by simp at h) (behind_cons (fun h => by simp at h) (fun p hp => by cases hp))) ?resteb10
          case hyeb10 => (intro W' _; go_simp; try with_reducible rfl)
          try simp only [Act.put, List.setIfInBounds_toArray, List.set_cons_zero, List.set_cons_succ]
          refine wpAnyV_free (i := 9) (v := ?_) (by simp only [List.getElem?_toArray, List.getElem?_cons_zero, List.getElem?_cons_succ]; rfl) (by kernel_rfl) (by kernel_rfl) (by kernel_rfl) (by kernel_rfl) (by exact fun c a w h => HQP.out c a _ _ w h) (Or.inl ⟨by rfl, ?hyeb11⟩) (behind_cons (fun h => by simp at h) (behind_cons (fun h => by simp at h) (fun p hp => by cases hp))) ?resteb11
          case hyeb11 => (intro W' _; go_simp; try with_reducible rfl)
          try simp only [Act.put, List.setIfInBounds_toArray, List.set_cons_zero, List.set_cons_succ]
          refine wpAnyV_free (i := 10) (v := ?_) (by simp only [List.getElem?_toArray, List.getElem?_cons_zero, List.getElem?_cons_succ]; rfl) (by kernel_rfl) (by kernel_rfl) (by kernel_rfl) (by kernel_rfl) (by exact fun c a w h => HQP.out c a _ _ w h) (Or.inl ⟨by rfl, ?hyeb12⟩) (behind_cons (fun h => by simp at h) (behind_cons (fun h => by simp at h) (fun p hp => by cases hp))) ?resteb12
          case hyeb12 => (intro W' _; go_simp; try with_reducible rfl)
          try simp only [Act.put, List.setIfInBounds_toArray, List.set_cons_zero, List.set_cons_succ]
          refine wpAnyV_free (i := 11) (v := ?_) (by simp only [List.getElem?_toArray, List.getElem?_cons_zero, List.getElem?_cons_succ]; rfl) (by kernel_rfl) (by kernel_rfl) (by kernel_rfl) (by kernel_rfl) (by exact fun c a w h => HQP.out c a _ _ w h) (Or.inl ⟨by rfl, ?hyeb13⟩) (behind_cons (fun h => by simp at h) (behind_cons (fun h => by simp at h) (fun p hp => by cases hp))) ?resteb13
          case hyeb13 => (intro W' _; go_simp; try with_reducible rfl)
          try simp only [Act.put, List.setIfInBounds_toArray, List.set_cons_zero, List.set_cons_succ]
          refine wpAnyV_free (i := 12) (v := ?_) (by simp only [List.getElem?_toArray, List.getElem?_cons_zero, List.getElem?_cons_succ]; rfl) (by kernel_rfl) (by kernel_rfl) (by kernel_rfl) (by kernel_rfl) (by exact fun c a w h => HQP.out c a _ _ w h) (Or.inl ⟨by rfl, ?hyeb14⟩) (behind_cons (fun h => by simp at h) (behind_cons (fun h => by simp at h) (fun p hp => by cases hp))) ?resteb14
          case hyeb14 => (intro W' _; go_simp; try with_reducible rfl)
          try simp only [Act.put, List.setIfInBounds_toArray, List.set_cons_zero, List.set_cons_succ]
          refine wpAnyV_free (i := 13) (v := ?_) (by simp only [List.getElem?_toArray, List.getElem?_cons_zero, List.getElem?_cons_succ]; rfl) (by kernel_rfl) (by kernel_rfl) (by kernel_rfl) (by kernel_rfl) (by exact fun c a w h => HQP.out c a _ _ w h) (Or.inl ⟨by rfl, ?hyeb15⟩) (behind_cons (fun h => by simp at h) (behind_cons (fun h => by simp at h) (fun p hp => by cases hp))) ?resteb15
          case hyeb15 => (intro W' _; go_simp; try with_reducible rfl)
          try simp only [Act.put, List.setIfInBounds_toArray, List.set_cons_zero, List.set_cons_succ]
          refine wpAnyV_free (i := 14) (v := ?_) (by simp only [List.getElem?_toArray, List.getElem?_cons_zero, List.getElem?_cons_succ]; rfl) (by kernel_rfl) (by kernel_rfl) (by kernel_rfl) (by kernel_rfl) (by exact fun c a w h => HQP.out c a _ _ w h) (Or.inl ⟨by rfl, ?hyeb16⟩) (behind_cons (fun h => by simp at h) (behind_cons (fun h => by simp at h) (fun p hp => by cases hp))) ?resteb16
          case hyeb16 => (intro W' _; go_simp; try with_reducible rfl)
          try simp only [Act.put, List.setIfInBounds_toArray, List.set_cons_zero, List.set_cons_succ]
          refine wpAnyV_free (i := 15) (v := ?_) (by simp only [List.getElem?_toArray, List.getElem?_cons_zero, List.getElem?_cons_succ]; rfl) (by kernel_rfl) (by kernel_rfl) (by kernel_rfl) (by kernel_rfl) (by exact fun c a w h => HQP.out c a _ _ w h) (Or.inl ⟨by rfl, ?hyeb17⟩) (behind_cons (fun h => by simp at h) (behind_cons (fun h => by simp at h) (fun p hp => by cases hp))) ?resteb17
          case hyeb17 => (intro W' _; go_simp; try with_reducible rfl)
          try simp only [Act.put, List.setIfInBounds_toArray, List.set_cons_zero, List.set_cons_succ]
          refine wpAnyV_free (i := 16) (v := ?_) (by simp only [List.getElem?_toArray, List.getElem?_cons_zero, List.getElem?_cons_succ]; rfl) (by kernel_rfl) (by kernel_rfl) (by kernel_rfl) (by kernel_rfl) (by exact fun c a w h => HQP.out c a _ _ w h) (Or.inl ⟨by rfl, ?hyeb18⟩) (behind_cons (fun h => by simp at h) (behind_cons (fun h => by simp at h) (fun p hp => by cases hp))) ?resteb18
          case hyeb18 => (intro W' _; go_simp; try with_reducible rfl)
          try simp only [Act.put, List.setIfInBounds_toArray, List.set_cons_zero, List.set_cons_succ]
          refine wpAnyV_free (i := 17) (v := ?_) (by simp only [List.getElem?_toArray, List.getElem?_cons_zero, List.getElem?_cons_succ]; rfl) (by kernel_rfl) (by kernel_rfl) (by kernel_rfl) (by kernel_rfl) (by exact fun c a w h => HQP.out c a _ _ w h) (Or.inl ⟨by rfl, ?hyeb19⟩) (behind_cons (fun h => by simp at h) (behind_cons (fun h => by simp at h) (fun p hp => by cases hp))) ?resteb19
          case hyeb19 => (intro W' _; go_simp; try with_reducible rfl)
          try simp only [Act.put, List.setIfInBounds_toArray, List.set_cons_zero, List.set_cons_succ]
          refine wpAnyV_free (i := 19) (v := ?_) (by simp only [List.getElem?_toArray, List.getElem?_cons_zero, List.getElem?_cons_succ]; rfl) (by kernel_rfl) (by kernel_rfl) (by kernel_rfl) (by kernel_rfl) (by exact fun c a w h => HQP.out c a _ _ w h) (Or.inl ⟨by rfl, ?hyeb20⟩) (behind_cons (fun h => by simp at h) (behind_cons (fun h => by simp at h) (fun p hp => by cases hp))) ?resteb20
          case hyeb20 => (intro W' _; go_simp; try with_reducible rfl)
          try simp only [Act.put, List.setIfInBounds_toArray, List.set_cons_zero, List.set_cons_succ]
          refine wpAnyV_free (i := 20) (v := ?_) (by simp only [List.getElem?_toArray, List.getElem?_cons_zero, List.getElem?_cons_succ]; rfl) (by kernel_rfl) (by kernel_rfl) (by kernel_rfl) (by kernel_rfl) (by exact fun c a w h => HQP.out c a _ _ w h) (Or.inl ⟨by rfl, ?hyeb21⟩) (behind_cons (fun h => by simp at h) (behind_cons (fun h => by simp at h) (fun p hp => by cases hp))) ?resteb21
          case hyeb21 => (intro W' _; go_simp; try with_reducible rfl)
          try simp only [Act.put, List.setIfInBounds_toArray, List.set_cons_zero, List.set_cons_succ]
          refine wpAnyV_free (i := 21) (v := ?_) (by simp only [List.getElem?_toArray, List.getElem?_cons_zero, List.getElem?_cons_succ]; rfl) (by kernel_rfl) (by kernel_rfl) (by kernel_rfl) (by kernel_rfl) (by exact fun c a w h => HQP.out c a _ _ w h) (Or.inl ⟨by rfl, ?hyeb22⟩) (behind_cons (fun h => by simp at h) (behind_cons (fun h => by simp at h) (fun p hp => by cases hp))) ?resteb22
          case hyeb22 => (intro W' _; go_simp; try with_reducible rfl)
          try simp only [Act.put, List.setIfInBounds_toArray, List.set_cons_zero, List.set_cons_succ]
          refine wpAnyV_take (i := 18) (m := 0) (v := ?_) (by simp only [List.getElem?_toArray, List.getElem?_cons_zero, List.getElem?_cons_succ]; rfl) (by rfl) (by kernel_rfl) (by kernel_rfl) (by kernel_rfl) (by kernel_rfl) (by exact fun c a w h => HQP.out c a _ _ w h) (Or.inl ⟨by rfl, ?hyeb23⟩) ((HCB.out _ HV.out)) (behind_cons (fun _ => (HCB.out _ HV.out)) (behind_cons (fun h => by simp at h) (fun p hp => by cases hp))) ?resteb23
          case hyeb23 => (intro W' hSW; go_simp; try with_reducible rfl)
          try simp only [Act.put, List.setIfInBounds_toArray, List.set_cons_zero, List.set_cons_succ]
          refine wpAnyV_take (i := 22) (m := 1) (v := ?_) (by simp only [List.getElem?_toArray, List.getElem?_cons_zero, List.getElem?_cons_succ]; rfl) (by rfl) (by kernel_rfl) (by kernel_rfl) (by kernel_rfl) (by kernel_rfl) (by exact fun c a w h => HQP.out c a _ _ w h) (Or.inl ⟨by rfl, ?hyeb24⟩) ((HCA.out _ HV.out)) (behind_cons (fun _ => (HCB.out _ HV.out)) (behind_cons (fun _ => (HCA.out _ HV.out)) (fun p hp => by cases hp))) ?resteb24
          case hyeb24 => (intro W' hSW; go_simp; try with_reducible rfl)
          try simp only [Act.put, List.setIfInBounds_toArray, List.set_cons_zero, List.set_cons_succ]
          refine wpAnyV_ready (rs := [23]) (by kernel_rfl) (by simp) ?_
          refine AllReadyV.cons (by simp only [List.getElem?_toArray, List.getElem?_cons_zero, List.getElem?_cons_succ]; rfl) (fun K hK => ?_) AllReadyV.nil
          go_simp
          go_at_call 24
          (with_reducible refine (HWI.out _).mono ?_)
          rintro e w511 ⟨rfl, hb⟩
          have HC511 := Lib.hid (HV.out.to hb)
          clear hb
          refine hK.out _ _ (behind_cons (fun _ => (HCB.out _ HC511.out)) (behind_cons (fun _ => (HCA.out _ HC511.out)) (fun p hp => by cases hp))) ?_
          clear hK K
          try simp only [Act.put, List.setIfInBounds_toArray, List.set_cons_zero, List.set_cons_succ]
          refine wpAnyV_free (i := 24) (v := ?_) (by simp only [List.getElem?_toArray, List.getElem?_cons_zero, List.getElem?_cons_succ]; rfl) (by kernel_rfl) (by kernel_rfl) (by kernel_rfl) (by kernel_rfl) (by exact fun c a w h => HQP.out c a _ _ w h) (Or.inl ⟨by rfl, ?hyeb26⟩) (behind_cons (fun _ => (HCB.out _ HC511.out)) (behind_cons (fun _ => (HCA.out _ HC511.out)) (fun p hp => by cases hp))) ?resteb26
          case hyeb26 => (intro W' _; go_simp; try with_reducible rfl)
          try simp only [Act.put, List.setIfInBounds_toArray, List.set_cons_zero, List.set_cons_succ]
          refine wpAnyV_free (i := 25) (v := ?_) (by simp only [List.getElem?_toArray, List.getElem?_cons_zero, List.getElem?_cons_succ]; rfl) (by kernel_rfl) (by kernel_rfl) (by kernel_rfl) (by kernel_rfl) (by exact fun c a w h => HQP.out c a _ _ w h) (Or.inl ⟨by rfl, ?hyeb27⟩) (behind_cons (fun _ => (HCB.out _ HC511.out)) (behind_cons (fun _ => (HCA.out _ HC511.out)) (fun p hp => by cases hp))) ?resteb27
          case hyeb27 => (intro W' _; go_simp; try with_reducible rfl)
          try simp only [Act.put, List.setIfInBounds_toArray, List.set_cons_zero, List.set_cons_succ]
          refine wpAnyV_free (i := 26) (v := ?_) (by simp only [List.getElem?_toArray, List.getElem?_cons_zero, List.getElem?_cons_succ]; rfl) (by kernel_rfl) (by kernel_rfl) (by kernel_rfl) (by kernel_rfl) (by exact fun c a w h => HQP.out c a _ _ w h) (Or.inl ⟨by rfl, ?hyeb28⟩) (behind_cons (fun _ => (HCB.out _ HC511.out)) (behind_cons (fun _ => (HCA.out _ HC511.out)) (fun p hp => by cases hp))) ?resteb28
          case hyeb28 => (intro W' _; go_simp; try with_reducible rfl)
          try simp only [Act.put, List.setIfInBounds_toArray, List.set_cons_zero, List.set_cons_succ]
          refine wpAnyV_free (i := 27) (v := ?_) (by simp only [List.getElem?_toArray, List.getElem?_cons_zero, List.getElem?_cons_succ]; rfl) (by kernel_rfl) (by kernel_rfl) (by kernel_rfl) (by kernel_rfl) (by exact fun c a w h => HQP.out c a _ _ w h) (Or.inl ⟨by rfl, ?hyeb29⟩) (behind_cons (fun _ => (HCB.out _ HC511.out)) (behind_cons (fun _ => (HCA.out _ HC511.out)) (fun p hp => by cases hp))) ?resteb29
          case hyeb29 => (intro W' _; go_simp; try with_reducible rfl)
          try simp only [Act.put, List.setIfInBounds_toArray, List.set_cons_zero, List.set_cons_succ]
          refine wpAnyV_free (i := 28) (v := ?_) (by simp only [List.getElem?_toArray, List.getElem?_cons_zero, List.getElem?_cons_succ]; rfl) (by kernel_rfl) (by kernel_rfl) (by kernel_rfl) (by kernel_rfl) (by exact fun c a w h => HQP.out c a _ _ w h) (Or.inl ⟨by rfl, ?hyeb30⟩) (behind_cons (fun _ => (HCB.out _ HC511.out)) (behind_cons (fun _ => (HCA.out _ HC511.out)) (fun p hp => by cases hp))) ?resteb30
          case hyeb30 => (intro W' _; go_simp; try with_reducible rfl)
          try simp only [Act.put, List.setIfInBounds_toArray, List.set_cons_zero, List.set_cons_succ]
          refine wpAnyV_free (i := 29) (v := ?_) (by simp only [List.getElem?_toArray, List.getElem?_cons_zero, List.getElem?_cons_succ]; rfl) (by kernel_rfl) (by kernel_rfl) (by kernel_rfl) (by kernel_rfl) (by exact fun c a w h => HQP.out c a _ _ w h) (Or.inl ⟨by rfl, ?hyeb31⟩) (behind_cons (fun _ => (HCB.out _ HC511.out)) (behind_cons (fun _ => (HCA.out _ HC511.out)) (fun p hp => by cases hp))) ?resteb31
          case hyeb31 => (intro W' _; go_simp; try with_reducible rfl)
          try simp only [Act.put, List.setIfInBounds_toArray, List.set_cons_zero, List.set_cons_succ]
          refine wpAnyV_free (i := 30) (v := undef) (by simp only [List.getElem?_toArray, List.getElem?_cons_zero, List.getElem?_cons_succ]; rfl) (by kernel_rfl) (by kernel_rfl) (by kernel_rfl) (by kernel_rfl) (by exact fun c a w h => HQP.out c a _ _ w h) (Or.inr ⟨by rfl, rfl⟩) (behind_cons (fun _ => (HCB.out _ HC511.out)) (behind_cons (fun _ => (HCA.out _ HC511.out)) (fun p hp => by cases hp))) ?_
          try simp only [Act.put, List.setIfInBounds_toArray, List.set_cons_zero, List.set_cons_succ]
          refine wpAnyV_free (i := 31) (v := undef) (by simp only [List.getElem?_toArray, List.getElem?_cons_zero, List.getElem?_cons_succ]; rfl) (by kernel_rfl) (by kernel_rfl) (by kernel_rfl) (by kernel_rfl) (by exact fun c a w h => HQP.out c a _ _ w h) (Or.inr ⟨by rfl, rfl⟩) (behind_cons (fun _ => (HCB.out _ HC511.out)) (behind_cons (fun _ => (HCA.out _ HC511.out)) (fun p hp => by cases hp))) ?_
          try simp only [Act.put, List.setIfInBounds_toArray, List.set_cons_zero, List.set_cons_succ]
          refine wpAnyV_free (i := 32) (v := undef) (by simp only [List.getElem?_toArray, List.getElem?_cons_zero, List.getElem?_cons_succ]; rfl) (by kernel_rfl) (by kernel_rfl) (by kernel_rfl) (by kernel_rfl) (by exact fun c a w h => HQP.out c a _ _ w h) (Or.inr ⟨by rfl, rfl⟩) (behind_cons (fun _ => (HCB.out _ HC511.out)) (behind_cons (fun _ => (HCA.out _ HC511.out)) (fun p hp => by cases hp))) ?_
          try simp only [Act.put, List.setIfInBounds_toArray, List.set_cons_zero, List.set_cons_succ]
          refine wpAnyV_free (i := 33) (v := ?_) (by simp only [List.getElem?_toArray, List.getElem?_cons_zero, List.getElem?_cons_succ]; rfl) (by kernel_rfl) (by kernel_rfl) (by kernel_rfl) (by kernel_rfl) (by exact fun c a w h => HQP.out c a _ _ w h) (Or.inl ⟨by rfl, ?hyeb35⟩) (behind_cons (fun _ => (HCB.out _ HC511.out)) (behind_cons (fun _ => (HCA.out _ HC511.out)) (fun p hp => by cases hp))) ?resteb35
          case hyeb35 => (intro W' _; go_simp; try with_reducible rfl)
          try simp only [Act.put, List.setIfInBounds_toArray, List.set_cons_zero, List.set_cons_succ]
          refine wpAnyV_free (i := 34) (v := ?_) (by simp only [List.getElem?_toArray, List.getElem?_cons_zero, List.getElem?_cons_succ]; rfl) (by kernel_rfl) (by kernel_rfl) (by kernel_rfl) (by kernel_rfl) (by exact fun c a w h => HQP.out c a _ _ w h) (Or.inl ⟨by rfl, ?hyeb36⟩) (behind_cons (fun _ => (HCB.out _ HC511.out)) (behind_cons (fun _ => (HCA.out _ HC511.out)) (fun p hp => by cases hp))) ?resteb36
          case hyeb36 => (intro W' _; go_simp; try with_reducible rfl)
          try simp only [Act.put, List.setIfInBounds_toArray, List.set_cons_zero, List.set_cons_succ]
          refine wpAnyV_free (i := 35) (v := ?_) (by simp only [List.getElem?_toArray, List.getElem?_cons_zero, List.getElem?_cons_succ]; rfl) (by kernel_rfl) (by kernel_rfl) (by kernel_rfl) (by kernel_rfl) (by exact fun c a w h => HQP.out c a _ _ w h) (Or.inl ⟨by rfl, ?hyeb37⟩) (behind_cons (fun _ => (HCB.out _ HC511.out)) (behind_cons (fun _ => (HCA.out _ HC511.out)) (fun p hp => by cases hp))) ?resteb37
          case hyeb37 => (intro W' _; go_simp; try with_reducible rfl)
          try simp only [Act.put, List.setIfInBounds_toArray, List.set_cons_zero, List.set_cons_succ]
          refine wpAnyV_free (i := 36) (v := ?_) (by simp only [List.getElem?_toArray, List.getElem?_cons_zero, List.getElem?_cons_succ]; rfl) (by kernel_rfl) (by kernel_rfl) (by kernel_rfl) (by kernel_rfl) (by exact fun c a w h => HQP.out c a _ _ w h) (Or.inl ⟨by rfl, ?hyeb38⟩) (behind_cons (fun _ => (HCB.out _ HC511.out)) (behind_cons (fun _ => (HCA.out _ HC511.out)) (fun p hp => by cases hp))) ?resteb38
          case hyeb38 => (intro W' _; go_simp; try with_reducible rfl)
          try simp only [Act.put, List.setIfInBounds_toArray, List.set_cons_zero, List.set_cons_succ]
          refine wpAnyV_free (i := 37) (v := ?_) (by simp only [List.getElem?_toArray, List.getElem?_cons_zero, List.getElem?_cons_succ]; rfl) (by kernel_rfl) (by kernel_rfl) (by kernel_rfl) (by kernel_rfl) (by exact fun c a w h => HQP.out c a _ _ w h) (Or.inl ⟨by rfl, ?hyeb39⟩) (behind_cons (fun _ => (HCB.out _ HC511.out)) (behind_cons (fun _ => (HCA.out _ HC511.out)) (fun p hp => by cases hp))) ?resteb39
          case hyeb39 => (intro W' _; go_simp; try with_reducible rfl)
          try simp only [Act.put, List.setIfInBounds_toArray, List.set_cons_zero, List.set_cons_succ]
          refine wpAnyV_free (i := 38) (v := ?_) (by simp only [List.getElem?_toArray, List.getElem?_cons_zero, List.getElem?_cons_succ]; rfl) (by kernel_rfl) (by kernel_rfl) (by kernel_rfl) (by kernel_rfl) (by exact fun c a w h => HQP.out c a _ _ w h) (Or.inl ⟨by rfl, ?hyeb40⟩) (behind_cons (fun _ => (HCB.out _ HC511.out)) (behind_cons (fun _ => (HCA.out _ HC511.out)) (fun p hp => by cases hp))) ?resteb40
          case hyeb40 => (intro W' _; go_simp; try with_reducible rfl)
          try simp only [Act.put, List.setIfInBounds_toArray, List.set_cons_zero, List.set_cons_succ]
          refine wpAnyV_free (i := 39) (v := ?_) (by simp only [List.getElem?_toArray, List.getElem?_cons_zero, List.getElem?_cons_succ]; rfl) (by kernel_rfl) (by kernel_rfl) (by kernel_rfl) (by kernel_rfl) (by exact fun c a w h => HQP.out c a _ _ w h) (Or.inl ⟨by rfl, ?hyeb41⟩) (behind_cons (fun _ => (HCB.out _ HC511.out)) (behind_cons (fun _ => (HCA.out _ HC511.out)) (fun p hp => by cases hp))) ?resteb41
          case hyeb41 => (intro W' _; go_simp; try with_reducible rfl)
          try simp only [Act.put, List.setIfInBounds_toArray, List.set_cons_zero, List.set_cons_succ]
          refine wpAnyV_free (i := 40) (v := ?_) (by simp only [List.getElem?_toArray, List.getElem?_cons_zero, List.getElem?_cons_succ]; rfl) (by kernel_rfl) (by kernel_rfl) (by kernel_rfl) (by kernel_rfl) (by exact fun c a w h => HQP.out c a _ _ w h) (Or.inl ⟨by rfl, ?hyeb42⟩) (behind_cons (fun _ => (HCB.out _ HC511.out)) (behind_cons (fun _ => (HCA.out _ HC511.out)) (fun p hp => by cases hp))) ?resteb42
          case hyeb42 => (intro W' _; go_simp; try with_reducible rfl)
          try simp only [Act.put, List.setIfInBounds_toArray, List.set_cons_zero, List.set_cons_succ]
          refine wpAnyV_free (i := 41) (v := ?_) (by simp only [List.getElem?_toArray, List.getElem?_cons_zero, List.getElem?_cons_succ]; rfl) (by kernel_rfl) (by kernel_rfl) (by kernel_rfl) (by kernel_rfl) (by exact fun c a w h => HQP.out c a _ _ w h) (Or.inl ⟨by rfl, ?hyeb43⟩) (behind_cons (fun _ => (HCB.out _ HC511.out)) (behind_cons (fun _ => (HCA.out _ HC511.out)) (fun p hp => by cases hp))) ?resteb43
          case hyeb43 => (intro W' _; go_simp; try with_reducible rfl)
          try simp only [Act.put, List.setIfInBounds_toArray, List.set_cons_zero, List.set_cons_succ]
          refine wpAnyV_free (i := 42) (v := ?_) (by simp only [List.getElem?_toArray, List.getElem?_cons_zero, List.getElem?_cons_succ]; rfl) (by kernel_rfl) (by kernel_rfl) (by kernel_rfl) (by kernel_rfl) (by exact fun c a w h => HQP.out c a _ _ w h) (Or.inl ⟨by rfl, ?hyeb44⟩) (behind_cons (fun _ => (HCB.out _ HC511.out)) (behind_cons (fun _ => (HCA.out _ HC511.out)) (fun p hp => by cases hp))) ?resteb44
          case hyeb44 => (intro W' _; go_simp; try with_reducible rfl)
          try simp only [Act.put, List.setIfInBounds_toArray, List.set_cons_zero, List.set_cons_succ]
          refine wpAnyV_free (i := 43) (v := ?_) (by simp only [List.getElem?_toArray, List.getElem?_cons_zero, List.getElem?_cons_succ]; rfl) (by kernel_rfl) (by kernel_rfl) (by kernel_rfl) (by kernel_rfl) (by exact fun c a w h => HQP.out c a _ _ w h) (Or.inl ⟨by rfl, ?hyeb45⟩) (behind_cons (fun _ => (HCB.out _ HC511.out)) (behind_cons (fun _ => (HCA.out _ HC511.out)) (fun p hp => by cases hp))) ?resteb45
          case hyeb45 => (intro W' _; go_simp; try with_reducible rfl)
          try simp only [Act.put, List.setIfInBounds_toArray, List.set_cons_zero, List.set_cons_succ]
          refine wpAnyV_done (by kernel_rfl) ?_ _
          have HS20 := HC511
          go_wp2_with fail
          go_roundg (gk - 1)
          case measure => omega
          case rel => exact ⟨k3 + 1, by go_num, by omega, HS20.out⟩
      · rcases hvl' with rfl | ⟨hr3, hr3', rfl⟩
        · go_wp2_with fail
          refine wp_region_v [(fun j => j == 18 || j == 22 || j == 23 || j == 24 || j == 25 || j == 26 || j == 27 || j == 28 || j == 29 || j == 30 || j == 31 || j == 32 || j == 33 || j == 34 || j == 35 || j == 36 || j == 37 || j == 38 || j == 39 || j == 40 || j == 41 || j == 42 || j == 43, fun W => W.cell? ⟨gb, k3 * 2, none⟩ = some (.int .i64 p'.1) ∧ W.cell? ⟨gb, k3 * 2 + 1, none⟩ = some (.int .i64 p'.2)), (fun j => j == 22 || j == 23 || j == 24 || j == 25 || j == 26 || j == 27 || j == 28 || j == 29 || j == 30 || j == 31 || j == 32 || j == 33 || j == 34 || j == 35 || j == 36 || j == 37 || j == 38 || j == 39 || j == 40 || j == 41 || j == 42 || j == 43, fun W => W.cell? ⟨ga, k3 * 2, none⟩ = some (.int .i64 p.1) ∧ W.cell? ⟨ga, k3 * 2 + 1, none⟩ = some (.int .i64 p.2))] (by kernel_rfl) ?_
          refine wpAnyV_world (fun W => LG w w.heap.size w2.heap.size d ys fs (.slice Ae d.eras.length ce) (.slice An d.notes.length cn) (.slice (some ⟨gy, 0, none⟩) ys.length cy) (.slice Af fs.length cf) [⟨w6.heap.size, 28, [.int .i64 d.stones, .slice Ax d.eras.length cx, .slice (some ⟨g8, 0, none⟩) (d.notes.length + 1) c8]⟩] [⟨39, 2, .slice (some ⟨ga, 0, none⟩) d.stones ca, d.stones, flatS (spanList d 1 d.stones)⟩, ⟨39, 2, .slice (some ⟨gb, 0, none⟩) d.stones cb, d.stones, flatS (spanList x 1 d.stones)⟩, ⟨39, 2, .slice Ac d.eras.length cc, d.eras.length, flatS (spanList d 7 d.eras.length)⟩, ⟨39, 2, .slice Ay2 d.eras.length cy2, d.eras.length, flatS (spanList x 7 d.eras.length)⟩] [] [(.agg #[.int .i64 d.stones, .slice Ax d.eras.length cx, .slice (some ⟨g8, 0, none⟩) (d.notes.length + 1) c8], x)] W) HS19.out.drew (fun V hV => ?_)
          have HV := Lib.hid hV
          clear hV
          refine wpAnyV_free (i := 0) (v := ?_) (by simp only [List.getElem?_toArray, List.getElem?_cons_zero]; rfl) (by kernel_rfl) (by kernel_rfl) (by kernel_rfl) (by kernel_rfl) (by exact fun c a w h => HQP.out c a _ _ w h) (Or.inl ⟨by rfl, ?hyec2⟩) (behind_cons (fun h => by simp at h) (behind_cons (fun h => by simp at h) (fun p hp => by cases hp))) ?restec2
          case hyec2 => (intro W' _; go_simp; try with_reducible rfl)
          try simp only [Act.put, List.setIfInBounds_toArray, List.set_cons_zero, List.set_cons_succ]
          refine wpAnyV_free (i := 1) (v := ?_) (by simp only [List.getElem?_toArray, List.getElem?_cons_zero, List.getElem?_cons_succ]; rfl) (by kernel_rfl) (by kernel_rfl) (by kernel_rfl) (by kernel_rfl) (by exact fun c a w h => HQP.out c a _ _ w h) (Or.inl ⟨by rfl, ?hyec3⟩) (behind_cons (fun h => by simp at h) (behind_cons (fun h => by simp at h) (fun p hp => by cases hp))) ?restec3
          case hyec3 => (intro W' _; go_simp; try with_reducible rfl)
          try simp only [Act.put, List.setIfInBounds_toArray, List.set_cons_zero, List.set_cons_succ]
          refine wpAnyV_free (i := 2) (v := ?_) (by simp only [List.getElem?_toArray, List.getElem?_cons_zero, List.getElem?_cons_succ]; rfl) (by kernel_rfl) (by kernel_rfl) (by kernel_rfl) (by kernel_rfl) (by exact fun c a w h => HQP.out c a _ _ w h) (Or.inl ⟨by rfl, ?hyec4⟩) (behind_cons (fun h => by simp at h) (behind_cons (fun h => by simp at h) (fun p hp => by cases hp))) ?restec4
          case hyec4 => (intro W' _; go_simp; try with_reducible rfl)
          try simp only [Act.put, List.setIfInBounds_toArray, List.set_cons_zero, List.set_cons_succ]
          refine wpAnyV_free (i := 3) (v := ?_) (by simp only [List.getElem?_toArray, List.getElem?_cons_zero, List.getElem?_cons_succ]; rfl) (by kernel_rfl) (by kernel_rfl) (by kernel_rfl) (by kernel_rfl) (by exact fun c a w h => HQP.out c a _ _ w h) (Or.inl ⟨by rfl, ?hyec5⟩) (behind_cons (fun h => by simp at h) (behind_cons (fun h => by simp at h) (fun p hp => by cases hp))) ?restec5
          case hyec5 => (intro W' _; go_simp; try with_reducible rfl)
          try simp only [Act.put, List.setIfInBounds_toArray, List.set_cons_zero, List.set_cons_succ]
          refine wpAnyV_free (i := 4) (v := ?_) (by simp only [List.getElem?_toArray, List.getElem?_cons_zero, List.getElem?_cons_succ]; rfl) (by kernel_rfl) (by kernel_rfl) (by kernel_rfl) (by kernel_rfl) (by exact fun c a w h => HQP.out c a _ _ w h) (Or.inl ⟨by rfl, ?hyec6⟩) (behind_cons (fun h => by simp at h) (behind_cons (fun h => by simp at h) (fun p hp => by cases hp))) ?restec6
          case hyec6 => (intro W' _; go_simp; try with_reducible rfl)
          try simp only [Act.put, List.setIfInBounds_toArray, List.set_cons_zero, List.set_cons_succ]
          refine wpAnyV_free (i := 5) (v := ?_) (by simp only [List.getElem?_toArray, List.getElem?_cons_zero, List.getElem?_cons_succ]; rfl) (by kernel_rfl) (by kernel_rfl) (by kernel_rfl) (by kernel_rfl) (by exact fun c a w h => HQP.out c a _ _ w h) (Or.inl ⟨by rfl, ?hyec7⟩) (behind_cons (fun h => by simp at h) (behind_cons (fun h => by simp at h) (fun p hp => by cases hp))) ?restec7
          case hyec7 => (intro W' _; go_simp; try with_reducible rfl)
          try simp only [Act.put, List.setIfInBounds_toArray, List.set_cons_zero, List.set_cons_succ]
          refine wpAnyV_free (i := 6) (v := ?_) (by simp only [List.getElem?_toArray, List.getElem?_cons_zero, List.getElem?_cons_succ]; rfl) (by kernel_rfl) (by kernel_rfl) (by kernel_rfl) (by kernel_rfl) (by exact fun c a w h => HQP.out c a _ _ w h) (Or.inl ⟨by rfl, ?hyec8⟩) (behind_cons (fun h => by simp at h) (behind_cons (fun h => by simp at h) (fun p hp => by cases hp))) ?restec8
          case hyec8 => (intro W' _; go_simp; try with_reducible rfl)
          try simp only [Act.put, List.setIfInBounds_toArray, List.set_cons_zero, List.set_cons_succ]
          refine wpAnyV_free (i := 7) (v := ?_) (by simp only [List.getElem?_toArray, List.getElem?_cons_zero, List.getElem?_cons_succ]; rfl) (by kernel_rfl) (by kernel_rfl) (by kernel_rfl) (by kernel_rfl) (by exact fun c a w h => HQP.out c a _ _ w h) (Or.inl ⟨by rfl, ?hyec9⟩) (behind_cons (fun h => by simp at h) (behind_cons (fun h => by simp at h) (fun p hp => by cases hp))) ?restec9
          case hyec9 => (intro W' _; go_simp; try with_reducible rfl)
          try simp only [Act.put, List.setIfInBounds_toArray, List.set_cons_zero, List.set_cons_succ]
          refine wpAnyV_free (i := 8) (v := ?_) (by simp only [List.getElem?_toArray, List.getElem?_cons_zero, List.getElem?_cons_succ]; rfl) (by kernel_rfl) (by kernel_rfl) (by kernel_rfl) (by kernel_rfl) (by exact fun c a w h => HQP.out c a _ _ w h) (Or.inl ⟨by rfl, ?hyec10⟩) (behind_cons (fun h => by simp at h) (behind_cons (fun h => by simp at h) (fun p hp => by cases hp))) ?restec10
          case hyec10 => (intro W' _; go_simp; try with_reducible rfl)
          try simp only [Act.put, List.setIfInBounds_toArray, List.set_cons_zero, List.set_cons_succ]
          refine wpAnyV_free (i := 9) (v := ?_) (by simp only [List.getElem?_toArray, List.getElem?_cons_zero, List.getElem?_cons_succ]; rfl) (by kernel_rfl) (by kernel_rfl) (by kernel_rfl) (by kernel_rfl) (by exact fun c a w h => HQP.out c a _ _ w h) (Or.inl ⟨by rfl, ?hyec11⟩) (behind_cons (fun h => by simp at h) (behind_cons (fun h => by simp at h) (fun p hp => by cases hp))) ?restec11
          case hyec11 => (intro W' _; go_simp; try with_reducible rfl)
          try simp only [Act.put, List.setIfInBounds_toArray, List.set_cons_zero, List.set_cons_succ]
          refine wpAnyV_free (i := 10) (v := ?_) (by simp only [List.getElem?_toArray, List.getElem?_cons_zero, List.getElem?_cons_succ]; rfl) (by kernel_rfl) (by kernel_rfl) (by kernel_rfl) (by kernel_rfl) (by exact fun c a w h => HQP.out c a _ _ w h) (Or.inl ⟨by rfl, ?hyec12⟩) (behind_cons (fun h => by simp at h) (behind_cons (fun h => by simp at h) (fun p hp => by cases hp))) ?restec12
          case hyec12 => (intro W' _; go_simp; try with_reducible rfl)
          try simp only [Act.put, List.setIfInBounds_toArray, List.set_cons_zero, List.set_cons_succ]
          refine wpAnyV_free (i := 11) (v := ?_) (by simp only [List.getElem?_toArray, List.getElem?_cons_zero, List.getElem?_cons_succ]; rfl) (by kernel_rfl) (by kernel_rfl) (by kernel_rfl) (by kernel_rfl) (by exact fun c a w h => HQP.out c a _ _ w h) (Or.inl ⟨by rfl, ?hyec13⟩) (behind_cons (fun h => by simp at h) (behind_cons (fun h => by simp at h) (fun p hp => by cases hp))) ?restec13
          case hyec13 => (intro W' _; go_simp; try with_reducible rfl)
          try simp only [Act.put, List.setIfInBounds_toArray, List.set_cons_zero, List.set_cons_succ]
          refine wpAnyV_free (i := 12) (v := ?_) (by simp only [List.getElem?_toArray, List.getElem?_cons_zero, List.getElem?_cons_succ]; rfl) (by kernel_rfl) (by kernel_rfl) (by kernel_rfl) (by kernel_rfl) (by exact fun c a w h => HQP.out c a _ _ w h) (Or.inl ⟨by rfl, ?hyec14⟩) (behind_cons (fun h => by simp at h) (behind_cons (fun h => by simp at h) (fun p hp => by cases hp))) ?restec14
          case hyec14 => (intro W' _; go_simp; try with_reducible rfl)
          try simp only [Act.put, List.setIfInBounds_toArray, List.set_cons_zero, List.set_cons_succ]
          refine wpAnyV_free (i := 13) (v := ?_) (by simp only [List.getElem?_toArray, List.getElem?_cons_zero, List.getElem?_cons_succ]; rfl) (by kernel_rfl) (by kernel_rfl) (by kernel_rfl) (by kernel_rfl) (by exact fun c a w h => HQP.out c a _ _ w h) (Or.inl ⟨by rfl, ?hyec15⟩) (behind_cons (fun h => by simp at h) (behind_cons (fun h => by simp at h) (fun p hp => by cases hp))) ?restec15
          case hyec15 => (intro W' _; go_simp; try with_reducible rfl)
          try simp only [Act.put, List.setIfInBounds_toArray, List.set_cons_zero, List.set_cons_succ]
          refine wpAnyV_free (i := 14) (v := ?_) (by simp only [List.getElem?_toArray, List.getElem?_cons_zero, List.getElem?_cons_succ]; rfl) (by kernel_rfl) (by kernel_rfl) (by kernel_rfl) (by kernel_rfl) (by exact fun c a w h => HQP.out c a _ _ w h) (Or.inl ⟨by rfl, ?hyec16⟩) (behind_cons (fun h => by simp at h) (behind_cons (fun h => by simp at h) (fun p hp => by cases hp))) ?restec16
          case hyec16 => (intro W' _; go_simp; try with_reducible rfl)
          try simp only [Act.put, List.setIfInBounds_toArray, List.set_cons_zero, List.set_cons_succ]
          refine wpAnyV_free (i := 15) (v := ?_) (by simp only [List.getElem?_toArray, List.getElem?_cons_zero, List.getElem?_cons_succ]; rfl) (by kernel_rfl) (by kernel_rfl) (by kernel_rfl) (by kernel_rfl) (by exact fun c a w h => HQP.out c a _ _ w h) (Or.inl ⟨by rfl, ?hyec17⟩) (behind_cons (fun h => by simp at h) (behind_cons (fun h => by simp at h) (fun p hp => by cases hp))) ?restec17
          case hyec17 => (intro W' _; go_simp; try with_reducible rfl)
          try simp only [Act.put, List.setIfInBounds_toArray, List.set_cons_zero, List.set_cons_succ]
          refine wpAnyV_free (i := 16) (v := ?_) (by simp only [List.getElem?_toArray, List.getElem?_cons_zero, List.getElem?_cons_succ]; rfl) (by kernel_rfl) (by kernel_rfl) (by kernel_rfl) (by kernel_rfl) (by exact fun c a w h => HQP.out c a _ _ w h) (Or.inl ⟨by rfl, ?hyec18⟩) (behind_cons (fun h => by simp at h) (behind_cons (fun h => by simp at h) (fun p hp => by cases hp))) ?restec18
          case hyec18 => (intro W' _; go_simp; try with_reducible rfl)
          try simp only [Act.put, List.setIfInBounds_toArray, List.set_cons_zero, List.set_cons_succ]
          refine wpAnyV_free (i := 17) (v := ?_) (by simp only [List.getElem?_toArray, List.getElem?_cons_zero, List.getElem?_cons_succ]; rfl) (by kernel_rfl) (by kernel_rfl) (by kernel_rfl) (by kernel_rfl) (by exact fun c a w h => HQP.out c a _ _ w h) (Or.inl ⟨by rfl, ?hyec19⟩) (behind_cons (fun h => by simp at h) (behind_cons (fun h => by simp at h) (fun p hp => by cases hp))) ?restec19
          case hyec19 => (intro W' _; go_simp; try with_reducible rfl)
          try simp only [Act.put, List.setIfInBounds_toArray, List.set_cons_zero, List.set_cons_succ]
          refine wpAnyV_free (i := 19) (v := ?_) (by simp only [List.getElem?_toArray, List.getElem?_cons_zero, List.getElem?_cons_succ]; rfl) (by kernel_rfl) (by kernel_rfl) (by kernel_rfl) (by kernel_rfl) (by exact fun c a w h => HQP.out c a _ _ w h) (Or.inl ⟨by rfl, ?hyec20⟩) (behind_cons (fun h => by simp at h) (behind_cons (fun h => by simp at h) (fun p hp => by cases hp))) ?restec20
          case hyec20 => (intro W' _; go_simp; try with_reducible rfl)
          try simp only [Act.put, List.setIfInBounds_toArray, List.set_cons_zero, List.set_cons_succ]
          refine wpAnyV_free (i := 20) (v := ?_) (by simp only [List.getElem?_toArray, List.getElem?_cons_zero, List.getElem?_cons_succ]; rfl) (by kernel_rfl) (by kernel_rfl) (by kernel_rfl) (by kernel_rfl) (by exact fun c a w h => HQP.out c a _ _ w h) (Or.inl ⟨by rfl, ?hyec21⟩) (behind_cons (fun h => by simp at h) (behind_cons (fun h => by simp at h) (fun p hp => by cases hp))) ?restec21
          case hyec21 => (intro W' _; go_simp; try with_reducible rfl)
          try simp only [Act.put, List.setIfInBounds_toArray, List.set_cons_zero, List.set_cons_succ]
          refine wpAnyV_free (i := 21) (v := ?_) (by simp only [List.getElem?_toArray, List.getElem?_cons_zero, List.getElem?_cons_succ]; rfl) (by kernel_rfl) (by kernel_rfl) (by kernel_rfl) (by kernel_rfl) (by exact fun c a w h => HQP.out c a _ _ w h) (Or.inl ⟨by rfl, ?hyec22⟩) (behind_cons (fun h => by simp at h) (behind_cons (fun h => by simp at h) (fun p hp => by cases hp))) ?restec22
          case hyec22 => (intro W' _; go_simp; try with_reducible rfl)
          try simp only [Act.put, List.setIfInBounds_toArray, List.set_cons_zero, List.set_cons_succ]
          refine wpAnyV_take (i := 18) (m := 0) (v := ?_) (by simp only [List.getElem?_toArray, List.getElem?_cons_zero, List.getElem?_cons_succ]; rfl) (by rfl) (by kernel_rfl) (by kernel_rfl) (by kernel_rfl) (by kernel_rfl) (by exact fun c a w h => HQP.out c a _ _ w h) (Or.inl ⟨by rfl, ?hyec23⟩) ((HCB.out _ HV.out)) (behind_cons (fun _ => (HCB.out _ HV.out)) (behind_cons (fun h => by simp at h) (fun p hp => by cases hp))) ?restec23
          case hyec23 => (intro W' hSW; go_simp; try with_reducible rfl)
          try simp only [Act.put, List.setIfInBounds_toArray, List.set_cons_zero, List.set_cons_succ]
          refine wpAnyV_take (i := 22) (m := 1) (v := ?_) (by simp only [List.getElem?_toArray, List.getElem?_cons_zero, List.getElem?_cons_succ]; rfl) (by rfl) (by kernel_rfl) (by kernel_rfl) (by kernel_rfl) (by kernel_rfl) (by exact fun c a w h => HQP.out c a _ _ w h) (Or.inl ⟨by rfl, ?hyec24⟩) ((HCA.out _ HV.out)) (behind_cons (fun _ => (HCB.out _ HV.out)) (behind_cons (fun _ => (HCA.out _ HV.out)) (fun p hp => by cases hp))) ?restec24
          case hyec24 => (intro W' hSW; go_simp; try with_reducible rfl)
          try simp only [Act.put, List.setIfInBounds_toArray, List.set_cons_zero, List.set_cons_succ]
          refine wpAnyV_ready (rs := [23]) (by kernel_rfl) (by simp) ?_
          refine AllReadyV.cons (by simp only [List.getElem?_toArray, List.getElem?_cons_zero, List.getElem?_cons_succ]; rfl) (fun K hK => ?_) AllReadyV.nil
          go_simp
          go_at_call 24
          (with_reducible refine (HWI.out _).mono ?_)
          rintro e w512 ⟨rfl, hb⟩
          have HC512 := Lib.hid (HV.out.to hb)
          clear hb
          refine hK.out _ _ (behind_cons (fun _ => (HCB.out _ HC512.out)) (behind_cons (fun _ => (HCA.out _ HC512.out)) (fun p hp => by cases hp))) ?_
          clear hK K
          try simp only [Act.put, List.setIfInBounds_toArray, List.set_cons_zero, List.set_cons_succ]
          refine wpAnyV_free (i := 24) (v := ?_) (by simp only [List.getElem?_toArray, List.getElem?_cons_zero, List.getElem?_cons_succ]; rfl) (by kernel_rfl) (by kernel_rfl) (by kernel_rfl) (by kernel_rfl) (by exact fun c a w h => HQP.out c a _ _ w h) (Or.inl ⟨by rfl, ?hyec26⟩) (behind_cons (fun _ => (HCB.out _ HC512.out)) (behind_cons (fun _ => (HCA.out _ HC512.out)) (fun p hp => by cases hp))) ?restec26
          case hyec26 => (intro W' _; go_simp; try with_reducible rfl)
          try simp only [Act.put, List.setIfInBounds_toArray, List.set_cons_zero, List.set_cons_succ]
          refine wpAnyV_free (i := 25) (v := ?_) (by simp only [List.getElem?_toArray, List.getElem?_cons_zero, List.getElem?_cons_succ]; rfl) (by kernel_rfl) (by kernel_rfl) (by kernel_rfl) (by kernel_rfl) (by exact fun c a w h => HQP.out c a _ _ w h) (Or.inl ⟨by rfl, ?hyec27⟩) (behind_cons (fun _ => (HCB.out _ HC512.out)) (behind_cons (fun _ => (HCA.out _ HC512.out)) (fun p hp => by cases hp))) ?restec27
          case hyec27 => (intro W' _; go_simp; try with_reducible rfl)
          try simp only [Act.put, List.setIfInBounds_toArray, List.set_cons_zero, List.set_cons_succ]
          refine wpAnyV_free (i := 26) (v := ?_) (by simp only [List.getElem?_toArray, List.getElem?_cons_zero, List.getElem?_cons_succ]; rfl) (by kernel_rfl) (by kernel_rfl) (by kernel_rfl) (by kernel_rfl) (by exact fun c a w h => HQP.out c a _ _ w h) (Or.inl ⟨by rfl, ?hyec28⟩) (behind_cons (fun _ => (HCB.out _ HC512.out)) (behind_cons (fun _ => (HCA.out _ HC512.out)) (fun p hp => by cases hp))) ?restec28
          case hyec28 => (intro W' _; go_simp; try with_reducible rfl)
          try simp only [Act.put, List.setIfInBounds_toArray, List.set_cons_zero, List.set_cons_succ]
          refine wpAnyV_free (i := 27) (v := ?_) (by simp only [List.getElem?_toArray, List.getElem?_cons_zero, List.getElem?_cons_succ]; rfl) (by kernel_rfl) (by kernel_rfl) (by kernel_rfl) (by kernel_rfl) (by exact fun c a w h => HQP.out c a _ _ w h) (Or.inl ⟨by rfl, ?hyec29⟩) (behind_cons (fun _ => (HCB.out _ HC512.out)) (behind_cons (fun _ => (HCA.out _ HC512.out)) (fun p hp => by cases hp))) ?restec29
          case hyec29 => (intro W' _; go_simp; try with_reducible rfl)
          try simp only [Act.put, List.setIfInBounds_toArray, List.set_cons_zero, List.set_cons_succ]
          refine wpAnyV_free (i := 28) (v := ?_) (by simp only [List.getElem?_toArray, List.getElem?_cons_zero, List.getElem?_cons_succ]; rfl) (by kernel_rfl) (by kernel_rfl) (by kernel_rfl) (by kernel_rfl) (by exact fun c a w h => HQP.out c a _ _ w h) (Or.inl ⟨by rfl, ?hyec30⟩) (behind_cons (fun _ => (HCB.out _ HC512.out)) (behind_cons (fun _ => (HCA.out _ HC512.out)) (fun p hp => by cases hp))) ?restec30
          case hyec30 => (intro W' _; go_simp; try with_reducible rfl)
          try simp only [Act.put, List.setIfInBounds_toArray, List.set_cons_zero, List.set_cons_succ]
          refine wpAnyV_free (i := 29) (v := ?_) (by simp only [List.getElem?_toArray, List.getElem?_cons_zero, List.getElem?_cons_succ]; rfl) (by kernel_rfl) (by kernel_rfl) (by kernel_rfl) (by kernel_rfl) (by exact fun c a w h => HQP.out c a _ _ w h) (Or.inl ⟨by rfl, ?hyec31⟩) (behind_cons (fun _ => (HCB.out _ HC512.out)) (behind_cons (fun _ => (HCA.out _ HC512.out)) (fun p hp => by cases hp))) ?restec31
          case hyec31 => (intro W' _; go_simp; try with_reducible rfl)
          try simp only [Act.put, List.setIfInBounds_toArray, List.set_cons_zero, List.set_cons_succ]
          refine wpAnyV_free (i := 30) (v := ?_) (by simp only [List.getElem?_toArray, List.getElem?_cons_zero, List.getElem?_cons_succ]; rfl) (by kernel_rfl) (by kernel_rfl) (by kernel_rfl) (by kernel_rfl) (by exact fun c a w h => HQP.out c a _ _ w h) (Or.inl ⟨by rfl, ?hyec32⟩) (behind_cons (fun _ => (HCB.out _ HC512.out)) (behind_cons (fun _ => (HCA.out _ HC512.out)) (fun p hp => by cases hp))) ?restec32
          case hyec32 => (intro W' _; go_simp; try with_reducible rfl)
          try simp only [Act.put, List.setIfInBounds_toArray, List.set_cons_zero, List.set_cons_succ]
          refine wpAnyV_free (i := 31) (v := ?_) (by simp only [List.getElem?_toArray, List.getElem?_cons_zero, List.getElem?_cons_succ]; rfl) (by kernel_rfl) (by kernel_rfl) (by kernel_rfl) (by kernel_rfl) (by exact fun c a w h => HQP.out c a _ _ w h) (Or.inl ⟨by rfl, ?hyec33⟩) (behind_cons (fun _ => (HCB.out _ HC512.out)) (behind_cons (fun _ => (HCA.out _ HC512.out)) (fun p hp => by cases hp))) ?restec33
          case hyec33 => (intro W' _; go_simp; try with_reducible rfl)
          try simp only [Act.put, List.setIfInBounds_toArray, List.set_cons_zero, List.set_cons_succ]
          refine wpAnyV_free (i := 32) (v := ?_) (by simp only [List.getElem?_toArray, List.getElem?_cons_zero, List.getElem?_cons_succ]; rfl) (by kernel_rfl) (by kernel_rfl) (by kernel_rfl) (by kernel_rfl) (by exact fun c a w h => HQP.out c a _ _ w h) (Or.inl ⟨by rfl, ?hyec34⟩) (behind_cons (fun _ => (HCB.out _ HC512.out)) (behind_cons (fun _ => (HCA.out _ HC512.out)) (fun p hp => by cases hp))) ?restec34
          case hyec34 => (intro W' _; go_simp; try with_reducible rfl)
          try simp only [Act.put, List.setIfInBounds_toArray, List.set_cons_zero, List.set_cons_succ]
          refine wpAnyV_free (i := 33) (v := ?_) (by simp only [List.getElem?_toArray, List.getElem?_cons_zero, List.getElem?_cons_succ]; rfl) (by kernel_rfl) (by kernel_rfl) (by kernel_rfl) (by kernel_rfl) (by exact fun c a w h => HQP.out c a _ _ w h) (Or.inl ⟨by rfl, ?hyec35⟩) (behind_cons (fun _ => (HCB.out _ HC512.out)) (behind_cons (fun _ => (HCA.out _ HC512.out)) (fun p hp => by cases hp))) ?restec35
          case hyec35 => (intro W' _; go_simp; try with_reducible rfl)
          try simp only [Act.put, List.setIfInBounds_toArray, List.set_cons_zero, List.set_cons_succ]
          refine wpAnyV_free (i := 34) (v := ?_) (by simp only [List.getElem?_toArray, List.getElem?_cons_zero, List.getElem?_cons_succ]; rfl) (by kernel_rfl) (by kernel_rfl) (by kernel_rfl) (by kernel_rfl) (by exact fun c a w h => HQP.out c a _ _ w h) (Or.inl ⟨by rfl, ?hyec36⟩) (behind_cons (fun _ => (HCB.out _ HC512.out)) (behind_cons (fun _ => (HCA.out _ HC512.out)) (fun p hp => by cases hp))) ?restec36
          case hyec36 => (intro W' _; go_simp; try with_reducible rfl)
          try simp only [Act.put, List.setIfInBounds_toArray, List.set_cons_zero, List.set_cons_succ]
          refine wpAnyV_free (i := 35) (v := ?_) (by simp only [List.getElem?_toArray, List.getElem?_cons_zero, List.getElem?_cons_succ]; rfl) (by kernel_rfl) (by kernel_rfl) (by kernel_rfl) (by kernel_rfl) (by exact fun c a w h => HQP.out c a _ _ w h) (Or.inl ⟨by rfl, ?hyec37⟩) (behind_cons (fun _ => (HCB.out _ HC512.out)) (behind_cons (fun _ => (HCA.out _ HC512.out)) (fun p hp => by cases hp))) ?restec37
          case hyec37 => (intro W' _; go_simp; try with_reducible rfl)
          try simp only [Act.put, List.setIfInBounds_toArray, List.set_cons_zero, List.set_cons_succ]
          refine wpAnyV_free (i := 36) (v := ?_) (by simp only [List.getElem?_toArray, List.getElem?_cons_zero, List.getElem?_cons_succ]; rfl) (by kernel_rfl) (by kernel_rfl) (by kernel_rfl) (by kernel_rfl) (by exact fun c a w h => HQP.out c a _ _ w h) (Or.inl ⟨by rfl, ?hyec38⟩) (behind_cons (fun _ => (HCB.out _ HC512.out)) (behind_cons (fun _ => (HCA.out _ HC512.out)) (fun p hp => by cases hp))) ?restec38
          case hyec38 => (intro W' _; go_simp; try with_reducible rfl)
          try simp only [Act.put, List.setIfInBounds_toArray, List.set_cons_zero, List.set_cons_succ]
          refine wpAnyV_free (i := 37) (v := ?_) (by simp only [List.getElem?_toArray, List.getElem?_cons_zero, List.getElem?_cons_succ]; rfl) (by kernel_rfl) (by kernel_rfl) (by kernel_rfl) (by kernel_rfl) (by exact fun c a w h => HQP.out c a _ _ w h) (Or.inl ⟨by rfl, ?hyec39⟩) (behind_cons (fun _ => (HCB.out _ HC512.out)) (behind_cons (fun _ => (HCA.out _ HC512.out)) (fun p hp => by cases hp))) ?restec39
          case hyec39 => (intro W' _; go_simp; try with_reducible rfl)
          try simp only [Act.put, List.setIfInBounds_toArray, List.set_cons_zero, List.set_cons_succ]
          refine wpAnyV_free (i := 38) (v := ?_) (by simp only [List.getElem?_toArray, List.getElem?_cons_zero, List.getElem?_cons_succ]; rfl) (by kernel_rfl) (by kernel_rfl) (by kernel_rfl) (by kernel_rfl) (by exact fun c a w h => HQP.out c a _ _ w h) (Or.inl ⟨by rfl, ?hyec40⟩) (behind_cons (fun _ => (HCB.out _ HC512.out)) (behind_cons (fun _ => (HCA.out _ HC512.out)) (fun p hp => by cases hp))) ?restec40
          case hyec40 => (intro W' _; go_simp; try with_reducible rfl)
          try simp only [Act.put, List.setIfInBounds_toArray, List.set_cons_zero, List.set_cons_succ]
          refine wpAnyV_free (i := 39) (v := undef) (by simp only [List.getElem?_toArray, List.getElem?_cons_zero, List.getElem?_cons_succ]; rfl) (by kernel_rfl) (by kernel_rfl) (by kernel_rfl) (by kernel_rfl) (by exact fun c a w h => HQP.out c a _ _ w h) (Or.inr ⟨by rfl, rfl⟩) (behind_cons (fun _ => (HCB.out _ HC512.out)) (behind_cons (fun _ => (HCA.out _ HC512.out)) (fun p hp => by cases hp))) ?_
          try simp only [Act.put, List.setIfInBounds_toArray, List.set_cons_zero, List.set_cons_succ]
          refine wpAnyV_free (i := 40) (v := undef) (by simp only [List.getElem?_toArray, List.getElem?_cons_zero, List.getElem?_cons_succ]; rfl) (by kernel_rfl) (by kernel_rfl) (by kernel_rfl) (by kernel_rfl) (by exact fun c a w h => HQP.out c a _ _ w h) (Or.inr ⟨by rfl, rfl⟩) (behind_cons (fun _ => (HCB.out _ HC512.out)) (behind_cons (fun _ => (HCA.out _ HC512.out)) (fun p hp => by cases hp))) ?_
          try simp only [Act.put, List.setIfInBounds_toArray, List.set_cons_zero, List.set_cons_succ]
          refine wpAnyV_free (i := 41) (v := undef) (by simp only [List.getElem?_toArray, List.getElem?_cons_zero, List.getElem?_cons_succ]; rfl) (by kernel_rfl) (by kernel_rfl) (by kernel_rfl) (by kernel_rfl) (by exact fun c a w h => HQP.out c a _ _ w h) (Or.inr ⟨by rfl, rfl⟩) (behind_cons (fun _ => (HCB.out _ HC512.out)) (behind_cons (fun _ => (HCA.out _ HC512.out)) (fun p hp => by cases hp))) ?_
          try simp only [Act.put, List.setIfInBounds_toArray, List.set_cons_zero, List.set_cons_succ]
          refine wpAnyV_free (i := 42) (v := ?_) (by simp only [List.getElem?_toArray, List.getElem?_cons_zero, List.getElem?_cons_succ]; rfl) (by kernel_rfl) (by kernel_rfl) (by kernel_rfl) (by kernel_rfl) (by exact fun c a w h => HQP.out c a _ _ w h) (Or.inl ⟨by rfl, ?hyec44⟩) (behind_cons (fun _ => (HCB.out _ HC512.out)) (behind_cons (fun _ => (HCA.out _ HC512.out)) (fun p hp => by cases hp))) ?restec44
          case hyec44 => (intro W' _; go_simp; try with_reducible rfl)
          try simp only [Act.put, List.setIfInBounds_toArray, List.set_cons_zero, List.set_cons_succ]
          refine wpAnyV_free (i := 43) (v := ?_) (by simp only [List.getElem?_toArray, List.getElem?_cons_zero, List.getElem?_cons_succ]; rfl) (by kernel_rfl) (by kernel_rfl) (by kernel_rfl) (by kernel_rfl) (by exact fun c a w h => HQP.out c a _ _ w h) (Or.inl ⟨by rfl, ?hyec45⟩) (behind_cons (fun _ => (HCB.out _ HC512.out)) (behind_cons (fun _ => (HCA.out _ HC512.out)) (fun p hp => by cases hp))) ?restec45
          case hyec45 => (intro W' _; go_simp; try with_reducible rfl)
          try simp only [Act.put, List.setIfInBounds_toArray, List.set_cons_zero, List.set_cons_succ]
          refine wpAnyV_done (by kernel_rfl) ?_ _
          have HS20 := HC512
          go_wp2_with fail
          go_roundg (gk - 1)
          case measure => omega
          case rel => exact ⟨k3 + 1, by go_num, by omega, HS20.out⟩
        · go_wp2_with fail
          refine wp_region_v [(fun j => j == 18 || j == 22 || j == 23 || j == 24 || j == 25 || j == 26 || j == 27 || j == 28 || j == 29 || j == 30 || j == 31 || j == 32 || j == 33 || j == 34 || j == 35 || j == 36 || j == 37 || j == 38 || j == 39 || j == 40 || j == 41 || j == 42 || j == 43, fun W => W.cell? ⟨gb, k3 * 2, none⟩ = some (.int .i64 p'.1) ∧ W.cell? ⟨gb, k3 * 2 + 1, none⟩ = some (.int .i64 p'.2)), (fun j => j == 22 || j == 23 || j == 24 || j == 25 || j == 26 || j == 27 || j == 28 || j == 29 || j == 30 || j == 31 || j == 32 || j == 33 || j == 34 || j == 35 || j == 36 || j == 37 || j == 38 || j == 39 || j == 40 || j == 41 || j == 42 || j == 43, fun W => W.cell? ⟨ga, k3 * 2, none⟩ = some (.int .i64 p.1) ∧ W.cell? ⟨ga, k3 * 2 + 1, none⟩ = some (.int .i64 p.2))] (by kernel_rfl) ?_
          refine wpAnyV_world (fun W => LG w w.heap.size w2.heap.size d ys fs (.slice Ae d.eras.length ce) (.slice An d.notes.length cn) (.slice (some ⟨gy, 0, none⟩) ys.length cy) (.slice Af fs.length cf) [⟨w6.heap.size, 28, [.int .i64 d.stones, .slice Ax d.eras.length cx, .slice (some ⟨g8, 0, none⟩) (d.notes.length + 1) c8]⟩] [⟨39, 2, .slice (some ⟨ga, 0, none⟩) d.stones ca, d.stones, flatS (spanList d 1 d.stones)⟩, ⟨39, 2, .slice (some ⟨gb, 0, none⟩) d.stones cb, d.stones, flatS (spanList x 1 d.stones)⟩, ⟨39, 2, .slice Ac d.eras.length cc, d.eras.length, flatS (spanList d 7 d.eras.length)⟩, ⟨39, 2, .slice Ay2 d.eras.length cy2, d.eras.length, flatS (spanList x 7 d.eras.length)⟩] [] [(.agg #[.int .i64 d.stones, .slice Ax d.eras.length cx, .slice (some ⟨g8, 0, none⟩) (d.notes.length + 1) c8], x)] W) HS19.out.drew (fun V hV => ?_)
          have HV := Lib.hid hV
          clear hV
          refine wpAnyV_free (i := 0) (v := ?_) (by simp only [List.getElem?_toArray, List.getElem?_cons_zero]; rfl) (by kernel_rfl) (by kernel_rfl) (by kernel_rfl) (by kernel_rfl) (by exact fun c a w h => HQP.out c a _ _ w h) (Or.inl ⟨by rfl, ?hyed2⟩) (behind_cons (fun h => by simp at h) (behind_cons (fun h => by simp at h) (fun p hp => by cases hp))) ?rested2
          case hyed2 => (intro W' _; go_simp; try with_reducible rfl)
          try simp only [Act.put, List.setIfInBounds_toArray, List.set_cons_zero, List.set_cons_succ]
          refine wpAnyV_free (i := 1) (v := ?_) (by simp only [List.getElem?_toArray, List.getElem?_cons_zero, List.getElem?_cons_succ]; rfl) (by kernel_rfl) (by kernel_rfl) (by kernel_rfl) (by kernel_rfl) (by exact fun c a w h => HQP.out c a _ _ w h) (Or.inl ⟨by rfl, ?hyed3⟩) (behind_cons (fun h => by simp at h) (behind_cons (fun h => by simp at h) (fun p hp => by cases hp))) ?rested3
          case hyed3 => (intro W' _; go_simp; try with_reducible rfl)
          try simp only [Act.put, List.setIfInBounds_toArray, List.set_cons_zero, List.set_cons_succ]
          refine wpAnyV_free (i := 2) (v := ?_) (by simp only [List.getElem?_toArray, List.getElem?_cons_zero, List.getElem?_cons_succ]; rfl) (by kernel_rfl) (by kernel_rfl) (by kernel_rfl) (by kernel_rfl) (by exact fun c a w h => HQP.out c a _ _ w h) (Or.inl ⟨by rfl, ?hyed4⟩) (behind_cons (fun h => by simp at h) (behind_cons (fun h => by simp at h) (fun p hp => by cases hp))) ?rested4
          case hyed4 => (intro W' _; go_simp; try with_reducible rfl)
          try simp only [Act.put, List.setIfInBounds_toArray, List.set_cons_zero, List.set_cons_succ]
          refine wpAnyV_free (i := 3) (v := ?_) (by simp only [List.getElem?_toArray, List.getElem?_cons_zero, List.getElem?_cons_succ]; rfl) (by kernel_rfl) (by kernel_rfl) (by kernel_rfl) (by kernel_rfl) (by exact fun c a w h => HQP.out c a _ _ w h) (Or.inl ⟨by rfl, ?hyed5⟩) (behind_cons (fun h => by simp at h) (behind_cons (fun h => by simp at h) (fun p hp => by cases hp))) ?rested5
          case hyed5 => (intro W' _; go_simp; try with_reducible rfl)
          try simp only [Act.put, List.setIfInBounds_toArray, List.set_cons_zero, List.set_cons_succ]
          refine wpAnyV_free (i := 4) (v := ?_) (by simp only [List.getElem?_toArray, List.getElem?_cons_zero, List.getElem?_cons_succ]; rfl) (by kernel_rfl) (by kernel_rfl) (by kernel_rfl) (by kernel_rfl) (by exact fun c a w h => HQP.out c a _ _ w h) (Or.inl ⟨by rfl, ?hyed6⟩) (behind_cons (fun h => by simp at h) (behind_cons (fun h => by simp at h) (fun p hp => by cases hp))) ?rested6
          case hyed6 => (intro W' _; go_simp; try with_reducible rfl)
          try simp only [Act.put, List.setIfInBounds_toArray, List.set_cons_zero, List.set_cons_succ]
          refine wpAnyV_free (i := 5) (v := ?_) (by simp only [List.getElem?_toArray, List.getElem?_cons_zero, List.getElem?_cons_succ]; rfl) (by kernel_rfl) (by kernel_rfl) (by kernel_rfl) (by kernel_rfl) (by exact fun c a w h => HQP.out c a _ _ w h) (Or.inl ⟨by rfl, ?hyed7⟩) (behind_cons (fun h => by simp at h) (behind_cons (fun h => by simp at h) (fun p hp => by cases hp))) ?rested7
          case hyed7 => (intro W' _; go_simp; try with_reducible rfl)
          try simp only [Act.put, List.setIfInBounds_toArray, List.set_cons_zero, List.set_cons_succ]
          refine wpAnyV_free (i := 6) (v := ?_) (by simp only [List.getElem?_toArray, List.getElem?_cons_zero, List.getElem?_cons_succ]; rfl) (by kernel_rfl) (by kernel_rfl) (by kernel_rfl) (by kernel_rfl) (by exact fun c a w h => HQP.out c a _ _ w h) (Or.inl ⟨by rfl, ?hyed8⟩) (behind_cons (fun h => by simp at h) (behind_cons (fun h => by simp at h) (fun p hp => by cases hp))) ?rested8
          case hyed8 => (intro W' _; go_simp; try with_reducible rfl)
          try simp only [Act.put, List.setIfInBounds_toArray, List.set_cons_zero, List.set_cons_succ]
          refine wpAnyV_free (i := 7) (v := ?_) (by simp only [List.getElem?_toArray, List.getElem?_cons_zero, List.getElem?_cons_succ]; rfl) (by kernel_rfl) (by kernel_rfl) (by kernel_rfl) (by kernel_rfl) (by exact fun c a w h => HQP.out c a _ _ w h) (Or.inl ⟨by rfl, ?hyed9⟩) (behind_cons (fun h => by simp at h) (behind_cons (fun h => by simp at h) (fun p hp => by cases hp))) ?rested9
          case hyed9 => (intro W' _; go_simp; try with_reducible rfl)
          try simp only [Act.put, List.setIfInBounds_toArray, List.set_cons_zero, List.set_cons_succ]
          refine wpAnyV_free (i := 8) (v := ?_) (by simp only [List.getElem?_toArray, List.getElem?_cons_zero, List.getElem?_cons_succ]; rfl) (by kernel_rfl) (by kernel_rfl) (by kernel_rfl) (by kernel_rfl) (by exact fun c a w h => HQP.out c a _ _ w h) (Or.inl ⟨by rfl, ?hyed10⟩) (behind_cons (fun h => by simp at h) (behind_cons (fun h => by simp at h) (fun p hp => by cases hp))) ?rested10
          case hyed10 => (intro W' _; go_simp; try with_reducible rfl)
          try simp only [Act.put, List.setIfInBounds_toArray, List.set_cons_zero, List.set_cons_succ]
          refine wpAnyV_free (i := 9) (v := ?_) (by simp only [List.getElem?_toArray, List.getElem?_cons_zero, List.getElem?_cons_succ]; rfl) (by kernel_rfl) (by kernel_rfl) (by kernel_rfl) (by kernel_rfl) (by exact fun c a w h => HQP.out c a _ _ w h) (Or.inl ⟨by rfl, ?hyed11⟩) (behind_cons (fun h => by simp at h) (behind_cons (fun h => by simp at h) (fun p hp => by cases hp))) ?rested11
          case hyed11 => (intro W' _; go_simp; try with_reducible rfl)
          try simp only [Act.put, List.setIfInBounds_toArray, List.set_cons_zero, List.set_cons_succ]
          refine wpAnyV_free (i := 10) (v := ?_) (by simp only [List.getElem?_toArray, List.getElem?_cons_zero, List.getElem?_cons_succ]; rfl) (by kernel_rfl) (by kernel_rfl) (by kernel_rfl) (by kernel_rfl) (by exact fun c a w h => HQP.out c a _ _ w h) (Or.inl ⟨by rfl, ?hyed12⟩) (behind_cons (fun h => by simp at h) (behind_cons (fun h => by simp at h) (fun p hp => by cases hp))) ?rested12
          case hyed12 => (intro W' _; go_simp; try with_reducible rfl)
          try simp only [Act.put, List.setIfInBounds_toArray, List.set_cons_zero, List.set_cons_succ]
          refine wpAnyV_free (i := 11) (v := ?_) (by simp only [List.getElem?_toArray, List.getElem?_cons_zero, List.getElem?_cons_succ]; rfl) (by kernel_rfl) (by kernel_rfl) (by kernel_rfl) (by kernel_rfl) (by exact fun c a w h => HQP.out c a _ _ w h) (Or.inl ⟨by rfl, ?hyed13⟩) (behind_cons (fun h => by simp at h) (behind_cons (fun h => by simp at h) (fun p hp => by cases hp))) ?rested13
          case hyed13 => (intro W' _; go_simp; try with_reducible rfl)
          try simp only [Act.put, List.setIfInBounds_toArray, List.set_cons_zero, List.set_cons_succ]
          refine wpAnyV_free (i := 12) (v := ?_) (by simp only [List.getElem?_toArray, List.getElem?_cons_zero, List.getElem?_cons_succ]; rfl) (by kernel_rfl) (by kernel_rfl) (by kernel_rfl) (by kernel_rfl) (by exact fun c a w h => HQP.out c a _ _ w h) (Or.inl ⟨by rfl, ?hyed14⟩) (behind_cons (fun h => by simp at h) (behind_cons (fun h => by simp at h) (fun p hp => by cases hp))) ?rested14
          case hyed14 => (intro W' _; go_simp; try with_reducible rfl)
          try simp only [Act.put, List.setIfInBounds_toArray, List.set_cons_zero, List.set_cons_succ]
          refine wpAnyV_free (i := 13) (v := ?_) (by simp only [List.getElem?_toArray, List.getElem?_cons_zero, List.getElem?_cons_succ]; rfl) (by kernel_rfl) (by kernel_rfl) (by kernel_rfl) (by kernel_rfl) (by exact fun c a w h => HQP.out c a _ _ w h) (Or.inl ⟨by rfl, ?hyed15⟩) (behind_cons (fun h => by simp at h) (behind_cons (fun h => by simp at h) (fun p hp => by cases hp))) ?rested15
          case hyed15 => (intro W' _; go_simp; try with_reducible rfl)
          try simp only [Act.put, List.setIfInBounds_toArray, List.set_cons_zero, List.set_cons_succ]
          refine wpAnyV_free (i := 14) (v := ?_) (by simp only [List.getElem?_toArray, List.getElem?_cons_zero, List.getElem?_cons_succ]; rfl) (by kernel_rfl) (by kernel_rfl) (by kernel_rfl) (by kernel_rfl) (by exact fun c a w h => HQP.out c a _ _ w h) (Or.inl ⟨by rfl, ?hyed16⟩) (behind_cons (fun h => by simp at h) (behind_cons (fun h => by simp at h) (fun p hp => by cases hp))) ?rested16
          case hyed16 => (intro W' _; go_simp; try with_reducible rfl)
          try simp only [Act.put, List.setIfInBounds_toArray, List.set_cons_zero, List.set_cons_succ]
          refine wpAnyV_free (i := 15) (v := ?_) (by simp only [List.getElem?_toArray, List.getElem?_cons_zero, List.getElem?_cons_succ]; rfl) (by kernel_rfl) (by kernel_rfl) (by kernel_rfl) (by kernel_rfl) (by exact fun c a w h => HQP.out c a _ _ w h) (Or.inl ⟨by rfl, ?hyed17⟩) (behind_cons (fun h => by simp at h) (behind_cons (fun h => by simp at h) (fun p hp => by cases hp))) ?rested17
          case hyed17 => (intro W' _; go_simp; try with_reducible rfl)
          try simp only [Act.put, List.setIfInBounds_toArray, List.set_cons_zero, List.set_cons_succ]
          refine wpAnyV_free (i := 16) (v := ?_) (by simp only [List.getElem?_toArray, List.getElem?_cons_zero, List.getElem?_cons_succ]; rfl) (by kernel_rfl) (by kernel_rfl) (by kernel_rfl) (by kernel_rfl) (by exact fun c a w h => HQP.out c a _ _ w h) (Or.inl ⟨by rfl, ?hyed18⟩) (behind_cons (fun h => by simp at h) (behind_cons (fun h => by simp at h) (fun p hp => by cases hp))) ?rested18
          case hyed18 => (intro W' _; go_simp; try with_reducible rfl)
          try simp only [Act.put, List.setIfInBounds_toArray, List.set_cons_zero, List.set_cons_succ]
          refine wpAnyV_free (i := 17) (v := ?_) (by simp only [List.getElem?_toArray, List.getElem?_cons_zero, List.getElem?_cons_succ]; rfl) (by kernel_rfl) (by kernel_rfl) (by kernel_rfl) (by kernel_rfl) (by exact fun c a w h => HQP.out c a _ _ w h) (Or.inl ⟨by rfl, ?hyed19⟩) (behind_cons (fun h => by simp at h) (behind_cons (fun h => by simp at h) (fun p hp => by cases hp))) ?rested19
          case hyed19 => (intro W' _; go_simp; try with_reducible rfl)
          try simp only [Act.put, List.setIfInBounds_toArray, List.set_cons_zero, List.set_cons_succ]
          refine wpAnyV_free (i := 19) (v := ?_) (by simp only [List.getElem?_toArray, List.getElem?_cons_zero, List.getElem?_cons_succ]; rfl) (by kernel_rfl) (by kernel_rfl) (by kernel_rfl) (by kernel_rfl) (by exact fun c a w h => HQP.out c a _ _ w h) (Or.inl ⟨by rfl, ?hyed20⟩) (behind_cons (fun h => by simp at h) (behind_cons (fun h => by simp at h) (fun p hp => by cases hp))) ?rested20
          case hyed20 => (intro W' _; go_simp; try with_reducible rfl)
          try simp only [Act.put, List.setIfInBounds_toArray, List.set_cons_zero, List.set_cons_succ]
          refine wpAnyV_free (i := 20) (v := ?_) (by simp only [List.getElem?_toArray, List.getElem?_cons_zero, List.getElem?_cons_succ]; rfl) (by kernel_rfl) (by kernel_rfl) (by kernel_rfl) (by kernel_rfl) (by exact fun c a w h => HQP.out c a _ _ w h) (Or.inl ⟨by rfl, ?hyed21⟩) (behind_cons (fun h => by simp at h) (behind_cons (fun h => by simp at h) (fun p hp => by cases hp))) ?rested21
          case hyed21 => (intro W' _; go_simp; try with_reducible rfl)
          try simp only [Act.put, List.setIfInBounds_toArray, List.set_cons_zero, List.set_cons_succ]
          refine wpAnyV_free (i := 21) (v := ?_) (by simp only [List.getElem?_toArray, List.getElem?_cons_zero, List.getElem?_cons_succ]; rfl) (by kernel_rfl) (by kernel_rfl) (by kernel_rfl) (by kernel_rfl) (by exact fun c a w h => HQP.out c a _ _ w h) (Or.inl ⟨by rfl, ?hyed22⟩) (behind_cons (fun h => by simp at h) (behind_cons (fun h => by simp at h) (fun p hp => by cases hp))) ?rested22
          case hyed22 => (intro W' _; go_simp; try with_reducible rfl)
          try simp only [Act.put, List.setIfInBounds_toArray, List.set_cons_zero, List.set_cons_succ]
          refine wpAnyV_take (i := 18) (m := 0) (v := ?_) (by simp only [List.getElem?_toArray, List.getElem?_cons_zero, List.getElem?_cons_succ]; rfl) (by rfl) (by kernel_rfl) (by kernel_rfl) (by kernel_rfl) (by kernel_rfl) (by exact fun c a w h => HQP.out c a _ _ w h) (Or.inl ⟨by rfl, ?hyed23⟩) ((HCB.out _ HV.out)) (behind_cons (fun _ => (HCB.out _ HV.out)) (behind_cons (fun h => by simp at h) (fun p hp => by cases hp))) ?rested23
          case hyed23 => (intro W' hSW; go_simp; try with_reducible rfl)
          try simp only [Act.put, List.setIfInBounds_toArray, List.set_cons_zero, List.set_cons_succ]
          refine wpAnyV_take (i := 22) (m := 1) (v := ?_) (by simp only [List.getElem?_toArray, List.getElem?_cons_zero, List.getElem?_cons_succ]; rfl) (by rfl) (by kernel_rfl) (by kernel_rfl) (by kernel_rfl) (by kernel_rfl) (by exact fun c a w h => HQP.out c a _ _ w h) (Or.inl ⟨by rfl, ?hyed24⟩) ((HCA.out _ HV.out)) (behind_cons (fun _ => (HCB.out _ HV.out)) (behind_cons (fun _ => (HCA.out _ HV.out)) (fun p hp => by cases hp))) ?rested24
          case hyed24 => (intro W' hSW; go_simp; try with_reducible rfl)
          try simp only [Act.put, List.setIfInBounds_toArray, List.set_cons_zero, List.set_cons_succ]
          refine wpAnyV_ready (rs := [23]) (by kernel_rfl) (by simp) ?_
          refine AllReadyV.cons (by simp only [List.getElem?_toArray, List.getElem?_cons_zero, List.getElem?_cons_succ]; rfl) (fun K hK => ?_) AllReadyV.nil
          go_simp
          go_at_call 24
          (with_reducible refine (HWI.out _).mono ?_)
          rintro e w513 ⟨rfl, hb⟩
          have HC513 := Lib.hid (HV.out.to hb)
          clear hb
          refine hK.out _ _ (behind_cons (fun _ => (HCB.out _ HC513.out)) (behind_cons (fun _ => (HCA.out _ HC513.out)) (fun p hp => by cases hp))) ?_
          clear hK K
          try simp only [Act.put, List.setIfInBounds_toArray, List.set_cons_zero, List.set_cons_succ]
          refine wpAnyV_free (i := 24) (v := ?_) (by simp only [List.getElem?_toArray, List.getElem?_cons_zero, List.getElem?_cons_succ]; rfl) (by kernel_rfl) (by kernel_rfl) (by kernel_rfl) (by kernel_rfl) (by exact fun c a w h => HQP.out c a _ _ w h) (Or.inl ⟨by rfl, ?hyed26⟩) (behind_cons (fun _ => (HCB.out _ HC513.out)) (behind_cons (fun _ => (HCA.out _ HC513.out)) (fun p hp => by cases hp))) ?rested26
          case hyed26 => (intro W' _; go_simp; try with_reducible rfl)
          try simp only [Act.put, List.setIfInBounds_toArray, List.set_cons_zero, List.set_cons_succ]
          refine wpAnyV_free (i := 25) (v := ?_) (by simp only [List.getElem?_toArray, List.getElem?_cons_zero, List.getElem?_cons_succ]; rfl) (by kernel_rfl) (by kernel_rfl) (by kernel_rfl) (by kernel_rfl) (by exact fun c a w h => HQP.out c a _ _ w h) (Or.inl ⟨by rfl, ?hyed27⟩) (behind_cons (fun _ => (HCB.out _ HC513.out)) (behind_cons (fun _ => (HCA.out _ HC513.out)) (fun p hp => by cases hp))) ?rested27
          case hyed27 => (intro W' _; go_simp; try with_reducible rfl)
          try simp only [Act.put, List.setIfInBounds_toArray, List.set_cons_zero, List.set_cons_succ]
          refine wpAnyV_free (i := 26) (v := ?_) (by simp only [List.getElem?_toArray, List.getElem?_cons_zero, List.getElem?_cons_succ]; rfl) (by kernel_rfl) (by kernel_rfl) (by kernel_rfl) (by kernel_rfl) (by exact fun c a w h => HQP.out c a _ _ w h) (Or.inl ⟨by rfl, ?hyed28⟩) (behind_cons (fun _ => (HCB.out _ HC513.out)) (behind_cons (fun _ => (HCA.out _ HC513.out)) (fun p hp => by cases hp))) ?rested28
          case hyed28 => (intro W' _; go_simp; try with_reducible rfl)
          try simp only [Act.put, List.setIfInBounds_toArray, List.set_cons_zero, List.set_cons_succ]
          refine wpAnyV_free (i := 27) (v := ?_) (by simp only [List.getElem?_toArray, List.getElem?_cons_zero, List.getElem?_cons_succ]; rfl) (by kernel_rfl) (by kernel_rfl) (by kernel_rfl) (by kernel_rfl) (by exact fun c a w h => HQP.out c a _ _ w h) (Or.inl ⟨by rfl, ?hyed29⟩) (behind_cons (fun _ => (HCB.out _ HC513.out)) (behind_cons (fun _ => (HCA.out _ HC513.out)) (fun p hp => by cases hp))) ?rested29
          case hyed29 => (intro W' _; go_simp; try with_reducible rfl)
          try simp only [Act.put, List.setIfInBounds_toArray, List.set_cons_zero, List.set_cons_succ]
          refine wpAnyV_free (i := 28) (v := ?_) (by simp only [List.getElem?_toArray, List.getElem?_cons_zero, List.getElem?_cons_succ]; rfl) (by kernel_rfl) (by kernel_rfl) (by kernel_rfl) (by kernel_rfl) (by exact fun c a w h => HQP.out c a _ _ w h) (Or.inl ⟨by rfl, ?hyed30⟩) (behind_cons (fun _ => (HCB.out _ HC513.out)) (behind_cons (fun _ => (HCA.out _ HC513.out)) (fun p hp => by cases hp))) ?rested30
          case hyed30 => (intro W' _; go_simp; try with_reducible rfl)
          try simp only [Act.put, List.setIfInBounds_toArray, List.set_cons_zero, List.set_cons_succ]
          refine wpAnyV_free (i := 29) (v := ?_) (by simp only [List.getElem?_toArray, List.getElem?_cons_zero, List.getElem?_cons_succ]; rfl) (by kernel_rfl) (by kernel_rfl) (by kernel_rfl) (by kernel_rfl) (by exact fun c a w h => HQP.out c a _ _ w h) (Or.inl ⟨by rfl, ?hyed31⟩) (behind_cons (fun _ => (HCB.out _ HC513.out)) (behind_cons (fun _ => (HCA.out _ HC513.out)) (fun p hp => by cases hp))) ?rested31
          case hyed31 => (intro W' _; go_simp; try with_reducible rfl)
          try simp only [Act.put, List.setIfInBounds_toArray, List.set_cons_zero, List.set_cons_succ]
          refine wpAnyV_free (i := 30) (v := ?_) (by simp only [List.getElem?_toArray, List.getElem?_cons_zero, List.getElem?_cons_succ]; rfl) (by kernel_rfl) (by kernel_rfl) (by kernel_rfl) (by kernel_rfl) (by exact fun c a w h => HQP.out c a _ _ w h) (Or.inl ⟨by rfl, ?hyed32⟩) (behind_cons (fun _ => (HCB.out _ HC513.out)) (behind_cons (fun _ => (HCA.out _ HC513.out)) (fun p hp => by cases hp))) ?rested32
          case hyed32 => (intro W' _; go_simp; try with_reducible rfl)
          try simp only [Act.put, List.setIfInBounds_toArray, List.set_cons_zero, List.set_cons_succ]
          refine wpAnyV_free (i := 31) (v := ?_) (by simp only [List.getElem?_toArray, List.getElem?_cons_zero, List.getElem?_cons_succ]; rfl) (by kernel_rfl) (by kernel_rfl) (by kernel_rfl) (by kernel_rfl) (by exact fun c a w h => HQP.out c a _ _ w h) (Or.inl ⟨by rfl, ?hyed33⟩) (behind_cons (fun _ => (HCB.out _ HC513.out)) (behind_cons (fun _ => (HCA.out _ HC513.out)) (fun p hp => by cases hp))) ?rested33
          case hyed33 => (intro W' _; go_simp; try with_reducible rfl)
          try simp only [Act.put, List.setIfInBounds_toArray, List.set_cons_zero, List.set_cons_succ]
          refine wpAnyV_free (i := 32) (v := ?_) (by simp only [List.getElem?_toArray, List.getElem?_cons_zero, List.getElem?_cons_succ]; rfl) (by kernel_rfl) (by kernel_rfl) (by kernel_rfl) (by kernel_rfl) (by exact fun c a w h => HQP.out c a _ _ w h) (Or.inl ⟨by rfl, ?hyed34⟩) (behind_cons (fun _ => (HCB.out _ HC513.out)) (behind_cons (fun _ => (HCA.out _ HC513.out)) (fun p hp => by cases hp))) ?rested34
          case hyed34 => (intro W' _; go_simp; try with_reducible rfl)
          try simp only [Act.put, List.setIfInBounds_toArray, List.set_cons_zero, List.set_cons_succ]
          refine wpAnyV_free (i := 33) (v := ?_) (by simp only [List.getElem?_toArray, List.getElem?_cons_zero, List.getElem?_cons_succ]; rfl) (by kernel_rfl) (by kernel_rfl) (by kernel_rfl) (by kernel_rfl) (by exact fun c a w h => HQP.out c a _ _ w h) (Or.inl ⟨by rfl, ?hyed35⟩) (behind_cons (fun _ => (HCB.out _ HC513.out)) (behind_cons (fun _ => (HCA.out _ HC513.out)) (fun p hp => by cases hp))) ?rested35
          case hyed35 => (intro W' _; go_simp; try with_reducible rfl)
          try simp only [Act.put, List.setIfInBounds_toArray, List.set_cons_zero, List.set_cons_succ]
          refine wpAnyV_free (i := 34) (v := ?_) (by simp only [List.getElem?_toArray, List.getElem?_cons_zero, List.getElem?_cons_succ]; rfl) (by kernel_rfl) (by kernel_rfl) (by kernel_rfl) (by kernel_rfl) (by exact fun c a w h => HQP.out c a _ _ w h) (Or.inl ⟨by rfl, ?hyed36⟩) (behind_cons (fun _ => (HCB.out _ HC513.out)) (behind_cons (fun _ => (HCA.out _ HC513.out)) (fun p hp => by cases hp))) ?rested36
          case hyed36 => (intro W' _; go_simp; try with_reducible rfl)
          try simp only [Act.put, List.setIfInBounds_toArray, List.set_cons_zero, List.set_cons_succ]
          refine wpAnyV_free (i := 35) (v := ?_) (by simp only [List.getElem?_toArray, List.getElem?_cons_zero, List.getElem?_cons_succ]; rfl) (by kernel_rfl) (by kernel_rfl) (by kernel_rfl) (by kernel_rfl) (by exact fun c a w h => HQP.out c a _ _ w h) (Or.inl ⟨by rfl, ?hyed37⟩) (behind_cons (fun _ => (HCB.out _ HC513.out)) (behind_cons (fun _ => (HCA.out _ HC513.out)) (fun p hp => by cases hp))) ?rested37
          case hyed37 => (intro W' _; go_simp; try with_reducible rfl)
          try simp only [Act.put, List.setIfInBounds_toArray, List.set_cons_zero, List.set_cons_succ]
          refine wpAnyV_free (i := 36) (v := ?_) (by simp only [List.getElem?_toArray, List.getElem?_cons_zero, List.getElem?_cons_succ]; rfl) (by kernel_rfl) (by kernel_rfl) (by kernel_rfl) (by kernel_rfl) (by exact fun c a w h => HQP.out c a _ _ w h) (Or.inl ⟨by rfl, ?hyed38⟩) (behind_cons (fun _ => (HCB.out _ HC513.out)) (behind_cons (fun _ => (HCA.out _ HC513.out)) (fun p hp => by cases hp))) ?rested38
          case hyed38 => (intro W' _; go_simp; try with_reducible rfl)
          try simp only [Act.put, List.setIfInBounds_toArray, List.set_cons_zero, List.set_cons_succ]
          refine wpAnyV_free (i := 37) (v := ?_) (by simp only [List.getElem?_toArray, List.getElem?_cons_zero, List.getElem?_cons_succ]; rfl) (by kernel_rfl) (by kernel_rfl) (by kernel_rfl) (by kernel_rfl) (by exact fun c a w h => HQP.out c a _ _ w h) (Or.inl ⟨by rfl, ?hyed39⟩) (behind_cons (fun _ => (HCB.out _ HC513.out)) (behind_cons (fun _ => (HCA.out _ HC513.out)) (fun p hp => by cases hp))) ?rested39
          case hyed39 => (intro W' _; go_simp; try with_reducible rfl)
          try simp only [Act.put, List.setIfInBounds_toArray, List.set_cons_zero, List.set_cons_succ]
          refine wpAnyV_free (i := 38) (v := ?_) (by simp only [List.getElem?_toArray, List.getElem?_cons_zero, List.getElem?_cons_succ]; rfl) (by kernel_rfl) (by kernel_rfl) (by kernel_rfl) (by kernel_rfl) (by exact fun c a w h => HQP.out c a _ _ w h) (Or.inl ⟨by rfl, ?hyed40⟩) (behind_cons (fun _ => (HCB.out _ HC513.out)) (behind_cons (fun _ => (HCA.out _ HC513.out)) (fun p hp => by cases hp))) ?rested40
          case hyed40 => (intro W' _; go_simp; try with_reducible rfl)
          try simp only [Act.put, List.setIfInBounds_toArray, List.set_cons_zero, List.set_cons_succ]
          refine wpAnyV_free (i := 39) (v := ?_) (by simp only [List.getElem?_toArray, List.getElem?_cons_zero, List.getElem?_cons_succ]; rfl) (by kernel_rfl) (by kernel_rfl) (by kernel_rfl) (by kernel_rfl) (by exact fun c a w h => HQP.out c a _ _ w h) (Or.inl ⟨by rfl, ?hyed41⟩) (behind_cons (fun _ => (HCB.out _ HC513.out)) (behind_cons (fun _ => (HCA.out _ HC513.out)) (fun p hp => by cases hp))) ?rested41
          case hyed41 => (intro W' _; go_simp; try with_reducible rfl)
          try simp only [Act.put, List.setIfInBounds_toArray, List.set_cons_zero, List.set_cons_succ]
          refine wpAnyV_free (i := 40) (v := ?_) (by simp only [List.getElem?_toArray, List.getElem?_cons_zero, List.getElem?_cons_succ]; rfl) (by kernel_rfl) (by kernel_rfl) (by kernel_rfl) (by kernel_rfl) (by exact fun c a w h => HQP.out c a _ _ w h) (Or.inl ⟨by rfl, ?hyed42⟩) (behind_cons (fun _ => (HCB.out _ HC513.out)) (behind_cons (fun _ => (HCA.out _ HC513.out)) (fun p hp => by cases hp))) ?rested42
          case hyed42 => (intro W' _; go_simp; try with_reducible rfl)
          try simp only [Act.put, List.setIfInBounds_toArray, List.set_cons_zero, List.set_cons_succ]
          refine wpAnyV_free (i := 41) (v := ?_) (by simp only [List.getElem?_toArray, List.getElem?_cons_zero, List.getElem?_cons_succ]; rfl) (by kernel_rfl) (by kernel_rfl) (by kernel_rfl) (by kernel_rfl) (by exact fun c a w h => HQP.out c a _ _ w h) (Or.inl ⟨by rfl, ?hyed43⟩) (behind_cons (fun _ => (HCB.out _ HC513.out)) (behind_cons (fun _ => (HCA.out _ HC513.out)) (fun p hp => by cases hp))) ?rested43
          case hyed43 => (intro W' _; go_simp; try with_reducible rfl)
          try simp only [Act.put, List.setIfInBounds_toArray, List.set_cons_zero, List.set_cons_succ]
          refine wpAnyV_free (i := 42) (v := ?_) (by simp only [List.getElem?_toArray, List.getElem?_cons_zero, List.getElem?_cons_succ]; rfl) (by kernel_rfl) (by kernel_rfl) (by kernel_rfl) (by kernel_rfl) (by exact fun c a w h => HQP.out c a _ _ w h) (Or.inl ⟨by rfl, ?hyed44⟩) (behind_cons (fun _ => (HCB.out _ HC513.out)) (behind_cons (fun _ => (HCA.out _ HC513.out)) (fun p hp => by cases hp))) ?rested44
          case hyed44 => (intro W' _; go_simp; try with_reducible rfl)
          try simp only [Act.put, List.setIfInBounds_toArray, List.set_cons_zero, List.set_cons_succ]
          refine wpAnyV_free (i := 43) (v := ?_) (by simp only [List.getElem?_toArray, List.getElem?_cons_zero, List.getElem?_cons_succ]; rfl) (by kernel_rfl) (by kernel_rfl) (by kernel_rfl) (by kernel_rfl) (by exact fun c a w h => HQP.out c a _ _ w h) (Or.inl ⟨by rfl, ?hyed45⟩) (behind_cons (fun _ => (HCB.out _ HC513.out)) (behind_cons (fun _ => (HCA.out _ HC513.out)) (fun p hp => by cases hp))) ?rested45
          case hyed45 => (intro W' _; go_simp; try with_reducible rfl)
          try simp only [Act.put, List.setIfInBounds_toArray, List.set_cons_zero, List.set_cons_succ]
          refine wpAnyV_done (by kernel_rfl) ?_ _
          have HS20 := HC513
          go_wp2_with fail
          go_roundg (gk - 1)
          case measure => omega
          case rel => exact ⟨k3 + 1, by go_num, by omega, HS20.out⟩
    · obtain rfl : k3 = d.stones := by omega
      go_wp2_with fail
      refine HEX.out _ _ _ _ _ _ _ _ _ _ _ _ _ _ _ _ _ _ _ _ _ _ _ _ _ _ _ _ _ _ _ _ _ _ _ _ _ _ _ _ _ _ _ _ _ _ _ _ _ _ _ _ _ _ _ _ _ _ _ _ _ _ _ _ _ _ _ _ _ _ _ _ _ _ _ _ _ _ _ _ _ _ _ _ _ _ _ _ _ _ _ _ _ _ _ _ _ _ _ _ _ _ _ HS.out
  end Go.Proofs.Ytcbdcdpoackplaa
