/- DatingOf: the loop of notes. -/
import Derived.Test.YtcbdcdpoackplaaFi
namespace Go.Proofs.Ytcbdcdpoackplaa
open Go.RowKit Dt

set_option maxRecDepth 100000 in
set_option maxHeartbeats 20000000 in
theorem notes_loop (g nmax : Nat) (far base : Int) (w : World) (bD k B1 B2 gy cA m0 : Nat) (w4 : World) (ys fs : List Int) (es : List (Int × Int)) (ve vf : Value) (f1 : 0 ≤ far) (f2 : far ≤ 30) (b1 : -400 ≤ base) (b2 : base ≤ 200) (hk6 : k ≤ 6) (n8 : nmax ≤ 8) (hm8 : m0 ≤ nmax) (hk1 : 1 ≤ k)
    (HYL : Hid (ys.length = k)) (HYS : Hid (∀ z ∈ ys, base ≤ z ∧ z ≤ base + 2 * far)) (HE : Hid (Eras base es fs)) (hel : es.length ≤ 2)
    (c1 c2 c4 c5 c6 c7 c8 c9 c12 c13 c14 c15 c17 c18 c19 c20 c21 c22 c23 c24 c25 c26 c27 c28 c29 c30 c31 c32 c33 c34 c35 c36 c37 c38 c39 c40 c41 c42 c43 c44 c45 c46 c47 c48 c49 c50 c51 c52 c53 c54 c55 c56 c57 c58 c59 c60 c61 c62 c63 c64 c65 c66 c67 c68 c69 c70 c71 c72 c73 c74 c75 c76 c77 c78 c79 c80 c81 c82 c83 c84 c85 c86 c87 c88 c89 c90 c91 c92 c93 c94 c95 c96 c97 c98 c99 c100 c101 c102 c103 c104 c105 c106 c107 c108 c109 c110 c111 c112 c113 c114 c115 c116 c117 c118 c119 c120 c121 c122 c123 c124 c125 c126 c127 c128 c129 c130 c131 c132 c133 c134 c135 c136 c137 c138 c139 c140 c141 c142 c143 c144 c145 c146 c147 c148 c149 c150 c151 c152 c153 c154 c155 c156 c157 c158 c159 c160 c161 c162 c163 c164 c165 c166 c167 c168 c169 c170 c171 c172 c173 c174 c175 c176 c177 c178 c179 c180 c181 c182 c183 c184 c185 c186 c187 c188 c189 c190 c191 c192 c193 c194 c195 c196 c197 c198 c199 c200 c201 c202 c203 c204 c205 c206 c207 c208 c209 c210 c211 c212 c213 c214 c215 c216 c217 c218 c219 c220 c221 c222 c223 c224 c225 c226 c227 c228 c229 c230 c231 c232 c233 c234 : Value) (Q : Exit → Act → World → Prop)
    (h0 : NI g w bD (bD + 1) k B1 B2 w4.heap.size (.slice (some ⟨gy, 0, none⟩) k cA) ys ve es vf fs (.slice none 0 0) [] w4)
    (hexit : ∀ (u16 u17 u18 u19 u20 u21 u22 u23 u77 u78 u79 u80 u81 u82 u83 u84 u85 u86 u87 u88 u89 u90 u91 u92 u93 u94 u95 u96 u97 u98 u99 u100 u101 u102 u103 u104 u105 u106 u107 u108 u109 u110 u111 u112 u113 u114 u115 u116 u117 u118 u119 u120 u121 u122 u123 u124 u125 u126 u127 u128 u129 u130 u131 u132 u133 u134 u135 u136 u137 u138 u139 u140 u141 u142 u143 u144 u145 u146 u147 u148 u149 u150 u151 u152 u153 u154 u155 u156 u157 u158 u159 u160 u161 u162 u163 u164 u165 u166 u167 u168 u169 u170 u171 u172 u173 u174 u175 u176 u177 u178 u179 u180 u181 u182 u183 u184 u185 u186 u187 u188 u189 u190 u191 u192 u193 u194 u195 u196 u197 u198 u199 u200 u201 u202 u203 u204 u205 u206 u207 u208 u209 u210 u211 u212 u213 u214 u215 u216 u217 u218 u219 u220 u221 u222 u223 u224 u225 u226 u227 u228 u229 u230 u231 u232 : Value) (wx : World), (∃ vn xs, xs.length ≤ nmax ∧ (∀ p ∈ xs, Fine k es (xOf ys fs) p.1) ∧ NI g w bD (bD + 1) k B1 B2 w4.heap.size (.slice (some ⟨gy, 0, none⟩) k cA) ys ve es vf fs vn xs wx) → Q (.exit 4) ⟨List.toArray (Value.pointer (some ⟨g, 0, none⟩) :: c1 :: c2 :: Value.int .i64 far :: c4 :: c5 :: c6 :: c7 :: c8 :: c9 :: Value.pointer (some ⟨bD, 0, none⟩) :: Value.pointer (some ⟨(bD + 1), 0, none⟩) :: c12 :: c13 :: c14 :: c15 :: u16 :: u17 :: u18 :: u19 :: u20 :: u21 :: u22 :: u23 :: c24 :: c25 :: c26 :: c27 :: c28 :: c29 :: c30 :: c31 :: c32 :: c33 :: c34 :: c35 :: c36 :: c37 :: c38 :: c39 :: c40 :: c41 :: c42 :: c43 :: c44 :: c45 :: c46 :: c47 :: c48 :: c49 :: c50 :: c51 :: c52 :: c53 :: c54 :: c55 :: c56 :: c57 :: c58 :: c59 :: c60 :: c61 :: c62 :: c63 :: c64 :: c65 :: c66 :: c67 :: c68 :: c69 :: c70 :: c71 :: c72 :: c73 :: c74 :: c75 :: c76 :: u77 :: u78 :: u79 :: u80 :: u81 :: u82 :: u83 :: u84 :: u85 :: u86 :: u87 :: u88 :: u89 :: u90 :: u91 :: u92 :: u93 :: u94 :: u95 :: u96 :: u97 :: u98 :: u99 :: u100 :: u101 :: u102 :: u103 :: u104 :: u105 :: u106 :: u107 :: u108 :: u109 :: u110 :: u111 :: u112 :: u113 :: u114 :: u115 :: u116 :: u117 :: u118 :: u119 :: u120 :: u121 :: u122 :: u123 :: u124 :: u125 :: u126 :: u127 :: u128 :: u129 :: u130 :: u131 :: u132 :: u133 :: u134 :: u135 :: u136 :: u137 :: u138 :: u139 :: u140 :: u141 :: u142 :: u143 :: u144 :: u145 :: u146 :: u147 :: u148 :: u149 :: u150 :: u151 :: u152 :: u153 :: u154 :: u155 :: u156 :: u157 :: u158 :: u159 :: u160 :: u161 :: u162 :: u163 :: u164 :: u165 :: u166 :: u167 :: u168 :: u169 :: u170 :: u171 :: u172 :: u173 :: u174 :: u175 :: u176 :: u177 :: u178 :: u179 :: u180 :: u181 :: u182 :: u183 :: u184 :: u185 :: u186 :: u187 :: u188 :: u189 :: u190 :: u191 :: u192 :: u193 :: u194 :: u195 :: u196 :: u197 :: u198 :: u199 :: u200 :: u201 :: u202 :: u203 :: u204 :: u205 :: u206 :: u207 :: u208 :: u209 :: u210 :: u211 :: u212 :: u213 :: u214 :: u215 :: u216 :: u217 :: u218 :: u219 :: u220 :: u221 :: u222 :: u223 :: u224 :: u225 :: u226 :: u227 :: u228 :: u229 :: u230 :: u231 :: u232 :: c233 :: c234 :: []), []⟩ wx)
    (hqp : ∀ c a dst v w, Q (.panic c) (Act.put a dst v) w → Q (.panic c) a w) : Code.wp Try.prog (dLoop 4) Q ⟨List.toArray (Value.pointer (some ⟨g, 0, none⟩) :: c1 :: c2 :: Value.int .i64 far :: c4 :: c5 :: c6 :: c7 :: c8 :: c9 :: Value.pointer (some ⟨bD, 0, none⟩) :: Value.pointer (some ⟨(bD + 1), 0, none⟩) :: c12 :: c13 :: c14 :: c15 :: Value.int .i64 (m0 : Nat) :: c17 :: c18 :: c19 :: c20 :: c21 :: c22 :: c23 :: c24 :: c25 :: c26 :: c27 :: c28 :: c29 :: c30 :: c31 :: c32 :: c33 :: c34 :: c35 :: c36 :: c37 :: c38 :: c39 :: c40 :: c41 :: c42 :: c43 :: c44 :: c45 :: c46 :: c47 :: c48 :: c49 :: c50 :: c51 :: c52 :: c53 :: c54 :: c55 :: c56 :: c57 :: c58 :: c59 :: c60 :: c61 :: c62 :: c63 :: c64 :: c65 :: c66 :: c67 :: c68 :: c69 :: c70 :: c71 :: c72 :: c73 :: c74 :: c75 :: c76 :: c77 :: c78 :: c79 :: c80 :: c81 :: c82 :: c83 :: c84 :: c85 :: c86 :: c87 :: c88 :: c89 :: c90 :: c91 :: c92 :: c93 :: c94 :: c95 :: c96 :: c97 :: c98 :: c99 :: c100 :: c101 :: c102 :: c103 :: c104 :: c105 :: c106 :: c107 :: c108 :: c109 :: c110 :: c111 :: c112 :: c113 :: c114 :: c115 :: c116 :: c117 :: c118 :: c119 :: c120 :: c121 :: c122 :: c123 :: c124 :: c125 :: c126 :: c127 :: c128 :: c129 :: c130 :: c131 :: c132 :: c133 :: c134 :: c135 :: c136 :: c137 :: c138 :: c139 :: c140 :: c141 :: c142 :: c143 :: c144 :: c145 :: c146 :: c147 :: c148 :: c149 :: c150 :: c151 :: c152 :: c153 :: c154 :: c155 :: c156 :: c157 :: c158 :: c159 :: c160 :: c161 :: c162 :: c163 :: c164 :: c165 :: c166 :: c167 :: c168 :: c169 :: c170 :: c171 :: c172 :: c173 :: c174 :: c175 :: c176 :: c177 :: c178 :: c179 :: c180 :: c181 :: c182 :: c183 :: c184 :: c185 :: c186 :: c187 :: c188 :: c189 :: c190 :: c191 :: c192 :: c193 :: c194 :: c195 :: c196 :: c197 :: c198 :: c199 :: c200 :: c201 :: c202 :: c203 :: c204 :: c205 :: c206 :: c207 :: c208 :: c209 :: c210 :: c211 :: c212 :: c213 :: c214 :: c215 :: c216 :: c217 :: c218 :: c219 :: c220 :: c221 :: c222 :: c223 :: c224 :: c225 :: c226 :: c227 :: c228 :: c229 :: c230 :: c231 :: c232 :: c233 :: c234 :: []), []⟩ w4 := by
  have HEX := Lib.hid hexit
  clear hexit
  have HQP := Lib.hid hqp
  clear hqp
  obtain ⟨k0, hi, hz0, hz1, hz2⟩ := info_parts info_napi
  have HQ := Lib.hid hi
  have HQ0 := Lib.hid hz0
  have HQ1 := Lib.hid hz1
  have HQ2 := Lib.hid hz2
  clear hi hz0 hz1 hz2
  have HN4 := Lib.hid h0
  clear h0
  conv => arg 2; whnf
  go_loopw [16] (fun i wr => ∃ (m : Nat) (xs : List (Nt × Value)) (vn : Value), i = .int .i64 m ∧ xs.length + m ≤ nmax ∧ (∀ p ∈ xs, Fine k es (xOf ys fs) p.1) ∧ NI g w bD (bD + 1) k B1 B2 w4.heap.size (.slice (some ⟨gy, 0, none⟩) k cA) ys ve es vf fs vn xs wr) (fun i _ => (intOf i).toNat)
  case atStart => exact ⟨m0, [], _, rfl, by simpa using hm8, by simp, HN4.out⟩
  case round =>
    clear HN4
    obtain ⟨wo, rfl⟩ : ∃ wo : World, wo = wr := ⟨_, rfl⟩
    obtain ⟨m, xs, vn, rfl, hxm, hfine, hni⟩ := hrel
    have HN := Lib.hid hni
    have HF := Lib.hid hfine
    have hw4 : w.heap.size ≤ w4.heap.size := by have := hni.b1; have := hni.b2; have := hni.b3; omega
    clear hni hfine
    by_cases hmp : 0 < m
    · go_wp2_with fail
      refine wp_region_v [(fun j => j == 2 || j == 3 || j == 6 || j == 7 || j == 8 || j == 9, fun W => W.cell? ⟨bD, 0, none⟩ = some (.int .i64 k))] (by kernel_rfl) ?_
      refine wpAnyV_world (fun W => UrnAt W g ∧ Kg g wo W) ⟨HN.out.md.urn, (Kg.refl g wo).drew⟩ (fun V hV => ?_)
      have HV1 := Lib.hid hV.1
      have HV2 := Lib.hid hV.2
      clear hV
      refine wpAnyV_free (i := 0) (v := ?_) (by simp only [List.getElem?_toArray, List.getElem?_cons_zero]; rfl) (by kernel_rfl) (by kernel_rfl) (by kernel_rfl) (by kernel_rfl) (by exact fun c a w h => HQP.out c a _ _ w h) (Or.inl ⟨by rfl, ?hyq2⟩) (behind_cons (fun h => by simp at h) (fun p hp => by cases hp)) ?restq2
      case hyq2 => (intro W' _; go_simp; try with_reducible rfl)
      try simp only [Act.put, List.setIfInBounds_toArray, List.set_cons_zero, List.set_cons_succ]
      refine wpAnyV_free (i := 1) (v := ?_) (by simp only [List.getElem?_toArray, List.getElem?_cons_zero, List.getElem?_cons_succ]; rfl) (by kernel_rfl) (by kernel_rfl) (by kernel_rfl) (by kernel_rfl) (by exact fun c a w h => HQP.out c a _ _ w h) (Or.inl ⟨by rfl, ?hyq3⟩) (behind_cons (fun h => by simp at h) (fun p hp => by cases hp)) ?restq3
      case hyq3 => (intro W' _; go_simp; try with_reducible rfl)
      try simp only [Act.put, List.setIfInBounds_toArray, List.set_cons_zero, List.set_cons_succ]
      refine wpAnyV_free (i := 4) (v := ?_) (by simp only [List.getElem?_toArray, List.getElem?_cons_zero, List.getElem?_cons_succ]; rfl) (by kernel_rfl) (by kernel_rfl) (by kernel_rfl) (by kernel_rfl) (by exact fun c a w h => HQP.out c a _ _ w h) (Or.inl ⟨by rfl, ?hyq4⟩) (behind_cons (fun h => by simp at h) (fun p hp => by cases hp)) ?restq4
      case hyq4 => (intro W' _; go_simp; try with_reducible rfl)
      try simp only [Act.put, List.setIfInBounds_toArray, List.set_cons_zero, List.set_cons_succ]
      refine wpAnyV_free (i := 5) (v := ?_) (by simp only [List.getElem?_toArray, List.getElem?_cons_zero, List.getElem?_cons_succ]; rfl) (by kernel_rfl) (by kernel_rfl) (by kernel_rfl) (by kernel_rfl) (by exact fun c a w h => HQP.out c a _ _ w h) (Or.inl ⟨by rfl, ?hyq5⟩) (behind_cons (fun h => by simp at h) (fun p hp => by cases hp)) ?restq5
      case hyq5 => (intro W' _; go_simp; try with_reducible rfl)
      try simp only [Act.put, List.setIfInBounds_toArray, List.set_cons_zero, List.set_cons_succ]
      refine wpAnyV_take (i := 2) (m := 0) (v := ?_) (by simp only [List.getElem?_toArray, List.getElem?_cons_zero, List.getElem?_cons_succ]; rfl) (by rfl) (by kernel_rfl) (by kernel_rfl) (by kernel_rfl) (by kernel_rfl) (by exact fun c a w h => HQP.out c a _ _ w h) (Or.inl ⟨by rfl, ?hyq6⟩) ((HN.out.calls HV1.out HV2.out).md.dat.cell 0) (behind_cons (fun _ => ((HN.out.calls HV1.out HV2.out).md.dat.cell 0)) (fun p hp => by cases hp)) ?restq6
      case hyq6 => (intro W' hSW; go_simp; try with_reducible rfl)
      try simp only [Act.put, List.setIfInBounds_toArray, List.set_cons_zero, List.set_cons_succ]
      refine wpAnyV_take (i := 6) (m := 0) (v := ?_) (by simp only [List.getElem?_toArray, List.getElem?_cons_zero, List.getElem?_cons_succ]; rfl) (by rfl) (by kernel_rfl) (by kernel_rfl) (by kernel_rfl) (by kernel_rfl) (by exact fun c a w h => HQP.out c a _ _ w h) (Or.inl ⟨by rfl, ?hyq7⟩) ((HN.out.calls HV1.out HV2.out).md.dat.cell 0) (behind_cons (fun _ => ((HN.out.calls HV1.out HV2.out).md.dat.cell 0)) (fun p hp => by cases hp)) ?restq7
      case hyq7 => (intro W' hSW; go_simp; try with_reducible rfl)
      try simp only [Act.put, List.setIfInBounds_toArray, List.set_cons_zero, List.set_cons_succ]
      refine wpAnyV_ready (rs := [3]) (by kernel_rfl) (by simp) ?_
      refine AllReadyV.cons (by simp only [List.getElem?_toArray, List.getElem?_cons_zero, List.getElem?_cons_succ]; rfl) (fun K hK => ?_) AllReadyV.nil
      go_simp
      go_at_call 16
      refine (up_any _ _ _ (by omega) HV1.out).mono ?_
      rintro e w6 ⟨s, rfl, hs, hu, hk⟩
      have HU6 := Lib.hid hu
      have HK6 := Lib.hid (HV2.out.trans hk)
      clear hu hk
      refine hK.out _ _ (behind_cons (fun _ => ((HN.out.calls HU6.out HK6.out).md.dat.cell 0)) (fun p hp => by cases hp)) ?_
      clear hK K
      try simp only [Act.put, List.setIfInBounds_toArray, List.set_cons_zero, List.set_cons_succ]
      refine wpAnyV_ready (rs := [7]) (by kernel_rfl) (by simp) ?_
      refine AllReadyV.cons (by simp only [List.getElem?_toArray, List.getElem?_cons_zero, List.getElem?_cons_succ]; rfl) (fun K hK => ?_) AllReadyV.nil
      go_simp
      go_at_call 16
      refine (up_any _ _ _ (by omega) HU6.out).mono ?_
      rintro e w7 ⟨t, rfl, ht, hu, hk⟩
      have HU7 := Lib.hid hu
      have HK7 := Lib.hid (HK6.out.trans hk)
      clear hu hk
      refine hK.out _ _ (behind_cons (fun _ => ((HN.out.calls HU7.out HK7.out).md.dat.cell 0)) (fun p hp => by cases hp)) ?_
      clear hK K
      try simp only [Act.put, List.setIfInBounds_toArray, List.set_cons_zero, List.set_cons_succ]
      refine wpAnyV_free (i := 8) (v := ?_) (by simp only [List.getElem?_toArray, List.getElem?_cons_zero, List.getElem?_cons_succ]; rfl) (by kernel_rfl) (by kernel_rfl) (by kernel_rfl) (by kernel_rfl) (by exact fun c a w h => HQP.out c a _ _ w h) (Or.inl ⟨by rfl, ?hyq10⟩) (behind_cons (fun _ => ((HN.out.calls HU7.out HK7.out).md.dat.cell 0)) (fun p hp => by cases hp)) ?restq10
      case hyq10 => (intro W' _; go_simp; try with_reducible rfl)
      try simp only [Act.put, List.setIfInBounds_toArray, List.set_cons_zero, List.set_cons_succ]
      refine wpAnyV_free (i := 9) (v := ?_) (by simp only [List.getElem?_toArray, List.getElem?_cons_zero, List.getElem?_cons_succ]; rfl) (by kernel_rfl) (by kernel_rfl) (by kernel_rfl) (by kernel_rfl) (by exact fun c a w h => HQP.out c a _ _ w h) (Or.inl ⟨by rfl, ?hyq11⟩) (behind_cons (fun _ => ((HN.out.calls HU7.out HK7.out).md.dat.cell 0)) (fun p hp => by cases hp)) ?restq11
      case hyq11 => (intro W' _; go_simp; try with_reducible rfl)
      try simp only [Act.put, List.setIfInBounds_toArray, List.set_cons_zero, List.set_cons_succ]
      refine wpAnyV_done (by kernel_rfl) ?_ _
      have HN7 := Lib.hid (HN.out.calls HU7.out HK7.out)
      have hsl : s < k := by omega
      have htl : t < k := by omega
      obtain ⟨y, hy⟩ : ∃ y, ys[s]? = some y := ⟨_, List.getElem?_eq_getElem (by rw [HYL.out]; exact hsl)⟩
      have cy : w7.cell? ⟨gy, s, none⟩ = some (.int .i64 y) := by
        have h := HN7.out.oy
        unfold IntsO at h
        rw [HYL.out] at h
        rw [h.cellAt s (by omega)]
        simp [intCells, hy]
      have cw : w7.cell? ⟨bD + 1, 0, none⟩ = some (.slice (some ⟨gy, 0, none⟩) k cA) := HN7.out.md.whe.cell 0
      have hyb := HYS.out y (List.mem_of_getElem? hy)
      obtain ⟨y1, y2⟩ := hyb
      have HYK := Lib.hid hy
      clear hy hs ht
      go_upto_region 19 with (go_at_call 15; refine (from_any _ _ _ _ (by omega) (by omega) (by omega) (by omega) HU7.out).mono ?_; rintro e w8 ⟨kd, rfl, d1, d2, hu, hk⟩; have HU8 := Lib.hid hu; have HK8 := Lib.hid (HK7.out.trans hk); clear hu hk cy cw)
      obtain ⟨V, hV⟩ : ∃ V, V = w8.alloc (.cells #[.int .i64 kd, .int .i64 s, .int .i64 0, .slice none 0 0, .int .i64 0, .int .i64 0] 51) := ⟨_, rfl⟩
      have kx : Blok V w8.heap.size 51 [.int .i64 kd, .int .i64 s, .int .i64 0, .slice none 0 0, .int .i64 0, .int .i64 0] := by rw [hV]; exact Blok.new w8 _ _
      have hbx : wo.heap.size ≤ w8.heap.size := HK8.out.size
      have HUV : Hid (UrnAt V g) := Lib.hid (by rw [hV]; exact HU8.out.alloc _)
      have HKV : Hid (Kg g wo V) := Lib.hid (by rw [hV]; exact HK8.out.alloc _)
      rw [← hV]
      clear hV
      obtain ⟨bx, hbx2⟩ : ∃ bx, bx = w8.heap.size := ⟨_, rfl⟩
      rw [← hbx2] at kx hbx ⊢
      clear hbx2 HU8 HK8 HU7 HK7 HU6 HK6 HN7
      have HX := Lib.hid kx
      have x0 : V.cell? ⟨bx, 0, none⟩ = some (.int .i64 kd) := kx.cell 0
      have hxl := kx.size
      clear kx
      have hd : kd = 1 ∨ kd = 2 ∨ kd = 3 ∨ kd = 4 := by omega
      rcases hd with rfl | rfl | rfl | rfl
      · skip
        go_wp2_with fail
        refine (up_any _ _ _ (by omega) HUV.out).mono ?_
        rintro e w9 ⟨at_, rfl, hat, hu, hk⟩
        have hat2 : at_ ≤ 2 := by omega
        have hyi : YI g wo bx s w9.heap.size at_ 0 y (.slice none 0 0) [] w9 :=
          ⟨Yrs.nil _ _, HX.out.kg hk (HUV.out.ne HX.out (by decide)), World.ownsRow_nil _ _ _ _, hu, HKV.out.trans hk, by have h := HKV.out.size; have := hk.size; omega, Nat.le_refl _, hbx⟩
        have HY9 := Lib.hid hyi
        clear hyi hu hk hat x0
        go_wp2_with fail
        refine years_loop g far y wo w9 bx s at_ f1 f2 (by omega) (by omega) hat2 _ _ _ _ _ _ _ _ _ _ _ _ _ _ _ _ _ _ _ _ _ _ _ _ _ _ _ _ _ _ _ _ _ _ _ _ _ _ _ _ _ _ _ _ _ _ _ _ _ _ _ _ _ _ _ _ _ _ _ _ _ _ _ _ _ _ _ _ _ _ _ _ _ _ _ _ _ _ _ _ _ _ _ _ _ _ _ _ _ _ _ _ _ _ _ _ _ _ _ _ _ _ _ _ _ _ _ _ _ _ _ _ _ _ _ _ _ _ _ _ _ _ _ _ _ _ _ _ _ _ _ _ _ _ _ _ _ _ _ _ _ _ _ _ _ _ _ _ _ _ _ _ _ _ _ _ _ _ _ _ _ _ _ _ _ _ _ _ _ _ _ _ _ _ _ _ _ _ _ _ _ _ _ _ _ _ _ _ _ _ _ _ _ _ _ _ _ _ _ _ _ _ _ _ _ _ _ _ _ _ _ _ _ _ _ _ _ _ _ _ _ _ _ _ _ _ _ _ _ _ HY9.out ?_
        intro _ _ _ _ _ _ _ _ _ _ _ _ _ _ _ _ _ _ _ _ _ _ _ _ _ _ _ _ _ _ _ _ _ _ _ _ _ _ _ _ _ _ _ _ _ _ _ _ _ _ _ _ _ _ _ _ _ wr ⟨vx, l, hyi⟩
        have HYI := Lib.hid hyi
        clear hyi HY9
        obtain ⟨Ax, cx, rfl⟩ := own_slice HYI.out.own
        have hll := HYI.out.yrs.len
        have hxy : xOf ys fs (1 + s) = y := xOf_stone ys fs s y (by omega) HYK.out
        have HNt := Lib.hid (HN.out.calls HYI.out.urn HYI.out.kg)
        have lx := HYI.out.x.size
        have lD := HNt.out.md.dat.size
        have v0 : wr.cell? ⟨bx, 0, none⟩ = some (.int .i64 1) := HYI.out.x.cell 0
        have v1 : wr.cell? ⟨bx, 1, none⟩ = some (.int .i64 s) := HYI.out.x.cell 1
        have v2 : wr.cell? ⟨bx, 2, none⟩ = some (.int .i64 0) := HYI.out.x.cell 2
        have v3 : wr.cell? ⟨bx, 3, none⟩ = some (.slice Ax l.length cx) := HYI.out.x.cell 3
        have v4 : wr.cell? ⟨bx, 4, none⟩ = some (.int .i64 0) := HYI.out.x.cell 4
        have v5 : wr.cell? ⟨bx, 5, none⟩ = some (.int .i64 0) := HYI.out.x.cell 5
        have vd : wr.cell? ⟨bD, 2, none⟩ = some vn := HNt.out.md.dat.cell 2
        go_wp2_with (at_builtin; refine wpList_append_lies _ rfl _ _ 26 rfl w4.heap.size 51 k0 _ 6 64 Try.underlying26 HQ.out HQ0.out HQ1.out HQ2.out rfl (by decide) vn xs.length (cellsN xs) (by rfl) (HNt.out.on.alloc _) ⟨wr.heap.size, 0, none⟩ 1 1 [.int .i64 1, .int .i64 s, .int .i64 0, .slice Ax l.length cx, .int .i64 0, .int .i64 0] (by rfl) (by rfl) (World.news_of_block (cs := #[.int .i64 1, .int .i64 s, .int .i64 0, .slice Ax l.length cx, .int .i64 0, .int .i64 0]) (t := 51) (fr := (0, 0)) (heap_alloc_new wr _)) (by simp [Value.oneCell']) (by omega) (by unfold maxLen; omega) (by omega) (by have := HNt.out.size; simp; omega) _ rfl ?_; intro g8 c8 w8 hown8 hgrow8 hat8 hlt8; have hm8 := (HNt.out.alloc _).md.append (HNt.out.alloc _).on hgrow8 (by decide) (by omega); have q8 : w8.cell? ⟨bD, 2, none⟩ = some vn := hm8.dat.cell 2; have f8 := hm8.dat.free 2; have HO8 := Lib.hid hown8; have HG8 := Lib.hid hgrow8; clear hown8 hgrow8 hat8 hm8)
        go_roundw
        case rel => exact ⟨m - 1, xs ++ [(⟨1, s, 0, l, 0, 0⟩, (.slice Ax l.length cx))], _, by go_num, by simp; omega, (fun p hp => by
          rcases List.mem_append.1 hp with hp | hp
          · exact HF.out p hp
          · rw [List.mem_singleton.1 hp]
            exact HYI.out.yrs.fine hat2 hsl hxy), (HNt.out.alloc _).snoc (x := ⟨1, s, 0, l, 0, 0⟩) (v := (.slice Ax l.length cx)) ((HYI.out.own.alloc _).mono (by have := HN.out.size; have := HYI.out.b4; omega)) HG8.out HO8.out⟩
        case measure => simp [intOf]; omega
      · skip
        go_wp2_with fail
        refine (bracket_any _ _ _ _ (by omega) (by omega) (by omega) (by omega) HUV.out).mono ?_
        rintro e w9 ⟨lo, hi, rfl, l1, l2, l3, l4, l5, l6, hu, hk⟩
        have HXB := Lib.hid (HX.out.kg hk (HUV.out.ne HX.out (by decide)))
        have HUB := Lib.hid hu
        have HKB := Lib.hid (HKV.out.trans hk)
        clear hu hk
        have b4 : w9.cell? ⟨bx, 4, none⟩ = some (.int .i64 0) := HXB.out.cell 4
        have b5 : w9.cell? ⟨bx, 5, none⟩ = some (.int .i64 0) := HXB.out.cell 5
        have g4 := HXB.out.free 4
        have g5 := HXB.out.free 5
        go_upto_region 38 with fail
        clear b4 b5 g4 g5
        have hgx : g ≠ bx := HUB.out.ne' HXB.out (by decide)
        obtain ⟨U, hU⟩ : ∃ U, U = (w9.setCell ⟨bx, 4, none⟩ (.int .i64 lo)).setCell ⟨bx, 5, none⟩ (.int .i64 hi) := ⟨_, rfl⟩
        have HXU : Hid (Blok U bx 51 [.int .i64 2, .int .i64 s, .int .i64 0, .slice none 0 0, .int .i64 lo, .int .i64 hi]) := Lib.hid (by rw [hU]; exact (HXB.out.put 4 (.int .i64 lo)).put 5 (.int .i64 hi))
        have HUU : Hid (UrnAt U g) := Lib.hid (by rw [hU]; exact (HUB.out.far (by simp; exact hgx) _).far (by simp; exact hgx) _)
        have HKU : Hid (Kg g wo U) := Lib.hid (by rw [hU]; exact (HKB.out.putNew hbx _).putNew hbx _)
        rw [← hU]
        clear hU
        have vN : IntsO U w4.heap.size (.slice none 0 0) [] := World.ownsRow_nil _ _ _ _
        have hxy : xOf ys fs (1 + s) = y := xOf_stone ys fs s y (by omega) HYK.out
        have HNt := Lib.hid (HN.out.calls HUU.out HKU.out)
        have lx := HXU.out.size
        have lD := HNt.out.md.dat.size
        have v0 : U.cell? ⟨bx, 0, none⟩ = some (.int .i64 2) := HXU.out.cell 0
        have v1 : U.cell? ⟨bx, 1, none⟩ = some (.int .i64 s) := HXU.out.cell 1
        have v2 : U.cell? ⟨bx, 2, none⟩ = some (.int .i64 0) := HXU.out.cell 2
        have v3 : U.cell? ⟨bx, 3, none⟩ = some (.slice none 0 0) := HXU.out.cell 3
        have v4 : U.cell? ⟨bx, 4, none⟩ = some (.int .i64 lo) := HXU.out.cell 4
        have v5 : U.cell? ⟨bx, 5, none⟩ = some (.int .i64 hi) := HXU.out.cell 5
        have vd : U.cell? ⟨bD, 2, none⟩ = some vn := HNt.out.md.dat.cell 2
        go_wp2_with (at_builtin; refine wpList_append_lies _ rfl _ _ 26 rfl w4.heap.size 51 k0 _ 6 64 Try.underlying26 HQ.out HQ0.out HQ1.out HQ2.out rfl (by decide) vn xs.length (cellsN xs) (by rfl) (HNt.out.on.alloc _) ⟨U.heap.size, 0, none⟩ 1 1 [.int .i64 2, .int .i64 s, .int .i64 0, .slice none 0 0, .int .i64 lo, .int .i64 hi] (by rfl) (by rfl) (World.news_of_block (cs := #[.int .i64 2, .int .i64 s, .int .i64 0, .slice none 0 0, .int .i64 lo, .int .i64 hi]) (t := 51) (fr := (0, 0)) (heap_alloc_new U _)) (by simp [Value.oneCell']) (by omega) (by unfold maxLen; omega) (by omega) (by have := HNt.out.size; simp; omega) _ rfl ?_; intro g8 c8 w8 hown8 hgrow8 hat8 hlt8; have hm8 := (HNt.out.alloc _).md.append (HNt.out.alloc _).on hgrow8 (by decide) (by omega); have q8 : w8.cell? ⟨bD, 2, none⟩ = some vn := hm8.dat.cell 2; have f8 := hm8.dat.free 2; have HO8 := Lib.hid hown8; have HG8 := Lib.hid hgrow8; clear hown8 hgrow8 hat8 hm8)
        go_roundw
        case rel => exact ⟨m - 1, xs ++ [(⟨2, s, 0, [], lo, hi⟩, (.slice none 0 0))], _, by go_num, by simp; omega, (fun p hp => by
          rcases List.mem_append.1 hp with hp | hp
          · exact HF.out p hp
          · rw [List.mem_singleton.1 hp]
            exact fine_span hsl (by omega) (by rw [hxy]; exact l2) (by rw [hxy]; exact l3) (by omega)), (HNt.out.alloc _).snoc (x := ⟨2, s, 0, [], lo, hi⟩) (v := (.slice none 0 0)) (vN.alloc _) HG8.out HO8.out⟩
        case measure => simp [intOf]; omega
      · skip
        have HNV := Lib.hid (HN.out.calls HUV.out HKV.out)
        obtain ⟨Ae, ce, hve⟩ := own_slice HN.out.oe
        have d1 : V.cell? ⟨bD, 1, none⟩ = some (.slice Ae es.length ce) := hve ▸ HNV.out.md.dat.cell 1
        have lDV := HNV.out.md.dat.size
        by_cases he0 : es.length = 0
        · rw [he0] at d1
          have h0 := HX.out.free 0
          go_upto_region 21 with fail
          clear h0 x0
          have hgx0 : g ≠ bx := HUV.out.ne' HX.out (by decide)
          obtain ⟨V2, hU⟩ : ∃ V2, V2 = V.setCell ⟨bx, 0, none⟩ (.int .i64 2) := ⟨_, rfl⟩
          have HXV2 : Hid (Blok V2 bx 51 [.int .i64 2, .int .i64 s, .int .i64 0, .slice none 0 0, .int .i64 0, .int .i64 0]) := Lib.hid (by rw [hU]; exact HX.out.put 0 (.int .i64 2))
          have HUV2 : Hid (UrnAt V2 g) := Lib.hid (by rw [hU]; exact HUV.out.far (by simp; exact hgx0) _)
          have HKV2 : Hid (Kg g wo V2) := Lib.hid (by rw [hU]; exact HKV.out.putNew hbx _)
          rw [← hU]
          clear hU
          have x0 : V2.cell? ⟨bx, 0, none⟩ = some (.int .i64 2) := HXV2.out.cell 0
          have hxl2 := HXV2.out.size
          clear HX HUV HKV hxl hgx0
          have HX := HXV2
          have HUV := HUV2
          have HKV := HKV2
          clear HXV2 HUV2 HKV2
          go_wp2_with fail
          refine (bracket_any _ _ _ _ (by omega) (by omega) (by omega) (by omega) HUV.out).mono ?_
          rintro e w9 ⟨lo, hi, rfl, l1, l2, l3, l4, l5, l6, hu, hk⟩
          have HXB := Lib.hid (HX.out.kg hk (HUV.out.ne HX.out (by decide)))
          have HUB := Lib.hid hu
          have HKB := Lib.hid (HKV.out.trans hk)
          clear hu hk
          have b4 : w9.cell? ⟨bx, 4, none⟩ = some (.int .i64 0) := HXB.out.cell 4
          have b5 : w9.cell? ⟨bx, 5, none⟩ = some (.int .i64 0) := HXB.out.cell 5
          have g4 := HXB.out.free 4
          have g5 := HXB.out.free 5
          go_upto_region 38 with fail
          clear b4 b5 g4 g5
          have hgx : g ≠ bx := HUB.out.ne' HXB.out (by decide)
          obtain ⟨U, hU⟩ : ∃ U, U = (w9.setCell ⟨bx, 4, none⟩ (.int .i64 lo)).setCell ⟨bx, 5, none⟩ (.int .i64 hi) := ⟨_, rfl⟩
          have HXU : Hid (Blok U bx 51 [.int .i64 2, .int .i64 s, .int .i64 0, .slice none 0 0, .int .i64 lo, .int .i64 hi]) := Lib.hid (by rw [hU]; exact (HXB.out.put 4 (.int .i64 lo)).put 5 (.int .i64 hi))
          have HUU : Hid (UrnAt U g) := Lib.hid (by rw [hU]; exact (HUB.out.far (by simp; exact hgx) _).far (by simp; exact hgx) _)
          have HKU : Hid (Kg g wo U) := Lib.hid (by rw [hU]; exact (HKB.out.putNew hbx _).putNew hbx _)
          rw [← hU]
          clear hU
          have vN : IntsO U w4.heap.size (.slice none 0 0) [] := World.ownsRow_nil _ _ _ _
          have hxy : xOf ys fs (1 + s) = y := xOf_stone ys fs s y (by omega) HYK.out
          have HNt := Lib.hid (HN.out.calls HUU.out HKU.out)
          have lx := HXU.out.size
          have lD := HNt.out.md.dat.size
          have v0 : U.cell? ⟨bx, 0, none⟩ = some (.int .i64 2) := HXU.out.cell 0
          have v1 : U.cell? ⟨bx, 1, none⟩ = some (.int .i64 s) := HXU.out.cell 1
          have v2 : U.cell? ⟨bx, 2, none⟩ = some (.int .i64 0) := HXU.out.cell 2
          have v3 : U.cell? ⟨bx, 3, none⟩ = some (.slice none 0 0) := HXU.out.cell 3
          have v4 : U.cell? ⟨bx, 4, none⟩ = some (.int .i64 lo) := HXU.out.cell 4
          have v5 : U.cell? ⟨bx, 5, none⟩ = some (.int .i64 hi) := HXU.out.cell 5
          have vd : U.cell? ⟨bD, 2, none⟩ = some vn := HNt.out.md.dat.cell 2
          go_wp2_with (at_builtin; refine wpList_append_lies _ rfl _ _ 26 rfl w4.heap.size 51 k0 _ 6 64 Try.underlying26 HQ.out HQ0.out HQ1.out HQ2.out rfl (by decide) vn xs.length (cellsN xs) (by rfl) (HNt.out.on.alloc _) ⟨U.heap.size, 0, none⟩ 1 1 [.int .i64 2, .int .i64 s, .int .i64 0, .slice none 0 0, .int .i64 lo, .int .i64 hi] (by rfl) (by rfl) (World.news_of_block (cs := #[.int .i64 2, .int .i64 s, .int .i64 0, .slice none 0 0, .int .i64 lo, .int .i64 hi]) (t := 51) (fr := (0, 0)) (heap_alloc_new U _)) (by simp [Value.oneCell']) (by omega) (by unfold maxLen; omega) (by omega) (by have := HNt.out.size; simp; omega) _ rfl ?_; intro g8 c8 w8 hown8 hgrow8 hat8 hlt8; have hm8 := (HNt.out.alloc _).md.append (HNt.out.alloc _).on hgrow8 (by decide) (by omega); have q8 : w8.cell? ⟨bD, 2, none⟩ = some vn := hm8.dat.cell 2; have f8 := hm8.dat.free 2; have HO8 := Lib.hid hown8; have HG8 := Lib.hid hgrow8; clear hown8 hgrow8 hat8 hm8)
          go_roundw
          case rel => exact ⟨m - 1, xs ++ [(⟨2, s, 0, [], lo, hi⟩, (.slice none 0 0))], _, by go_num, by simp; omega, (fun p hp => by
            rcases List.mem_append.1 hp with hp | hp
            · exact HF.out p hp
            · rw [List.mem_singleton.1 hp]
              exact fine_span hsl (by omega) (by rw [hxy]; exact l2) (by rw [hxy]; exact l3) (by omega)), (HNt.out.alloc _).snoc (x := ⟨2, s, 0, [], lo, hi⟩) (v := (.slice none 0 0)) (vN.alloc _) HG8.out HO8.out⟩
          case measure => simp [intOf]; omega
        · have hen : ((es.length : Int) == 0) = false := by rw [beq_eq_false_iff_ne]; omega
          go_wp2_with fail
          refine (up_any _ _ _ (by omega) HUV.out).mono ?_
          rintro e w10 ⟨q, rfl, hq, hu, hk⟩
          have hq1 : q < es.length := by omega
          have HX10 := Lib.hid (HX.out.kg hk (HUV.out.ne HX.out (by decide)))
          have HU10 := Lib.hid hu
          have HK10 := Lib.hid (HKV.out.trans hk)
          clear hu hk d1 x0 hq
          have b2 : w10.cell? ⟨bx, 2, none⟩ = some (.int .i64 0) := HX10.out.cell 2
          have g2 := HX10.out.free 2
          go_upto_region 36 with fail
          clear b2 g2
          have hgx0 : g ≠ bx := HU10.out.ne' HX10.out (by decide)
          obtain ⟨V3, hU⟩ : ∃ V3, V3 = w10.setCell ⟨bx, 2, none⟩ (.int .i64 q) := ⟨_, rfl⟩
          have HXV3 : Hid (Blok V3 bx 51 [.int .i64 3, .int .i64 s, .int .i64 q, .slice none 0 0, .int .i64 0, .int .i64 0]) := Lib.hid (by rw [hU]; exact HX10.out.put 2 (.int .i64 q))
          have HUV3 : Hid (UrnAt V3 g) := Lib.hid (by rw [hU]; exact HU10.out.far (by simp; exact hgx0) _)
          have HKV3 : Hid (Kg g wo V3) := Lib.hid (by rw [hU]; exact HK10.out.putNew hbx _)
          rw [← hU]
          clear hU
          have HN3 := Lib.hid (HN.out.calls HUV3.out HKV3.out)
          have hfl := HE.out.len
          obtain ⟨fv, hfv⟩ : ∃ fv, fs[q]? = some fv := ⟨_, List.getElem?_eq_getElem (by omega)⟩
          have hff := HE.out.first fv (List.mem_of_getElem? hfv)
          obtain ⟨ff1, ff2⟩ := hff
          obtain ⟨Af, cf, rfl⟩ := own_slice HN.out.of
          obtain ⟨gf, rfl⟩ := own_addr HN.out.of (by omega)
          have cF : V3.cell? ⟨gf, q, none⟩ = some (.int .i64 fv) := by
            rw [HN3.out.of.cellAt q (by omega)]
            simp [intCells, hfv]
          have cW : V3.cell? ⟨bD + 1, 1, none⟩ = some (.slice (some ⟨gf, 0, none⟩) fs.length cf) := HN3.out.md.whe.cell 1
          have cO : V3.cell? ⟨bx, 2, none⟩ = some (.int .i64 q) := HXV3.out.cell 2
          have hqf : q < fs.length := by omega
          have HFV := Lib.hid hfv
          clear hfv hfl HX10 HU10 HK10 hgx0 HNV
          go_wp2_with fail
          refine (bracket_any _ _ _ _ (by omega) (by omega) (by omega) (by omega) HUV3.out).mono ?_
          rintro e w9 ⟨lo, hi, rfl, l1, l2, l3, l4, l5, l6, hu, hk⟩
          have HXB := Lib.hid (HXV3.out.kg hk (HUV3.out.ne HXV3.out (by decide)))
          have HUB := Lib.hid hu
          have HKB := Lib.hid (HKV3.out.trans hk)
          clear hu hk
          have b4 : w9.cell? ⟨bx, 4, none⟩ = some (.int .i64 0) := HXB.out.cell 4
          have b5 : w9.cell? ⟨bx, 5, none⟩ = some (.int .i64 0) := HXB.out.cell 5
          have g4 := HXB.out.free 4
          have g5 := HXB.out.free 5
          clear cF cW cO
          go_upto_region 37 with fail
          clear b4 b5 g4 g5
          have hgx0 : g ≠ bx := HUB.out.ne' HXB.out (by decide)
          obtain ⟨V4, hU⟩ : ∃ V4, V4 = (w9.setCell ⟨bx, 4, none⟩ (.int .i64 lo)).setCell ⟨bx, 5, none⟩ (.int .i64 hi) := ⟨_, rfl⟩
          have HXV4 : Hid (Blok V4 bx 51 [.int .i64 3, .int .i64 s, .int .i64 q, .slice none 0 0, .int .i64 lo, .int .i64 hi]) := Lib.hid (by rw [hU]; exact (HXB.out.put 4 (.int .i64 lo)).put 5 (.int .i64 hi))
          have HUV4 : Hid (UrnAt V4 g) := Lib.hid (by rw [hU]; exact (HUB.out.far (by simp; exact hgx0) _).far (by simp; exact hgx0) _)
          have HKV4 : Hid (Kg g wo V4) := Lib.hid (by rw [hU]; exact (HKB.out.putNew hbx _).putNew hbx _)
          rw [← hU]
          clear hU
          have cL : V4.cell? ⟨bx, 4, none⟩ = some (.int .i64 lo) := HXV4.out.cell 4
          have fL := HXV4.out.free 4
          have hxl4 := HXV4.out.size
          clear HXB HUB HKB
          have hxy : xOf ys fs (1 + s) = y := xOf_stone ys fs s y (by omega) HYK.out
          have hxf : xOf ys fs (7 + q) = fv := xOf_era ys fs q fv HFV.out
          by_cases hlo : 1 < lo
          · go_upto_region 38 with fail
            clear cL fL
            obtain ⟨U, hU⟩ : ∃ U, U = V4.setCell ⟨bx, 4, none⟩ (.int .i64 lo) := ⟨_, rfl⟩
            have HXU : Hid (Blok U bx 51 [.int .i64 3, .int .i64 s, .int .i64 q, .slice none 0 0, .int .i64 lo, .int .i64 hi]) := Lib.hid (by rw [hU]; exact HXV4.out.put 4 (.int .i64 lo))
            have HUU : Hid (UrnAt U g) := Lib.hid (by rw [hU]; exact HUV4.out.far (by simp; exact hgx0) _)
            have HKU : Hid (Kg g wo U) := Lib.hid (by rw [hU]; exact HKV4.out.putNew hbx _)
            rw [← hU]
            clear hU
            have vN : IntsO U w4.heap.size (.slice none 0 0) [] := World.ownsRow_nil _ _ _ _
            have HNt := Lib.hid (HN.out.calls HUU.out HKU.out)
            have lx := HXU.out.size
            have lD := HNt.out.md.dat.size
            have v0 : U.cell? ⟨bx, 0, none⟩ = some (.int .i64 3) := HXU.out.cell 0
            have v1 : U.cell? ⟨bx, 1, none⟩ = some (.int .i64 s) := HXU.out.cell 1
            have v2 : U.cell? ⟨bx, 2, none⟩ = some (.int .i64 q) := HXU.out.cell 2
            have v3 : U.cell? ⟨bx, 3, none⟩ = some (.slice none 0 0) := HXU.out.cell 3
            have v4 : U.cell? ⟨bx, 4, none⟩ = some (.int .i64 lo) := HXU.out.cell 4
            have v5 : U.cell? ⟨bx, 5, none⟩ = some (.int .i64 hi) := HXU.out.cell 5
            have vd : U.cell? ⟨bD, 2, none⟩ = some vn := HNt.out.md.dat.cell 2
            go_wp2_with (at_builtin; refine wpList_append_lies _ rfl _ _ 26 rfl w4.heap.size 51 k0 _ 6 64 Try.underlying26 HQ.out HQ0.out HQ1.out HQ2.out rfl (by decide) vn xs.length (cellsN xs) (by rfl) (HNt.out.on.alloc _) ⟨U.heap.size, 0, none⟩ 1 1 [.int .i64 3, .int .i64 s, .int .i64 q, .slice none 0 0, .int .i64 lo, .int .i64 hi] (by rfl) (by rfl) (World.news_of_block (cs := #[.int .i64 3, .int .i64 s, .int .i64 q, .slice none 0 0, .int .i64 lo, .int .i64 hi]) (t := 51) (fr := (0, 0)) (heap_alloc_new U _)) (by simp [Value.oneCell']) (by omega) (by unfold maxLen; omega) (by omega) (by have := HNt.out.size; simp; omega) _ rfl ?_; intro g8 c8 w8 hown8 hgrow8 hat8 hlt8; have hm8 := (HNt.out.alloc _).md.append (HNt.out.alloc _).on hgrow8 (by decide) (by omega); have q8 : w8.cell? ⟨bD, 2, none⟩ = some vn := hm8.dat.cell 2; have f8 := hm8.dat.free 2; have HO8 := Lib.hid hown8; have HG8 := Lib.hid hgrow8; clear hown8 hgrow8 hat8 hm8)
            go_roundw
            case rel => exact ⟨m - 1, xs ++ [(⟨3, s, q, [], lo, hi⟩, (.slice none 0 0))], _, by go_num, by simp; omega, (fun p hp => by
              rcases List.mem_append.1 hp with hp | hp
              · exact HF.out p hp
              · rw [List.mem_singleton.1 hp]
                exact fine_era hsl hq1 (by omega) (by rw [hxy, hxf]; omega) (by rw [hxy, hxf]; omega) (by omega)), (HNt.out.alloc _).snoc (x := ⟨3, s, q, [], lo, hi⟩) (v := (.slice none 0 0)) (vN.alloc _) HG8.out HO8.out⟩
            case measure => simp [intOf]; omega
          · go_upto_region 38 with fail
            clear cL fL
            obtain ⟨U, hU⟩ : ∃ U, U = V4.setCell ⟨bx, 4, none⟩ (.int .i64 1) := ⟨_, rfl⟩
            have HXU : Hid (Blok U bx 51 [.int .i64 3, .int .i64 s, .int .i64 q, .slice none 0 0, .int .i64 1, .int .i64 hi]) := Lib.hid (by rw [hU]; exact HXV4.out.put 4 (.int .i64 1))
            have HUU : Hid (UrnAt U g) := Lib.hid (by rw [hU]; exact HUV4.out.far (by simp; exact hgx0) _)
            have HKU : Hid (Kg g wo U) := Lib.hid (by rw [hU]; exact HKV4.out.putNew hbx _)
            rw [← hU]
            clear hU
            have vN : IntsO U w4.heap.size (.slice none 0 0) [] := World.ownsRow_nil _ _ _ _
            have HNt := Lib.hid (HN.out.calls HUU.out HKU.out)
            have lx := HXU.out.size
            have lD := HNt.out.md.dat.size
            have v0 : U.cell? ⟨bx, 0, none⟩ = some (.int .i64 3) := HXU.out.cell 0
            have v1 : U.cell? ⟨bx, 1, none⟩ = some (.int .i64 s) := HXU.out.cell 1
            have v2 : U.cell? ⟨bx, 2, none⟩ = some (.int .i64 q) := HXU.out.cell 2
            have v3 : U.cell? ⟨bx, 3, none⟩ = some (.slice none 0 0) := HXU.out.cell 3
            have v4 : U.cell? ⟨bx, 4, none⟩ = some (.int .i64 1) := HXU.out.cell 4
            have v5 : U.cell? ⟨bx, 5, none⟩ = some (.int .i64 hi) := HXU.out.cell 5
            have vd : U.cell? ⟨bD, 2, none⟩ = some vn := HNt.out.md.dat.cell 2
            go_wp2_with (at_builtin; refine wpList_append_lies _ rfl _ _ 26 rfl w4.heap.size 51 k0 _ 6 64 Try.underlying26 HQ.out HQ0.out HQ1.out HQ2.out rfl (by decide) vn xs.length (cellsN xs) (by rfl) (HNt.out.on.alloc _) ⟨U.heap.size, 0, none⟩ 1 1 [.int .i64 3, .int .i64 s, .int .i64 q, .slice none 0 0, .int .i64 1, .int .i64 hi] (by rfl) (by rfl) (World.news_of_block (cs := #[.int .i64 3, .int .i64 s, .int .i64 q, .slice none 0 0, .int .i64 1, .int .i64 hi]) (t := 51) (fr := (0, 0)) (heap_alloc_new U _)) (by simp [Value.oneCell']) (by omega) (by unfold maxLen; omega) (by omega) (by have := HNt.out.size; simp; omega) _ rfl ?_; intro g8 c8 w8 hown8 hgrow8 hat8 hlt8; have hm8 := (HNt.out.alloc _).md.append (HNt.out.alloc _).on hgrow8 (by decide) (by omega); have q8 : w8.cell? ⟨bD, 2, none⟩ = some vn := hm8.dat.cell 2; have f8 := hm8.dat.free 2; have HO8 := Lib.hid hown8; have HG8 := Lib.hid hgrow8; clear hown8 hgrow8 hat8 hm8)
            go_roundw
            case rel => exact ⟨m - 1, xs ++ [(⟨3, s, q, [], 1, hi⟩, (.slice none 0 0))], _, by go_num, by simp; omega, (fun p hp => by
              rcases List.mem_append.1 hp with hp | hp
              · exact HF.out p hp
              · rw [List.mem_singleton.1 hp]
                exact fine_era hsl hq1 (by omega) (by rw [hxy, hxf]; omega) (by rw [hxy, hxf]; omega) (by omega)), (HNt.out.alloc _).snoc (x := ⟨3, s, q, [], 1, hi⟩) (v := (.slice none 0 0)) (vN.alloc _) HG8.out HO8.out⟩
            case measure => simp [intOf]; omega
      · skip
        by_cases hst : s = t
        · subst hst
          have h0 := HX.out.free 0
          go_upto_region 21 with fail
          clear h0 x0
          have hgx0 : g ≠ bx := HUV.out.ne' HX.out (by decide)
          obtain ⟨V2, hU⟩ : ∃ V2, V2 = V.setCell ⟨bx, 0, none⟩ (.int .i64 2) := ⟨_, rfl⟩
          have HXV2 : Hid (Blok V2 bx 51 [.int .i64 2, .int .i64 s, .int .i64 0, .slice none 0 0, .int .i64 0, .int .i64 0]) := Lib.hid (by rw [hU]; exact HX.out.put 0 (.int .i64 2))
          have HUV2 : Hid (UrnAt V2 g) := Lib.hid (by rw [hU]; exact HUV.out.far (by simp; exact hgx0) _)
          have HKV2 : Hid (Kg g wo V2) := Lib.hid (by rw [hU]; exact HKV.out.putNew hbx _)
          rw [← hU]
          clear hU
          have x0 : V2.cell? ⟨bx, 0, none⟩ = some (.int .i64 2) := HXV2.out.cell 0
          have hxl2 := HXV2.out.size
          clear HX HUV HKV hxl hgx0
          have HX := HXV2
          have HUV := HUV2
          have HKV := HKV2
          clear HXV2 HUV2 HKV2
          go_wp2_with fail
          refine (bracket_any _ _ _ _ (by omega) (by omega) (by omega) (by omega) HUV.out).mono ?_
          rintro e w9 ⟨lo, hi, rfl, l1, l2, l3, l4, l5, l6, hu, hk⟩
          have HXB := Lib.hid (HX.out.kg hk (HUV.out.ne HX.out (by decide)))
          have HUB := Lib.hid hu
          have HKB := Lib.hid (HKV.out.trans hk)
          clear hu hk
          have b4 : w9.cell? ⟨bx, 4, none⟩ = some (.int .i64 0) := HXB.out.cell 4
          have b5 : w9.cell? ⟨bx, 5, none⟩ = some (.int .i64 0) := HXB.out.cell 5
          have g4 := HXB.out.free 4
          have g5 := HXB.out.free 5
          go_upto_region 38 with fail
          clear b4 b5 g4 g5
          have hgx : g ≠ bx := HUB.out.ne' HXB.out (by decide)
          obtain ⟨U, hU⟩ : ∃ U, U = (w9.setCell ⟨bx, 4, none⟩ (.int .i64 lo)).setCell ⟨bx, 5, none⟩ (.int .i64 hi) := ⟨_, rfl⟩
          have HXU : Hid (Blok U bx 51 [.int .i64 2, .int .i64 s, .int .i64 0, .slice none 0 0, .int .i64 lo, .int .i64 hi]) := Lib.hid (by rw [hU]; exact (HXB.out.put 4 (.int .i64 lo)).put 5 (.int .i64 hi))
          have HUU : Hid (UrnAt U g) := Lib.hid (by rw [hU]; exact (HUB.out.far (by simp; exact hgx) _).far (by simp; exact hgx) _)
          have HKU : Hid (Kg g wo U) := Lib.hid (by rw [hU]; exact (HKB.out.putNew hbx _).putNew hbx _)
          rw [← hU]
          clear hU
          have vN : IntsO U w4.heap.size (.slice none 0 0) [] := World.ownsRow_nil _ _ _ _
          have hxy : xOf ys fs (1 + s) = y := xOf_stone ys fs s y (by omega) HYK.out
          have HNt := Lib.hid (HN.out.calls HUU.out HKU.out)
          have lx := HXU.out.size
          have lD := HNt.out.md.dat.size
          have v0 : U.cell? ⟨bx, 0, none⟩ = some (.int .i64 2) := HXU.out.cell 0
          have v1 : U.cell? ⟨bx, 1, none⟩ = some (.int .i64 s) := HXU.out.cell 1
          have v2 : U.cell? ⟨bx, 2, none⟩ = some (.int .i64 0) := HXU.out.cell 2
          have v3 : U.cell? ⟨bx, 3, none⟩ = some (.slice none 0 0) := HXU.out.cell 3
          have v4 : U.cell? ⟨bx, 4, none⟩ = some (.int .i64 lo) := HXU.out.cell 4
          have v5 : U.cell? ⟨bx, 5, none⟩ = some (.int .i64 hi) := HXU.out.cell 5
          have vd : U.cell? ⟨bD, 2, none⟩ = some vn := HNt.out.md.dat.cell 2
          go_wp2_with (at_builtin; refine wpList_append_lies _ rfl _ _ 26 rfl w4.heap.size 51 k0 _ 6 64 Try.underlying26 HQ.out HQ0.out HQ1.out HQ2.out rfl (by decide) vn xs.length (cellsN xs) (by rfl) (HNt.out.on.alloc _) ⟨U.heap.size, 0, none⟩ 1 1 [.int .i64 2, .int .i64 s, .int .i64 0, .slice none 0 0, .int .i64 lo, .int .i64 hi] (by rfl) (by rfl) (World.news_of_block (cs := #[.int .i64 2, .int .i64 s, .int .i64 0, .slice none 0 0, .int .i64 lo, .int .i64 hi]) (t := 51) (fr := (0, 0)) (heap_alloc_new U _)) (by simp [Value.oneCell']) (by omega) (by unfold maxLen; omega) (by omega) (by have := HNt.out.size; simp; omega) _ rfl ?_; intro g8 c8 w8 hown8 hgrow8 hat8 hlt8; have hm8 := (HNt.out.alloc _).md.append (HNt.out.alloc _).on hgrow8 (by decide) (by omega); have q8 : w8.cell? ⟨bD, 2, none⟩ = some vn := hm8.dat.cell 2; have f8 := hm8.dat.free 2; have HO8 := Lib.hid hown8; have HG8 := Lib.hid hgrow8; clear hown8 hgrow8 hat8 hm8)
          go_roundw
          case rel => exact ⟨m - 1, xs ++ [(⟨2, s, 0, [], lo, hi⟩, (.slice none 0 0))], _, by go_num, by simp; omega, (fun p hp => by
            rcases List.mem_append.1 hp with hp | hp
            · exact HF.out p hp
            · rw [List.mem_singleton.1 hp]
              exact fine_span hsl (by omega) (by rw [hxy]; exact l2) (by rw [hxy]; exact l3) (by omega)), (HNt.out.alloc _).snoc (x := ⟨2, s, 0, [], lo, hi⟩) (v := (.slice none 0 0)) (vN.alloc _) HG8.out HO8.out⟩
          case measure => simp [intOf]; omega
        · have hst2 : ((s : Int) == (t : Int)) = false := by rw [beq_eq_false_iff_ne]; omega
          have b2 : V.cell? ⟨bx, 2, none⟩ = some (.int .i64 0) := HX.out.cell 2
          have g2 := HX.out.free 2
          go_upto_region 23 with fail
          clear b2 g2 x0
          have hgx0 : g ≠ bx := HUV.out.ne' HX.out (by decide)
          obtain ⟨V3, hU⟩ : ∃ V3, V3 = V.setCell ⟨bx, 2, none⟩ (.int .i64 t) := ⟨_, rfl⟩
          have HXV3 : Hid (Blok V3 bx 51 [.int .i64 4, .int .i64 s, .int .i64 t, .slice none 0 0, .int .i64 0, .int .i64 0]) := Lib.hid (by rw [hU]; exact HX.out.put 2 (.int .i64 t))
          have HUV3 : Hid (UrnAt V3 g) := Lib.hid (by rw [hU]; exact HUV.out.far (by simp; exact hgx0) _)
          have HKV3 : Hid (Kg g wo V3) := Lib.hid (by rw [hU]; exact HKV.out.putNew hbx _)
          rw [← hU]
          clear hU
          have HN3 := Lib.hid (HN.out.calls HUV3.out HKV3.out)
          obtain ⟨z, hz⟩ : ∃ z, ys[t]? = some z := ⟨_, List.getElem?_eq_getElem (by rw [HYL.out]; exact htl)⟩
          have hzz := HYS.out z (List.mem_of_getElem? hz)
          obtain ⟨zz1, zz2⟩ := hzz
          have cz : V3.cell? ⟨gy, t, none⟩ = some (.int .i64 z) := by
            have h := HN3.out.oy
            unfold IntsO at h
            rw [HYL.out] at h
            rw [h.cellAt t (by omega)]
            simp [intCells, hz]
          have cw : V3.cell? ⟨bD + 1, 0, none⟩ = some (.slice (some ⟨gy, 0, none⟩) k cA) := HN3.out.md.whe.cell 0
          have HZK := Lib.hid hz
          clear hz hgx0
          go_wp2_with fail
          refine (bracket_any _ _ _ _ (by omega) (by omega) (by omega) (by omega) HUV3.out).mono ?_
          rintro e w9 ⟨lo, hi, rfl, l1, l2, l3, l4, l5, l6, hu, hk⟩
          have HXB := Lib.hid (HXV3.out.kg hk (HUV3.out.ne HXV3.out (by decide)))
          have HUB := Lib.hid hu
          have HKB := Lib.hid (HKV3.out.trans hk)
          clear hu hk
          have b4 : w9.cell? ⟨bx, 4, none⟩ = some (.int .i64 0) := HXB.out.cell 4
          have b5 : w9.cell? ⟨bx, 5, none⟩ = some (.int .i64 0) := HXB.out.cell 5
          have g4 := HXB.out.free 4
          have g5 := HXB.out.free 5
          clear cz cw
          have hxz : xOf ys fs (1 + t) = z := xOf_stone ys fs t z (by omega) HZK.out
          go_upto_region 38 with fail
          clear b4 b5 g4 g5
          have hgx : g ≠ bx := HUB.out.ne' HXB.out (by decide)
          obtain ⟨U, hU⟩ : ∃ U, U = (w9.setCell ⟨bx, 4, none⟩ (.int .i64 lo)).setCell ⟨bx, 5, none⟩ (.int .i64 hi) := ⟨_, rfl⟩
          have HXU : Hid (Blok U bx 51 [.int .i64 4, .int .i64 s, .int .i64 t, .slice none 0 0, .int .i64 lo, .int .i64 hi]) := Lib.hid (by rw [hU]; exact (HXB.out.put 4 (.int .i64 lo)).put 5 (.int .i64 hi))
          have HUU : Hid (UrnAt U g) := Lib.hid (by rw [hU]; exact (HUB.out.far (by simp; exact hgx) _).far (by simp; exact hgx) _)
          have HKU : Hid (Kg g wo U) := Lib.hid (by rw [hU]; exact (HKB.out.putNew hbx _).putNew hbx _)
          rw [← hU]
          clear hU
          have vN : IntsO U w4.heap.size (.slice none 0 0) [] := World.ownsRow_nil _ _ _ _
          have hxy : xOf ys fs (1 + s) = y := xOf_stone ys fs s y (by omega) HYK.out
          have HNt := Lib.hid (HN.out.calls HUU.out HKU.out)
          have lx := HXU.out.size
          have lD := HNt.out.md.dat.size
          have v0 : U.cell? ⟨bx, 0, none⟩ = some (.int .i64 4) := HXU.out.cell 0
          have v1 : U.cell? ⟨bx, 1, none⟩ = some (.int .i64 s) := HXU.out.cell 1
          have v2 : U.cell? ⟨bx, 2, none⟩ = some (.int .i64 t) := HXU.out.cell 2
          have v3 : U.cell? ⟨bx, 3, none⟩ = some (.slice none 0 0) := HXU.out.cell 3
          have v4 : U.cell? ⟨bx, 4, none⟩ = some (.int .i64 lo) := HXU.out.cell 4
          have v5 : U.cell? ⟨bx, 5, none⟩ = some (.int .i64 hi) := HXU.out.cell 5
          have vd : U.cell? ⟨bD, 2, none⟩ = some vn := HNt.out.md.dat.cell 2
          go_wp2_with (at_builtin; refine wpList_append_lies _ rfl _ _ 26 rfl w4.heap.size 51 k0 _ 6 64 Try.underlying26 HQ.out HQ0.out HQ1.out HQ2.out rfl (by decide) vn xs.length (cellsN xs) (by rfl) (HNt.out.on.alloc _) ⟨U.heap.size, 0, none⟩ 1 1 [.int .i64 4, .int .i64 s, .int .i64 t, .slice none 0 0, .int .i64 lo, .int .i64 hi] (by rfl) (by rfl) (World.news_of_block (cs := #[.int .i64 4, .int .i64 s, .int .i64 t, .slice none 0 0, .int .i64 lo, .int .i64 hi]) (t := 51) (fr := (0, 0)) (heap_alloc_new U _)) (by simp [Value.oneCell']) (by omega) (by unfold maxLen; omega) (by omega) (by have := HNt.out.size; simp; omega) _ rfl ?_; intro g8 c8 w8 hown8 hgrow8 hat8 hlt8; have hm8 := (HNt.out.alloc _).md.append (HNt.out.alloc _).on hgrow8 (by decide) (by omega); have q8 : w8.cell? ⟨bD, 2, none⟩ = some vn := hm8.dat.cell 2; have f8 := hm8.dat.free 2; have HO8 := Lib.hid hown8; have HG8 := Lib.hid hgrow8; clear hown8 hgrow8 hat8 hm8)
          go_roundw
          case rel => exact ⟨m - 1, xs ++ [(⟨4, s, t, [], lo, hi⟩, (.slice none 0 0))], _, by go_num, by simp; omega, (fun p hp => by
            rcases List.mem_append.1 hp with hp | hp
            · exact HF.out p hp
            · rw [List.mem_singleton.1 hp]
              exact fine_after hsl htl (fun e => hst e.symm) (by omega) (by rw [hxy, hxz]; exact l2) (by rw [hxy, hxz]; exact l3) (by omega)), (HNt.out.alloc _).snoc (x := ⟨4, s, t, [], lo, hi⟩) (v := (.slice none 0 0)) (vN.alloc _) HG8.out HO8.out⟩
          case measure => simp [intOf]; omega
    · obtain rfl : m = 0 := by omega
      go_wp2_with fail
      refine HEX.out _ _ _ _ _ _ _ _ _ _ _ _ _ _ _ _ _ _ _ _ _ _ _ _ _ _ _ _ _ _ _ _ _ _ _ _ _ _ _ _ _ _ _ _ _ _ _ _ _ _ _ _ _ _ _ _ _ _ _ _ _ _ _ _ _ _ _ _ _ _ _ _ _ _ _ _ _ _ _ _ _ _ _ _ _ _ _ _ _ _ _ _ _ _ _ _ _ _ _ _ _ _ _ _ _ _ _ _ _ _ _ _ _ _ _ _ _ _ _ _ _ _ _ _ _ _ _ _ _ _ _ _ _ _ _ _ _ _ _ _ _ _ _ _ _ _ _ _ _ _ _ _ _ _ _ _ _ _ _ _ _ _ _ _ _ ⟨_, xs, by omega, HF.out, HN.out⟩
end Go.Proofs.Ytcbdcdpoackplaa
