/- DatingOf: the loop that gathers the years of a note. -/
import Derived.Test.YtcbdcdpoackplaaFe
namespace Go.Proofs.Ytcbdcdpoackplaa
open Go.RowKit Dt

/-- The code in a block. -/
def findBlock (n : Nat) : Code → Option Code
  | .block k c => if k = n then some c else findBlock n c
  | .seq a b => match findBlock n a with
    | some c => some c
    | none => findBlock n b
  | .loop c => findBlock n c
  | .scope c => findBlock n c
  | .cond _ a b => match findBlock n a with
    | some c => some c
    | none => findBlock n b
  | _ => none
noncomputable def dLoop (n : Nat) : Code := (Try.f10.body.bind (findBlock n)).getD .skip
set_option maxRecDepth 100000 in
set_option maxHeartbeats 20000000 in
theorem years_loop (g : Nat) (far y : Int) (wo w9 : World) (bx s at_ : Nat) (f1 : 0 ≤ far) (f2 : far ≤ 30) (y1 : -400 ≤ y) (y2 : y ≤ 260) (hat2 : at_ ≤ 2)
    (c1 c2 c4 c5 c6 c7 c8 c9 c10 c11 c12 c13 c14 c15 c16 c17 c18 c23 c24 c25 c26 c27 c28 c29 c30 c31 c32 c33 c34 c35 c36 c37 c38 c39 c40 c41 c42 c43 c44 c45 c46 c47 c48 c49 c50 c51 c52 c53 c54 c55 c56 c57 c58 c59 c60 c61 c62 c63 c64 c65 c66 c67 c68 c69 c70 c71 c72 c73 c74 c75 c76 c77 c78 c79 c80 c81 c82 c83 c84 c85 c86 c87 c88 c89 c90 c91 c92 c93 c94 c95 c96 c97 c98 c99 c100 c101 c102 c103 c104 c105 c106 c107 c108 c109 c110 c111 c112 c113 c114 c115 c116 c117 c118 c119 c120 c121 c122 c123 c124 c125 c126 c127 c128 c129 c130 c131 c132 c133 c134 c135 c136 c137 c138 c139 c140 c141 c142 c143 c144 c145 c146 c147 c148 c149 c150 c151 c152 c153 c154 c155 c156 c157 c158 c159 c160 c161 c162 c163 c164 c165 c166 c167 c168 c169 c170 c171 c172 c173 c174 c175 c176 c177 c178 c179 c180 c181 c182 c183 c184 c185 c186 c187 c188 c189 c190 c191 c192 c193 c194 c195 c196 c197 c198 c199 c200 c201 c202 c203 c204 c205 c206 c207 c208 c209 c210 c211 c212 c213 c214 c215 c216 c217 c218 c219 c220 c221 c222 c223 c224 c225 c226 c227 c228 c229 c230 c231 c232 c233 c234 : Value) (Q : Exit → Act → World → Prop)
    (h0 : YI g wo bx s w9.heap.size at_ 0 y (.slice none 0 0) [] w9)
    (hexit : ∀ (u22 u23 u137 u138 u139 u140 u141 u142 u143 u144 u145 u146 u147 u148 u149 u150 u151 u152 u153 u154 u155 u156 u157 u158 u159 u160 u161 u162 u163 u164 u165 u166 u167 u168 u169 u170 u171 u172 u173 u174 u175 u176 u177 u178 u179 u180 u181 u182 u183 u184 u185 u186 u187 u188 u189 u190 u191 : Value) (wx : World), (∃ vx l, YI g wo bx s w9.heap.size at_ 3 y vx l wx) → Q (.exit 7) ⟨List.toArray (Value.pointer (some ⟨g, 0, none⟩) :: c1 :: c2 :: Value.int .i64 far :: c4 :: c5 :: c6 :: c7 :: c8 :: c9 :: c10 :: c11 :: c12 :: c13 :: c14 :: c15 :: c16 :: c17 :: c18 :: Value.int .i64 y :: Value.pointer (some ⟨bx, 0, none⟩) :: Value.int .i64 (at_ : Nat) :: u22 :: u23 :: c24 :: c25 :: c26 :: c27 :: c28 :: c29 :: c30 :: c31 :: c32 :: c33 :: c34 :: c35 :: c36 :: c37 :: c38 :: c39 :: c40 :: c41 :: c42 :: c43 :: c44 :: c45 :: c46 :: c47 :: c48 :: c49 :: c50 :: c51 :: c52 :: c53 :: c54 :: c55 :: c56 :: c57 :: c58 :: c59 :: c60 :: c61 :: c62 :: c63 :: c64 :: c65 :: c66 :: c67 :: c68 :: c69 :: c70 :: c71 :: c72 :: c73 :: c74 :: c75 :: c76 :: c77 :: c78 :: c79 :: c80 :: c81 :: c82 :: c83 :: c84 :: c85 :: c86 :: c87 :: c88 :: c89 :: c90 :: c91 :: c92 :: c93 :: c94 :: c95 :: c96 :: c97 :: c98 :: c99 :: c100 :: c101 :: c102 :: c103 :: c104 :: c105 :: c106 :: c107 :: c108 :: c109 :: c110 :: c111 :: c112 :: c113 :: c114 :: c115 :: c116 :: c117 :: c118 :: c119 :: c120 :: c121 :: c122 :: c123 :: c124 :: c125 :: c126 :: c127 :: c128 :: c129 :: c130 :: c131 :: c132 :: c133 :: c134 :: c135 :: c136 :: u137 :: u138 :: u139 :: u140 :: u141 :: u142 :: u143 :: u144 :: u145 :: u146 :: u147 :: u148 :: u149 :: u150 :: u151 :: u152 :: u153 :: u154 :: u155 :: u156 :: u157 :: u158 :: u159 :: u160 :: u161 :: u162 :: u163 :: u164 :: u165 :: u166 :: u167 :: u168 :: u169 :: u170 :: u171 :: u172 :: u173 :: u174 :: u175 :: u176 :: u177 :: u178 :: u179 :: u180 :: u181 :: u182 :: u183 :: u184 :: u185 :: u186 :: u187 :: u188 :: u189 :: u190 :: u191 :: c192 :: c193 :: c194 :: c195 :: c196 :: c197 :: c198 :: c199 :: c200 :: c201 :: c202 :: c203 :: c204 :: c205 :: c206 :: c207 :: c208 :: c209 :: c210 :: c211 :: c212 :: c213 :: c214 :: c215 :: c216 :: c217 :: c218 :: c219 :: c220 :: c221 :: c222 :: c223 :: c224 :: c225 :: c226 :: c227 :: c228 :: c229 :: c230 :: c231 :: c232 :: c233 :: c234 :: []), []⟩ wx) :
    Code.wp Try.prog (dLoop 7) Q ⟨List.toArray (Value.pointer (some ⟨g, 0, none⟩) :: c1 :: c2 :: Value.int .i64 far :: c4 :: c5 :: c6 :: c7 :: c8 :: c9 :: c10 :: c11 :: c12 :: c13 :: c14 :: c15 :: c16 :: c17 :: c18 :: Value.int .i64 y :: Value.pointer (some ⟨bx, 0, none⟩) :: Value.int .i64 (at_ : Nat) :: Value.int .i64 0 :: c23 :: c24 :: c25 :: c26 :: c27 :: c28 :: c29 :: c30 :: c31 :: c32 :: c33 :: c34 :: c35 :: c36 :: c37 :: c38 :: c39 :: c40 :: c41 :: c42 :: c43 :: c44 :: c45 :: c46 :: c47 :: c48 :: c49 :: c50 :: c51 :: c52 :: c53 :: c54 :: c55 :: c56 :: c57 :: c58 :: c59 :: c60 :: c61 :: c62 :: c63 :: c64 :: c65 :: c66 :: c67 :: c68 :: c69 :: c70 :: c71 :: c72 :: c73 :: c74 :: c75 :: c76 :: c77 :: c78 :: c79 :: c80 :: c81 :: c82 :: c83 :: c84 :: c85 :: c86 :: c87 :: c88 :: c89 :: c90 :: c91 :: c92 :: c93 :: c94 :: c95 :: c96 :: c97 :: c98 :: c99 :: c100 :: c101 :: c102 :: c103 :: c104 :: c105 :: c106 :: c107 :: c108 :: c109 :: c110 :: c111 :: c112 :: c113 :: c114 :: c115 :: c116 :: c117 :: c118 :: c119 :: c120 :: c121 :: c122 :: c123 :: c124 :: c125 :: c126 :: c127 :: c128 :: c129 :: c130 :: c131 :: c132 :: c133 :: c134 :: c135 :: c136 :: c137 :: c138 :: c139 :: c140 :: c141 :: c142 :: c143 :: c144 :: c145 :: c146 :: c147 :: c148 :: c149 :: c150 :: c151 :: c152 :: c153 :: c154 :: c155 :: c156 :: c157 :: c158 :: c159 :: c160 :: c161 :: c162 :: c163 :: c164 :: c165 :: c166 :: c167 :: c168 :: c169 :: c170 :: c171 :: c172 :: c173 :: c174 :: c175 :: c176 :: c177 :: c178 :: c179 :: c180 :: c181 :: c182 :: c183 :: c184 :: c185 :: c186 :: c187 :: c188 :: c189 :: c190 :: c191 :: c192 :: c193 :: c194 :: c195 :: c196 :: c197 :: c198 :: c199 :: c200 :: c201 :: c202 :: c203 :: c204 :: c205 :: c206 :: c207 :: c208 :: c209 :: c210 :: c211 :: c212 :: c213 :: c214 :: c215 :: c216 :: c217 :: c218 :: c219 :: c220 :: c221 :: c222 :: c223 :: c224 :: c225 :: c226 :: c227 :: c228 :: c229 :: c230 :: c231 :: c232 :: c233 :: c234 :: []), []⟩ w9 := by
  have HEX := Lib.hid hexit
  clear hexit
  obtain ⟨i0, hi, hz0, hz1, hz2⟩ := info_parts info_num
  have HI := Lib.hid hi
  have HI0 := Lib.hid hz0
  have HI1 := Lib.hid hz1
  have HI2 := Lib.hid hz2
  clear hi hz0 hz1 hz2
  have HY9 := Lib.hid h0
  clear h0
  conv => arg 2; whnf
  go_loopw [22] (fun i wr => ∃ (kk : Nat) (vx : Value) (l : List Int), i = .int .i64 kk ∧ kk ≤ 3 ∧ YI g wo bx s w9.heap.size at_ kk y vx l wr) (fun i _ => 3 - (intOf i).toNat)
  case atStart => exact ⟨0, _, [], rfl, by omega, HY9.out⟩
  case round =>
    clear HY9
    obtain ⟨kk, vx, l, rfl, hkk, hyi⟩ := hrel
    have HYI := Lib.hid hyi
    by_cases hk3 : kk < 3
    · clear hyi
      obtain ⟨Ax, cx, rfl⟩ := own_slice HYI.out.own
      have hkat : (kk : Int) - at_ = -2 ∨ (kk : Int) - at_ = -1 ∨ (kk : Int) - at_ = 0 ∨ (kk : Int) - at_ = 1 ∨ (kk : Int) - at_ = 2 := by omega
      go_wp2_with fail
      refine (from_any _ _ _ _ (by omega) (by omega) (by omega) (by omega) HYI.out.urn).mono ?_
      rintro e w10 ⟨r, rfl, e1, e2, hu, hk⟩
      have HY10 := Lib.hid (HYI.out.calls hu hk)
      have hp : -62 ≤ ((kk : Int) - at_) * r ∧ ((kk : Int) - at_) * r ≤ 62 := by
        rcases hkat with h | h | h | h | h <;> rw [h] <;> omega
      obtain ⟨p1, p2⟩ := hp
      clear hu hk
      go_upto_region 30 with fail
      generalize hn : y + ((kk : Int) - at_) * r = n
      have n1 : -1000 ≤ n := by omega
      have n2 : n ≤ 1000 := by omega
      have hnat : kk = at_ → n = y := by
        intro h
        subst h
        rw [← hn, Int.sub_self, Int.zero_mul, Int.add_zero]
      have hll := HYI.out.yrs.len
      clear p1 p2 e1 e2 HYI hkat hn
      have x3 : w10.cell? ⟨bx, 3, none⟩ = some (.slice Ax l.length cx) := HY10.out.x.cell 3
      have hb10 := HY10.out.x.size
      by_cases hka : kk = at_
      · obtain rfl : n = y := hnat hka
        have HYR := Lib.hid (show Yrs at_ (kk + 1) n (l ++ [n]) by subst hka; exact HY10.out.yrs.at ⟨n1, n2⟩)
        subst hka
        skip
        go_wp2_with (at_builtin; refine wpList_append_lies _ rfl _ _ 22 rfl w9.heap.size 3 i0 _ 1 8 Try.underlying22 HI.out HI0.out HI1.out HI2.out rfl (by decide) (.slice Ax l.length cx) l.length (intCells l) (by rfl) (HY10.out.own.alloc _) ⟨w10.heap.size, 0, none⟩ 1 1 [.int .i64 n] (by rfl) (by rfl) (World.news_of_block (cs := #[.int .i64 n]) (t := 3) (fr := (0, 0)) (heap_alloc_new w10 _)) (by simp [Value.oneCell']) (by omega) (by unfold maxLen; omega) (by omega) (by have := HY10.out.size; simp; omega) _ rfl ?_; intro g8 c8 w8 hown8 hgrow8 hat8 hlt8; have q8 : w8.cell? ⟨bx, 3, none⟩ = some (.slice Ax l.length cx) := ((HY10.out.alloc _).grown (n := 0) hgrow8 hown8).1.cell 3; have f8 := ((HY10.out.alloc _).grown (n := 0) hgrow8 hown8).1.free 3; have HO8 := Lib.hid hown8; have HG8 := Lib.hid hgrow8; clear hown8 hgrow8 hat8)
        go_roundw
        case rel => exact ⟨kk + 1, _, l ++ [n], by go_num, by omega, (HY10.out.alloc _).app HG8.out HO8.out HYR.out⟩
        case measure => simp [intOf]; omega
      · clear hnat
        have hkb : ((kk : Int) == (at_ : Int)) = false := by simp; omega
        go_wp2_with fail
        refine (odds_any _ _ _ _ (by omega) HY10.out.urn).mono ?_
        rintro e w11 ⟨b, rfl, hu, hk⟩
        have HY11 := Lib.hid (HY10.out.calls hu hk)
        clear hu hk x3 HY10 hb10
        have hb11 := HY11.out.x.size
        cases b
        · go_wp2_with fail
          go_roundw
          case rel => exact ⟨kk + 1, _, _, by go_num, by omega, HY11.out.next (HY11.out.yrs.skip hka)⟩
          case measure => simp [intOf]; omega
        · have x3 : w11.cell? ⟨bx, 3, none⟩ = some (.slice Ax l.length cx) := HY11.out.x.cell 3
          rcases l with _ | ⟨a, _ | ⟨b, _ | ⟨c, l⟩⟩⟩
          · simp only [List.length_nil] at x3 hll
            by_cases hgt : at_ < kk
            · skip
              go_wp2_with (at_builtin; refine wpList_append_lies _ rfl _ _ 22 rfl w9.heap.size 3 i0 _ 1 8 Try.underlying22 HI.out HI0.out HI1.out HI2.out rfl (by decide) (.slice Ax 0 cx) 0 (intCells []) (by rfl) (HY11.out.own.alloc _) ⟨w11.heap.size, 0, none⟩ 1 1 [.int .i64 n] (by rfl) (by rfl) (World.news_of_block (cs := #[.int .i64 n]) (t := 3) (fr := (0, 0)) (heap_alloc_new w11 _)) (by simp [Value.oneCell']) (by omega) (by unfold maxLen; omega) (by omega) (by have := HY11.out.size; simp; omega) _ rfl ?_; intro g8 c8 w8 hown8 hgrow8 hat8 hlt8; have q8 : w8.cell? ⟨bx, 3, none⟩ = some (.slice Ax 0 cx) := ((HY11.out.alloc _).grown (n := 0) hgrow8 hown8).1.cell 3; have f8 := ((HY11.out.alloc _).grown (n := 0) hgrow8 hown8).1.free 3; have HO8 := Lib.hid hown8; have HG8 := Lib.hid hgrow8; clear hown8 hgrow8 hat8)
              go_roundw
              case rel => exact ⟨kk + 1, _, [] ++ [n], by go_num, by omega, (HY11.out.alloc _).app HG8.out HO8.out (HY11.out.yrs.more hka ⟨n1, n2⟩ (.inl rfl) (.inl hgt))⟩
              case measure => simp [intOf]; omega
            · by_cases hny : n < y
              · skip
                go_wp2_with (at_builtin; refine wpList_append_lies _ rfl _ _ 22 rfl w9.heap.size 3 i0 _ 1 8 Try.underlying22 HI.out HI0.out HI1.out HI2.out rfl (by decide) (.slice Ax 0 cx) 0 (intCells []) (by rfl) (HY11.out.own.alloc _) ⟨w11.heap.size, 0, none⟩ 1 1 [.int .i64 n] (by rfl) (by rfl) (World.news_of_block (cs := #[.int .i64 n]) (t := 3) (fr := (0, 0)) (heap_alloc_new w11 _)) (by simp [Value.oneCell']) (by omega) (by unfold maxLen; omega) (by omega) (by have := HY11.out.size; simp; omega) _ rfl ?_; intro g8 c8 w8 hown8 hgrow8 hat8 hlt8; have q8 : w8.cell? ⟨bx, 3, none⟩ = some (.slice Ax 0 cx) := ((HY11.out.alloc _).grown (n := 0) hgrow8 hown8).1.cell 3; have f8 := ((HY11.out.alloc _).grown (n := 0) hgrow8 hown8).1.free 3; have HO8 := Lib.hid hown8; have HG8 := Lib.hid hgrow8; clear hown8 hgrow8 hat8)
                go_roundw
                case rel => exact ⟨kk + 1, _, [] ++ [n], by go_num, by omega, (HY11.out.alloc _).app HG8.out HO8.out (HY11.out.yrs.more hka ⟨n1, n2⟩ (.inl rfl) (.inr hny))⟩
                case measure => simp [intOf]; omega
              · go_wp2_with fail
                go_roundw
                case rel => exact ⟨kk + 1, _, _, by go_num, by omega, HY11.out.next (HY11.out.yrs.skip hka)⟩
                case measure => simp [intOf]; omega
          · simp only [List.length_cons, List.length_nil, Nat.zero_add, Nat.reduceAdd] at x3 hll
            obtain ⟨gx, rfl⟩ := own_addr HY11.out.own (by simp)
            have cl : w11.cell? ⟨gx, 0, none⟩ = some (.int .i64 a) := HY11.out.own.cellAt 0 (by simp)
            by_cases hzn : a < n
            · by_cases hgt : at_ < kk
              · skip
                go_wp2_with (at_builtin; refine wpList_append_lies _ rfl _ _ 22 rfl w9.heap.size 3 i0 _ 1 8 Try.underlying22 HI.out HI0.out HI1.out HI2.out rfl (by decide) (.slice (some ⟨gx, 0, none⟩) 1 cx) 1 (intCells [a]) (by rfl) (HY11.out.own.alloc _) ⟨w11.heap.size, 0, none⟩ 1 1 [.int .i64 n] (by rfl) (by rfl) (World.news_of_block (cs := #[.int .i64 n]) (t := 3) (fr := (0, 0)) (heap_alloc_new w11 _)) (by simp [Value.oneCell']) (by omega) (by unfold maxLen; omega) (by omega) (by have := HY11.out.size; simp; omega) _ rfl ?_; intro g8 c8 w8 hown8 hgrow8 hat8 hlt8; have q8 : w8.cell? ⟨bx, 3, none⟩ = some (.slice (some ⟨gx, 0, none⟩) 1 cx) := ((HY11.out.alloc _).grown (n := 0) hgrow8 hown8).1.cell 3; have f8 := ((HY11.out.alloc _).grown (n := 0) hgrow8 hown8).1.free 3; have HO8 := Lib.hid hown8; have HG8 := Lib.hid hgrow8; clear hown8 hgrow8 hat8)
                go_roundw
                case rel => exact ⟨kk + 1, _, [a] ++ [n], by go_num, by omega, (HY11.out.alloc _).app HG8.out HO8.out (HY11.out.yrs.more hka ⟨n1, n2⟩ (.inr ⟨a, rfl, hzn⟩) (.inl hgt))⟩
                case measure => simp [intOf]; omega
              · by_cases hny : n < y
                · skip
                  go_wp2_with (at_builtin; refine wpList_append_lies _ rfl _ _ 22 rfl w9.heap.size 3 i0 _ 1 8 Try.underlying22 HI.out HI0.out HI1.out HI2.out rfl (by decide) (.slice (some ⟨gx, 0, none⟩) 1 cx) 1 (intCells [a]) (by rfl) (HY11.out.own.alloc _) ⟨w11.heap.size, 0, none⟩ 1 1 [.int .i64 n] (by rfl) (by rfl) (World.news_of_block (cs := #[.int .i64 n]) (t := 3) (fr := (0, 0)) (heap_alloc_new w11 _)) (by simp [Value.oneCell']) (by omega) (by unfold maxLen; omega) (by omega) (by have := HY11.out.size; simp; omega) _ rfl ?_; intro g8 c8 w8 hown8 hgrow8 hat8 hlt8; have q8 : w8.cell? ⟨bx, 3, none⟩ = some (.slice (some ⟨gx, 0, none⟩) 1 cx) := ((HY11.out.alloc _).grown (n := 0) hgrow8 hown8).1.cell 3; have f8 := ((HY11.out.alloc _).grown (n := 0) hgrow8 hown8).1.free 3; have HO8 := Lib.hid hown8; have HG8 := Lib.hid hgrow8; clear hown8 hgrow8 hat8)
                  go_roundw
                  case rel => exact ⟨kk + 1, _, [a] ++ [n], by go_num, by omega, (HY11.out.alloc _).app HG8.out HO8.out (HY11.out.yrs.more hka ⟨n1, n2⟩ (.inr ⟨a, rfl, hzn⟩) (.inr hny))⟩
                  case measure => simp [intOf]; omega
                · go_wp2_with fail
                  go_roundw
                  case rel => exact ⟨kk + 1, _, _, by go_num, by omega, HY11.out.next (HY11.out.yrs.skip hka)⟩
                  case measure => simp [intOf]; omega
            · go_wp2_with fail
              go_roundw
              case rel => exact ⟨kk + 1, _, _, by go_num, by omega, HY11.out.next (HY11.out.yrs.skip hka)⟩
              case measure => simp [intOf]; omega
          · simp only [List.length_cons, List.length_nil, Nat.zero_add, Nat.reduceAdd] at x3 hll
            obtain ⟨gx, rfl⟩ := own_addr HY11.out.own (by simp)
            have cl : w11.cell? ⟨gx, 1, none⟩ = some (.int .i64 b) := HY11.out.own.cellAt 1 (by simp)
            by_cases hzn : b < n
            · by_cases hgt : at_ < kk
              · skip
                go_wp2_with (at_builtin; refine wpList_append_lies _ rfl _ _ 22 rfl w9.heap.size 3 i0 _ 1 8 Try.underlying22 HI.out HI0.out HI1.out HI2.out rfl (by decide) (.slice (some ⟨gx, 0, none⟩) 2 cx) 2 (intCells [a, b]) (by rfl) (HY11.out.own.alloc _) ⟨w11.heap.size, 0, none⟩ 1 1 [.int .i64 n] (by rfl) (by rfl) (World.news_of_block (cs := #[.int .i64 n]) (t := 3) (fr := (0, 0)) (heap_alloc_new w11 _)) (by simp [Value.oneCell']) (by omega) (by unfold maxLen; omega) (by omega) (by have := HY11.out.size; simp; omega) _ rfl ?_; intro g8 c8 w8 hown8 hgrow8 hat8 hlt8; have q8 : w8.cell? ⟨bx, 3, none⟩ = some (.slice (some ⟨gx, 0, none⟩) 2 cx) := ((HY11.out.alloc _).grown (n := 0) hgrow8 hown8).1.cell 3; have f8 := ((HY11.out.alloc _).grown (n := 0) hgrow8 hown8).1.free 3; have HO8 := Lib.hid hown8; have HG8 := Lib.hid hgrow8; clear hown8 hgrow8 hat8)
                go_roundw
                case rel => exact ⟨kk + 1, _, [a, b] ++ [n], by go_num, by omega, (HY11.out.alloc _).app HG8.out HO8.out (HY11.out.yrs.more hka ⟨n1, n2⟩ (.inr ⟨b, rfl, hzn⟩) (.inl hgt))⟩
                case measure => simp [intOf]; omega
              · exfalso
                omega
            · go_wp2_with fail
              go_roundw
              case rel => exact ⟨kk + 1, _, _, by go_num, by omega, HY11.out.next (HY11.out.yrs.skip hka)⟩
              case measure => simp [intOf]; omega
          · simp at hll
            omega
    · obtain rfl : kk = 3 := by omega
      clear hyi
      go_wp2_with fail
      refine HEX.out _ _ _ _ _ _ _ _ _ _ _ _ _ _ _ _ _ _ _ _ _ _ _ _ _ _ _ _ _ _ _ _ _ _ _ _ _ _ _ _ _ _ _ _ _ _ _ _ _ _ _ _ _ _ _ _ _ _ ⟨_, _, HYI.out⟩
end Go.Proofs.Ytcbdcdpoackplaa
