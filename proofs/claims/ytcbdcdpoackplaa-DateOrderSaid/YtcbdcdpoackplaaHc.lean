/- DateOrder: its loops. -/
import Derived.Test.YtcbdcdpoackplaaHa
namespace Go.Proofs.Ytcbdcdpoackplaa
open Go.RowKit Dt

theorem info_row : (Try.prog.info? 22).map (fun i => (i.zero, i.size, i.bytes)) = some (some (.slice none 0 0), 1, 24) := by kernel_rfl
noncomputable def ordLoop (n : Nat) : Code := (Try.f6.body.bind (findBlock n)).getD .skip
set_option maxRecDepth 100000 in
set_option maxHeartbeats 20000000 in
theorem order_trans (d : Dat) (w0 : World) (bd gv cv i k : Nat) (hd : d.Ok) (hm : d.may) (hi : i < d.stones) (hk : k < d.stones) (hs : w0.cell? ⟨bd, 0, none⟩ = some (.int .i64 d.stones))
    (hc : ∀ i, i < d.stones → ∃ gi ci, w0.cell? ⟨gv, i, none⟩ = some (.slice (some ⟨gi, 0, none⟩) d.stones ci) ∧ ∀ k, k < d.stones → w0.cell? ⟨gi, k, none⟩ = some (.int .i64 (d.laterV (1 + i) (1 + k))))
    (s0 s1 s2 s3 s5 s6 s7 s8 s9 s10 s11 s12 s14 s15 s16 s17 s18 s19 s20 s24 s25 s26 s27 s28 s29 s30 s31 s32 s33 s34 s35 s36 s37 s38 s39 s40 s41 s42 s43 s44 s45 s46 s47 s48 s49 s50 s51 s52 s53 s54 s55 s56 s57 s58 s59 s60 s61 s62 s63 s64 s65 s66 s67 s68 s69 s70 s71 s72 s73 s74 s75 s76 s77 s78 s79 s80 s81 s82 s83 s84 s85 s86 s87 s88 s89 s90 s91 s92 s93 s94 s95 s96 s97 s98 s99 s100 s101 s102 s103 s104 s105 s106 s107 s108 s109 s110 s111 s112 s113 s114 s115 s116 s117 s118 s119 s120 s121 s122 s123 s124 s125 s126 s127 s128 s129 s130 s131 s132 s133 s134 s135 s136 s137 s138 s139 s140 s141 s142 s143 s144 s145 s146 s147 s148 s149 s150 s151 s152 s153 s154 s155 s156 s157 s158 s159 s160 s161 s162 s163 s164 s165 s166 s167 s168 s169 s170 s171 s172 s173 s174 s175 s176 s177 s178 s179 s180 s181 s182 s183 s184 s185 s186 s187 s188 s189 s190 s191 s192 s193 s194 s195 s196 s197 s198 s199 s200 : Value) (Q : Exit → Act → World → Prop)
    (hexit : ∀ (u2 u23 u166 u167 u168 u169 u170 u171 u172 u173 u174 u175 u176 u177 u178 u179 u180 u181 u182 u183 u184 u185 u186 u187 u188 u189 u190 u191 u192 u193 u194 u195 u196 u197 u198 u199 : Value), Q (.exit 10) ⟨List.toArray (s0 :: s1 :: u2 :: s3 :: Value.pointer (some ⟨bd, 0, none⟩) :: s5 :: s6 :: s7 :: s8 :: s9 :: s10 :: s11 :: s12 :: Value.slice (some ⟨gv, 0, none⟩) d.stones cv :: s14 :: s15 :: s16 :: s17 :: s18 :: s19 :: s20 :: Value.int .i64 (i : Nat) :: Value.int .i64 (k : Nat) :: u23 :: s24 :: s25 :: s26 :: s27 :: s28 :: s29 :: s30 :: s31 :: s32 :: s33 :: s34 :: s35 :: s36 :: s37 :: s38 :: s39 :: s40 :: s41 :: s42 :: s43 :: s44 :: s45 :: s46 :: s47 :: s48 :: s49 :: s50 :: s51 :: s52 :: s53 :: s54 :: s55 :: s56 :: s57 :: s58 :: s59 :: s60 :: s61 :: s62 :: s63 :: s64 :: s65 :: s66 :: s67 :: s68 :: s69 :: s70 :: s71 :: s72 :: s73 :: s74 :: s75 :: s76 :: s77 :: s78 :: s79 :: s80 :: s81 :: s82 :: s83 :: s84 :: s85 :: s86 :: s87 :: s88 :: s89 :: s90 :: s91 :: s92 :: s93 :: s94 :: s95 :: s96 :: s97 :: s98 :: s99 :: s100 :: s101 :: s102 :: s103 :: s104 :: s105 :: s106 :: s107 :: s108 :: s109 :: s110 :: s111 :: s112 :: s113 :: s114 :: s115 :: s116 :: s117 :: s118 :: s119 :: s120 :: s121 :: s122 :: s123 :: s124 :: s125 :: s126 :: s127 :: s128 :: s129 :: s130 :: s131 :: s132 :: s133 :: s134 :: s135 :: s136 :: s137 :: s138 :: s139 :: s140 :: s141 :: s142 :: s143 :: s144 :: s145 :: s146 :: s147 :: s148 :: s149 :: s150 :: s151 :: s152 :: s153 :: s154 :: s155 :: s156 :: s157 :: s158 :: s159 :: s160 :: s161 :: s162 :: s163 :: s164 :: s165 :: u166 :: u167 :: u168 :: u169 :: u170 :: u171 :: u172 :: u173 :: u174 :: u175 :: u176 :: u177 :: u178 :: u179 :: u180 :: u181 :: u182 :: u183 :: u184 :: u185 :: u186 :: u187 :: u188 :: u189 :: u190 :: u191 :: u192 :: u193 :: u194 :: u195 :: u196 :: u197 :: u198 :: u199 :: s200 :: []), []⟩ w0) :
    Code.wp Try.prog (ordLoop 10) Q ⟨List.toArray (s0 :: s1 :: s2 :: s3 :: Value.pointer (some ⟨bd, 0, none⟩) :: s5 :: s6 :: s7 :: s8 :: s9 :: s10 :: s11 :: s12 :: Value.slice (some ⟨gv, 0, none⟩) d.stones cv :: s14 :: s15 :: s16 :: s17 :: s18 :: s19 :: s20 :: Value.int .i64 (i : Nat) :: Value.int .i64 (k : Nat) :: Value.int .i64 0 :: s24 :: s25 :: s26 :: s27 :: s28 :: s29 :: s30 :: s31 :: s32 :: s33 :: s34 :: s35 :: s36 :: s37 :: s38 :: s39 :: s40 :: s41 :: s42 :: s43 :: s44 :: s45 :: s46 :: s47 :: s48 :: s49 :: s50 :: s51 :: s52 :: s53 :: s54 :: s55 :: s56 :: s57 :: s58 :: s59 :: s60 :: s61 :: s62 :: s63 :: s64 :: s65 :: s66 :: s67 :: s68 :: s69 :: s70 :: s71 :: s72 :: s73 :: s74 :: s75 :: s76 :: s77 :: s78 :: s79 :: s80 :: s81 :: s82 :: s83 :: s84 :: s85 :: s86 :: s87 :: s88 :: s89 :: s90 :: s91 :: s92 :: s93 :: s94 :: s95 :: s96 :: s97 :: s98 :: s99 :: s100 :: s101 :: s102 :: s103 :: s104 :: s105 :: s106 :: s107 :: s108 :: s109 :: s110 :: s111 :: s112 :: s113 :: s114 :: s115 :: s116 :: s117 :: s118 :: s119 :: s120 :: s121 :: s122 :: s123 :: s124 :: s125 :: s126 :: s127 :: s128 :: s129 :: s130 :: s131 :: s132 :: s133 :: s134 :: s135 :: s136 :: s137 :: s138 :: s139 :: s140 :: s141 :: s142 :: s143 :: s144 :: s145 :: s146 :: s147 :: s148 :: s149 :: s150 :: s151 :: s152 :: s153 :: s154 :: s155 :: s156 :: s157 :: s158 :: s159 :: s160 :: s161 :: s162 :: s163 :: s164 :: s165 :: s166 :: s167 :: s168 :: s169 :: s170 :: s171 :: s172 :: s173 :: s174 :: s175 :: s176 :: s177 :: s178 :: s179 :: s180 :: s181 :: s182 :: s183 :: s184 :: s185 :: s186 :: s187 :: s188 :: s189 :: s190 :: s191 :: s192 :: s193 :: s194 :: s195 :: s196 :: s197 :: s198 :: s199 :: s200 :: []), []⟩ w0 := by
  have HEX := Lib.hid hexit
  have HC := Lib.hid hc
  have HD := Lib.hid hd
  have HM := Lib.hid hm
  have hs6 := hd.stones
  clear hexit hc hd hm
  conv => arg 2; whnf
  go_loopg [23] d.stones (fun r m wr => ∃ q : Nat, m = .int .i64 (q : Nat) ∧ q + r = d.stones ∧ wr = w0)
  case atStart => exact ⟨0, rfl, by omega, rfl⟩
  case round =>
    obtain ⟨q, rfl, hqr, rfl⟩ := hrel
    by_cases hlt : q < d.stones
    · obtain ⟨g1, c1, k1, r1⟩ := HC.out i hi
      obtain ⟨g2, c2, k2, r2⟩ := HC.out k hk
      have cik := r1 k hk
      have ckq := r2 q hlt
      have ciq := r1 q hlt
      have hta : d.laterV (1 + i) (1 + k) = 1 → d.laterV (1 + k) (1 + q) = 1 → d.laterV (1 + i) (1 + q) = 1 := later_trans HD.out HM.out (by omega) (by omega) (by omega)
      have ra := (laterV_spec HD.out HM.out (1 + i) (1 + k) (by omega) (by omega)).rest
      have rb := (laterV_spec HD.out HM.out (1 + k) (1 + q) (by omega) (by omega)).rest
      obtain ⟨a, ha⟩ : ∃ a, a = d.laterV (1 + i) (1 + k) := ⟨_, rfl⟩
      obtain ⟨b, hb⟩ : ∃ b, b = d.laterV (1 + k) (1 + q) := ⟨_, rfl⟩
      obtain ⟨c, hcc⟩ : ∃ c, c = d.laterV (1 + i) (1 + q) := ⟨_, rfl⟩
      rw [← ha, ← hb, ← hcc] at hta
      rw [← ha] at ra cik
      rw [← hb] at rb ckq
      rw [← hcc] at ciq
      clear ha hb hcc r1 r2
      have h3 : (a = 1 ∧ b = 1 ∧ c = 1) ∨ (a = 1 ∧ b = 2) ∨ (a = 1 ∧ b = 3) ∨ a = 2 ∨ a = 3 := by omega
      clear hta ra rb
      rcases h3 with ⟨rfl, rfl, rfl⟩ | ⟨rfl, rfl⟩ | ⟨rfl, rfl⟩ | rfl | rfl
      all_goals
        go_wp2_with fail
        go_roundg (gk - 1)
        case measure => omega
        case rel => exact ⟨q + 1, by go_num, by omega, rfl⟩
    · obtain rfl : q = d.stones := by omega
      go_wp2_with fail
      exact HEX.out _ _ _ _ _ _ _ _ _ _ _ _ _ _ _ _ _ _ _ _ _ _ _ _ _ _ _ _ _ _ _ _ _ _ _ _
set_option maxRecDepth 100000 in
set_option maxHeartbeats 20000000 in
theorem order_last (d : Dat) (w0 : World) (bd gv cv : Nat) (hd : d.Ok) (hm : d.may) (hs : w0.cell? ⟨bd, 0, none⟩ = some (.int .i64 d.stones))
    (hc : ∀ i, i < d.stones → ∃ gi ci, w0.cell? ⟨gv, i, none⟩ = some (.slice (some ⟨gi, 0, none⟩) d.stones ci) ∧ ∀ k, k < d.stones → w0.cell? ⟨gi, k, none⟩ = some (.int .i64 (d.laterV (1 + i) (1 + k))))
    (s0 s1 s2 s3 s5 s6 s7 s8 s9 s10 s11 s12 s14 s15 s16 s17 s18 s19 s20 s22 s23 s24 s25 s26 s27 s28 s29 s30 s31 s32 s33 s34 s35 s36 s37 s38 s39 s40 s41 s42 s43 s44 s45 s46 s47 s48 s49 s50 s51 s52 s53 s54 s55 s56 s57 s58 s59 s60 s61 s62 s63 s64 s65 s66 s67 s68 s69 s70 s71 s72 s73 s74 s75 s76 s77 s78 s79 s80 s81 s82 s83 s84 s85 s86 s87 s88 s89 s90 s91 s92 s93 s94 s95 s96 s97 s98 s99 s100 s101 s102 s103 s104 s105 s106 s107 s108 s109 s110 s111 s112 s113 s114 s115 s116 s117 s118 s119 s120 s121 s122 s123 s124 s125 s126 s127 s128 s129 s130 s131 s132 s133 s134 s135 s136 s137 s138 s139 s140 s141 s142 s143 s144 s145 s146 s147 s148 s149 s150 s151 s152 s153 s154 s155 s156 s157 s158 s159 s160 s161 s162 s163 s164 s165 s166 s167 s168 s169 s170 s171 s172 s173 s174 s175 s176 s177 s178 s179 s180 s181 s182 s183 s184 s185 s186 s187 s188 s189 s190 s191 s192 s193 s194 s195 s196 s197 s198 s199 s200 : Value) (Q : Exit → Act → World → Prop)
    (hexit : ∀ (u2 u21 u22 u23 u126 u127 u128 u129 u130 u131 u132 u133 u134 u135 u136 u137 u138 u139 u140 u141 u142 u143 u144 u145 u146 u147 u148 u149 u150 u151 u152 u153 u154 u155 u156 u157 u158 u159 u160 u161 u162 u163 u164 u165 u166 u167 u168 u169 u170 u171 u172 u173 u174 u175 u176 u177 u178 u179 u180 u181 u182 u183 u184 u185 u186 u187 u188 u189 u190 u191 u192 u193 u194 u195 u196 u197 u198 u199 : Value), Q (.exit 6) ⟨List.toArray (s0 :: s1 :: u2 :: s3 :: Value.pointer (some ⟨bd, 0, none⟩) :: s5 :: s6 :: s7 :: s8 :: s9 :: s10 :: s11 :: s12 :: Value.slice (some ⟨gv, 0, none⟩) d.stones cv :: s14 :: s15 :: s16 :: s17 :: s18 :: s19 :: s20 :: u21 :: u22 :: u23 :: s24 :: s25 :: s26 :: s27 :: s28 :: s29 :: s30 :: s31 :: s32 :: s33 :: s34 :: s35 :: s36 :: s37 :: s38 :: s39 :: s40 :: s41 :: s42 :: s43 :: s44 :: s45 :: s46 :: s47 :: s48 :: s49 :: s50 :: s51 :: s52 :: s53 :: s54 :: s55 :: s56 :: s57 :: s58 :: s59 :: s60 :: s61 :: s62 :: s63 :: s64 :: s65 :: s66 :: s67 :: s68 :: s69 :: s70 :: s71 :: s72 :: s73 :: s74 :: s75 :: s76 :: s77 :: s78 :: s79 :: s80 :: s81 :: s82 :: s83 :: s84 :: s85 :: s86 :: s87 :: s88 :: s89 :: s90 :: s91 :: s92 :: s93 :: s94 :: s95 :: s96 :: s97 :: s98 :: s99 :: s100 :: s101 :: s102 :: s103 :: s104 :: s105 :: s106 :: s107 :: s108 :: s109 :: s110 :: s111 :: s112 :: s113 :: s114 :: s115 :: s116 :: s117 :: s118 :: s119 :: s120 :: s121 :: s122 :: s123 :: s124 :: s125 :: u126 :: u127 :: u128 :: u129 :: u130 :: u131 :: u132 :: u133 :: u134 :: u135 :: u136 :: u137 :: u138 :: u139 :: u140 :: u141 :: u142 :: u143 :: u144 :: u145 :: u146 :: u147 :: u148 :: u149 :: u150 :: u151 :: u152 :: u153 :: u154 :: u155 :: u156 :: u157 :: u158 :: u159 :: u160 :: u161 :: u162 :: u163 :: u164 :: u165 :: u166 :: u167 :: u168 :: u169 :: u170 :: u171 :: u172 :: u173 :: u174 :: u175 :: u176 :: u177 :: u178 :: u179 :: u180 :: u181 :: u182 :: u183 :: u184 :: u185 :: u186 :: u187 :: u188 :: u189 :: u190 :: u191 :: u192 :: u193 :: u194 :: u195 :: u196 :: u197 :: u198 :: u199 :: s200 :: []), []⟩ w0) :
    Code.wp Try.prog (ordLoop 6) Q ⟨List.toArray (s0 :: s1 :: s2 :: s3 :: Value.pointer (some ⟨bd, 0, none⟩) :: s5 :: s6 :: s7 :: s8 :: s9 :: s10 :: s11 :: s12 :: Value.slice (some ⟨gv, 0, none⟩) d.stones cv :: s14 :: s15 :: s16 :: s17 :: s18 :: s19 :: s20 :: Value.int .i64 0 :: s22 :: s23 :: s24 :: s25 :: s26 :: s27 :: s28 :: s29 :: s30 :: s31 :: s32 :: s33 :: s34 :: s35 :: s36 :: s37 :: s38 :: s39 :: s40 :: s41 :: s42 :: s43 :: s44 :: s45 :: s46 :: s47 :: s48 :: s49 :: s50 :: s51 :: s52 :: s53 :: s54 :: s55 :: s56 :: s57 :: s58 :: s59 :: s60 :: s61 :: s62 :: s63 :: s64 :: s65 :: s66 :: s67 :: s68 :: s69 :: s70 :: s71 :: s72 :: s73 :: s74 :: s75 :: s76 :: s77 :: s78 :: s79 :: s80 :: s81 :: s82 :: s83 :: s84 :: s85 :: s86 :: s87 :: s88 :: s89 :: s90 :: s91 :: s92 :: s93 :: s94 :: s95 :: s96 :: s97 :: s98 :: s99 :: s100 :: s101 :: s102 :: s103 :: s104 :: s105 :: s106 :: s107 :: s108 :: s109 :: s110 :: s111 :: s112 :: s113 :: s114 :: s115 :: s116 :: s117 :: s118 :: s119 :: s120 :: s121 :: s122 :: s123 :: s124 :: s125 :: s126 :: s127 :: s128 :: s129 :: s130 :: s131 :: s132 :: s133 :: s134 :: s135 :: s136 :: s137 :: s138 :: s139 :: s140 :: s141 :: s142 :: s143 :: s144 :: s145 :: s146 :: s147 :: s148 :: s149 :: s150 :: s151 :: s152 :: s153 :: s154 :: s155 :: s156 :: s157 :: s158 :: s159 :: s160 :: s161 :: s162 :: s163 :: s164 :: s165 :: s166 :: s167 :: s168 :: s169 :: s170 :: s171 :: s172 :: s173 :: s174 :: s175 :: s176 :: s177 :: s178 :: s179 :: s180 :: s181 :: s182 :: s183 :: s184 :: s185 :: s186 :: s187 :: s188 :: s189 :: s190 :: s191 :: s192 :: s193 :: s194 :: s195 :: s196 :: s197 :: s198 :: s199 :: s200 :: []), []⟩ w0 := by
  have HEX := Lib.hid hexit
  have HC := Lib.hid hc
  have HD := Lib.hid hd
  have HM := Lib.hid hm
  have hs6 := hd.stones
  clear hexit hc hd hm
  conv => arg 2; whnf
  go_loopg [21] d.stones (fun r m wr => ∃ q : Nat, m = .int .i64 (q : Nat) ∧ q + r = d.stones ∧ wr = w0)
  case atStart => exact ⟨0, rfl, by omega, rfl⟩
  case round =>
    obtain ⟨i, rfl, hir, rfl⟩ := hrel
    obtain ⟨ga, hga⟩ : ∃ ga, ga = gk := ⟨_, rfl⟩
    by_cases hi : i < d.stones
    · go_wp2_with fail
      go_loopg [22] d.stones (fun r m wr' => ∃ q : Nat, m = .int .i64 (q : Nat) ∧ q + r = d.stones ∧ wr' = wr)
      case atStart => exact ⟨0, rfl, by omega, rfl⟩
      case round =>
        obtain ⟨k, rfl, hkr, rfl⟩ := hrel
        by_cases hk : k < d.stones
        · obtain ⟨g1, c1, k1, r1⟩ := HC.out i hi
          obtain ⟨g2, c2, k2, r2⟩ := HC.out k hk
          have cik := r1 k hk
          have cki := r2 i hi
          have cii := r1 i hi
          have hba : d.laterV (1 + i) (1 + k) = 1 → d.laterV (1 + k) (1 + i) = 2 := later_back HD.out HM.out (by omega) (by omega)
          have ra := (laterV_spec HD.out HM.out (1 + i) (1 + k) (by omega) (by omega)).rest
          rw [later_self (a := 1 + i) HD.out HM.out (by omega)] at cii
          obtain ⟨a, ha⟩ : ∃ a, a = d.laterV (1 + i) (1 + k) := ⟨_, rfl⟩
          obtain ⟨b, hb⟩ : ∃ b, b = d.laterV (1 + k) (1 + i) := ⟨_, rfl⟩
          rw [← ha, ← hb] at hba
          rw [← ha] at ra cik
          rw [← hb] at cki
          clear ha hb r1 r2
          have h3 : (a = 1 ∧ b = 2) ∨ a = 2 ∨ a = 3 := by omega
          clear hba ra
          rcases h3 with ⟨rfl, rfl⟩ | rfl | rfl
          all_goals
            go_wp2_with fail
            refine order_trans d _ bd gv cv i k HD.out HM.out hi hk hs HC.out _ _ _ _ _ _ _ _ _ _ _ _ _ _ _ _ _ _ _ _ _ _ _ _ _ _ _ _ _ _ _ _ _ _ _ _ _ _ _ _ _ _ _ _ _ _ _ _ _ _ _ _ _ _ _ _ _ _ _ _ _ _ _ _ _ _ _ _ _ _ _ _ _ _ _ _ _ _ _ _ _ _ _ _ _ _ _ _ _ _ _ _ _ _ _ _ _ _ _ _ _ _ _ _ _ _ _ _ _ _ _ _ _ _ _ _ _ _ _ _ _ _ _ _ _ _ _ _ _ _ _ _ _ _ _ _ _ _ _ _ _ _ _ _ _ _ _ _ _ _ _ _ _ _ _ _ _ _ _ _ _ _ _ _ _ _ _ _ _ _ _ _ _ _ _ _ _ _ _ _ _ _ _ _ _ _ _ _ _ _ _ _ _ _ _ _ _ ?_
            intro _ _ _ _ _ _ _ _ _ _ _ _ _ _ _ _ _ _ _ _ _ _ _ _ _ _ _ _ _ _ _ _ _ _ _ _
            go_wp2_with fail
            go_roundg (gk - 1)
            case measure => omega
            case rel => exact ⟨k + 1, by go_num, by omega, rfl⟩
        · obtain rfl : k = d.stones := by omega
          go_wp2_with fail
          go_roundg (ga - 1)
          case measure => omega
          case rel => exact ⟨i + 1, by go_num, by omega, rfl⟩
    · obtain rfl : i = d.stones := by omega
      go_wp2_with fail
      exact HEX.out _ _ _ _ _ _ _ _ _ _ _ _ _ _ _ _ _ _ _ _ _ _ _ _ _ _ _ _ _ _ _ _ _ _ _ _ _ _ _ _ _ _ _ _ _ _ _ _ _ _ _ _ _ _ _ _ _ _ _ _ _ _ _ _ _ _ _ _ _ _ _ _ _ _ _ _ _ _
set_option maxRecDepth 100000 in
set_option maxHeartbeats 20000000 in
theorem order_rows (w w2 w6 ws : World) (d x : Dat) (ys fs : List Int) (Ae An Af Ax : Option Addr) (ce cn cy cf cx gy : Nat) (Bn : Option Addr) (bn : Nat) (hd : d.Ok) (hm : d.may) (ht : SameT d x)
    (s0 s1 s2 s3 s5 s7 s8 s9 s10 s11 s12 s15 s16 s17 s18 s19 s20 s21 s22 s23 s24 s25 s26 s27 s28 s29 s30 s31 s32 s33 s34 s35 s36 s37 s38 s39 s40 s41 s42 s43 s44 s45 s46 s47 s48 s49 s50 s51 s52 s53 s54 s55 s56 s57 s58 s59 s60 s61 s62 s63 s64 s65 s66 s67 s68 s69 s70 s71 s72 s73 s74 s75 s76 s77 s78 s79 s80 s81 s82 s83 s84 s85 s86 s87 s88 s89 s90 s91 s92 s93 s94 s95 s96 s97 s98 s99 s100 s101 s102 s103 s104 s105 s106 s107 s108 s109 s110 s111 s112 s113 s114 s115 s116 s117 s118 s119 s120 s121 s122 s123 s124 s125 s126 s127 s128 s129 s130 s131 s132 s133 s134 s135 s136 s137 s138 s139 s140 s141 s142 s143 s144 s145 s146 s147 s148 s149 s150 s151 s152 s153 s154 s155 s156 s157 s158 s159 s160 s161 s162 s163 s164 s165 s166 s167 s168 s169 s170 s171 s172 s173 s174 s175 s176 s177 s178 s179 s180 s181 s182 s183 s184 s185 s186 s187 s188 s189 s190 s191 s192 s193 s194 s195 s196 s197 s198 s199 s200 : Value) (Q : Exit → Act → World → Prop) (h0 : LG w w.heap.size w2.heap.size d ys fs (.slice Ae d.eras.length ce) (.slice An d.notes.length cn) (.slice (some ⟨gy, 0, none⟩) ys.length cy) (.slice Af fs.length cf) [⟨w6.heap.size, 28, [.int .i64 d.stones, .slice Ax d.eras.length cx, .slice Bn d.notes.length bn]⟩] [] [] [(.agg #[.int .i64 d.stones, .slice Ax d.eras.length cx, .slice Bn d.notes.length bn], x)] ws)
    (hexit : ∀ (u2 u13 u14 u15 u16 u17 u18 u19 u20 u81 u82 u83 u84 u85 u86 u87 u88 u89 u90 u91 u92 u93 u94 u95 u96 u97 u98 u99 u100 u101 u102 u103 u104 u105 u106 u107 u108 u109 u110 u111 u112 u113 u114 u115 u116 u117 u118 u119 u120 u121 u122 u123 u124 u125 : Value) (rows : List Value) (wx : World), Mtx d d.stones u13 rows ws wx → Q (.exit 2) ⟨List.toArray (s0 :: s1 :: u2 :: s3 :: Value.pointer (some ⟨w2.heap.size, 0, none⟩) :: s5 :: Value.pointer (some ⟨w6.heap.size, 0, none⟩) :: s7 :: s8 :: s9 :: s10 :: s11 :: s12 :: u13 :: u14 :: u15 :: u16 :: u17 :: u18 :: u19 :: u20 :: s21 :: s22 :: s23 :: s24 :: s25 :: s26 :: s27 :: s28 :: s29 :: s30 :: s31 :: s32 :: s33 :: s34 :: s35 :: s36 :: s37 :: s38 :: s39 :: s40 :: s41 :: s42 :: s43 :: s44 :: s45 :: s46 :: s47 :: s48 :: s49 :: s50 :: s51 :: s52 :: s53 :: s54 :: s55 :: s56 :: s57 :: s58 :: s59 :: s60 :: s61 :: s62 :: s63 :: s64 :: s65 :: s66 :: s67 :: s68 :: s69 :: s70 :: s71 :: s72 :: s73 :: s74 :: s75 :: s76 :: s77 :: s78 :: s79 :: s80 :: u81 :: u82 :: u83 :: u84 :: u85 :: u86 :: u87 :: u88 :: u89 :: u90 :: u91 :: u92 :: u93 :: u94 :: u95 :: u96 :: u97 :: u98 :: u99 :: u100 :: u101 :: u102 :: u103 :: u104 :: u105 :: u106 :: u107 :: u108 :: u109 :: u110 :: u111 :: u112 :: u113 :: u114 :: u115 :: u116 :: u117 :: u118 :: u119 :: u120 :: u121 :: u122 :: u123 :: u124 :: u125 :: s126 :: s127 :: s128 :: s129 :: s130 :: s131 :: s132 :: s133 :: s134 :: s135 :: s136 :: s137 :: s138 :: s139 :: s140 :: s141 :: s142 :: s143 :: s144 :: s145 :: s146 :: s147 :: s148 :: s149 :: s150 :: s151 :: s152 :: s153 :: s154 :: s155 :: s156 :: s157 :: s158 :: s159 :: s160 :: s161 :: s162 :: s163 :: s164 :: s165 :: s166 :: s167 :: s168 :: s169 :: s170 :: s171 :: s172 :: s173 :: s174 :: s175 :: s176 :: s177 :: s178 :: s179 :: s180 :: s181 :: s182 :: s183 :: s184 :: s185 :: s186 :: s187 :: s188 :: s189 :: s190 :: s191 :: s192 :: s193 :: s194 :: s195 :: s196 :: s197 :: s198 :: s199 :: s200 :: []), []⟩ wx) :
    Code.wp Try.prog (ordLoop 2) Q ⟨List.toArray (s0 :: s1 :: s2 :: s3 :: Value.pointer (some ⟨w2.heap.size, 0, none⟩) :: s5 :: Value.pointer (some ⟨w6.heap.size, 0, none⟩) :: s7 :: s8 :: s9 :: s10 :: s11 :: s12 :: Value.slice none 0 0 :: Value.int .i64 0 :: s15 :: s16 :: s17 :: s18 :: s19 :: s20 :: s21 :: s22 :: s23 :: s24 :: s25 :: s26 :: s27 :: s28 :: s29 :: s30 :: s31 :: s32 :: s33 :: s34 :: s35 :: s36 :: s37 :: s38 :: s39 :: s40 :: s41 :: s42 :: s43 :: s44 :: s45 :: s46 :: s47 :: s48 :: s49 :: s50 :: s51 :: s52 :: s53 :: s54 :: s55 :: s56 :: s57 :: s58 :: s59 :: s60 :: s61 :: s62 :: s63 :: s64 :: s65 :: s66 :: s67 :: s68 :: s69 :: s70 :: s71 :: s72 :: s73 :: s74 :: s75 :: s76 :: s77 :: s78 :: s79 :: s80 :: s81 :: s82 :: s83 :: s84 :: s85 :: s86 :: s87 :: s88 :: s89 :: s90 :: s91 :: s92 :: s93 :: s94 :: s95 :: s96 :: s97 :: s98 :: s99 :: s100 :: s101 :: s102 :: s103 :: s104 :: s105 :: s106 :: s107 :: s108 :: s109 :: s110 :: s111 :: s112 :: s113 :: s114 :: s115 :: s116 :: s117 :: s118 :: s119 :: s120 :: s121 :: s122 :: s123 :: s124 :: s125 :: s126 :: s127 :: s128 :: s129 :: s130 :: s131 :: s132 :: s133 :: s134 :: s135 :: s136 :: s137 :: s138 :: s139 :: s140 :: s141 :: s142 :: s143 :: s144 :: s145 :: s146 :: s147 :: s148 :: s149 :: s150 :: s151 :: s152 :: s153 :: s154 :: s155 :: s156 :: s157 :: s158 :: s159 :: s160 :: s161 :: s162 :: s163 :: s164 :: s165 :: s166 :: s167 :: s168 :: s169 :: s170 :: s171 :: s172 :: s173 :: s174 :: s175 :: s176 :: s177 :: s178 :: s179 :: s180 :: s181 :: s182 :: s183 :: s184 :: s185 :: s186 :: s187 :: s188 :: s189 :: s190 :: s191 :: s192 :: s193 :: s194 :: s195 :: s196 :: s197 :: s198 :: s199 :: s200 :: []), []⟩ ws := by
  obtain ⟨kR, hi, hz0, hz1, hz2⟩ := info_parts info_row
  have HR := Lib.hid hi
  have HR0 := Lib.hid hz0
  have HR1 := Lib.hid hz1
  have HR2 := Lib.hid hz2
  clear hi hz0 hz1 hz2
  obtain ⟨kN, hi, hz0, hz1, hz2⟩ := info_parts info_num
  have HI := Lib.hid hi
  have HI0 := Lib.hid hz0
  have HI1 := Lib.hid hz1
  have HI2 := Lib.hid hz2
  clear hi hz0 hz1 hz2
  have HEX := Lib.hid hexit
  have HD := Lib.hid hd
  have HM := Lib.hid hm
  have HT := Lib.hid ht
  have HYES := Lib.hid ((may_iff hd).1 hm)
  have HXA := Lib.hid ((may_iff ht.ok).1 (ht.may hm))
  have HSX := Lib.hid h0
  have hs6 := hd.stones
  have HXS := Lib.hid ht.stones
  clear hexit hd hm ht h0
  conv => arg 2; whnf
  go_loopg [13, 14] d.stones (fun r v m wr => ∃ (k : Nat) (rows : List Value), m = .int .i64 (k : Nat) ∧ k + r = d.stones ∧ Mtx d k v rows ws wr)
  case atStart => exact ⟨0, [], rfl, by omega, Mtx.start d ws⟩
  case round =>
    obtain ⟨i, rows, rfl, hir, hmt⟩ := hrel
    obtain ⟨ga, hga⟩ : ∃ ga, ga = gk := ⟨_, rfl⟩
    obtain ⟨wo, rfl⟩ : ∃ wo : World, wo = wr := ⟨_, rfl⟩
    obtain ⟨Av, cv, rfl⟩ := own_slice hmt.own
    have HMT := Lib.hid hmt
    have HSR := Lib.hid (HSX.out.to hmt.below)
    clear hmt
    by_cases hi : i < d.stones
    · have d0 := HSR.out.lc.kd.cell 0
      simp at d0
      go_wp2_with fail
      go_loopg [15, 16] d.stones (fun r v m wr => ∃ q : Nat, m = .int .i64 (q : Nat) ∧ q + r = d.stones ∧ Below wo.heap.size wo wr ∧ wr.ownsRow wo.heap.size 3 1 v q (intCells (verd d i q)))
      case atStart => exact ⟨0, rfl, by omega, Below.refl _ _, World.ownsRow_nil _ _ _ _⟩
      case round =>
        clear d0
        obtain ⟨q, rfl, hqr, hbl, hol⟩ := hrel
        obtain ⟨Al, cl, rfl⟩ := own_slice hol
        have HBL := Lib.hid hbl
        have HOL := Lib.hid hol
        have HSQ := Lib.hid (HSR.out.to hbl)
        have d0 := HSQ.out.lc.kd.cell 0
        have d1 := HSQ.out.lc.kd.cell 1
        have d2 := HSQ.out.lc.kd.cell 2
        simp at d0 d1 d2
        clear hbl hol
        by_cases hq : q < d.stones
        · obtain ⟨nv, hnv⟩ : ∃ nv, nv = d.laterV (1 + i) (1 + q) := ⟨_, rfl⟩
          have HE1 := Lib.hid (earlier_yes d HD.out HYES.out i q hi hq)
          have HE2 := Lib.hid (earlier_yes x HT.out.ok HXA.out i q (by rw [HXS.out]; exact hi) (by rw [HXS.out]; exact hq))
          rw [HT.out.later HD.out HM.out (1 + i) (1 + q) (by omega) (by omega)] at HE2
          rw [← hnv] at HE1 HE2
          have HNV := Lib.hid hnv
          clear hnv
          go_wp2_with fail
          refine (HE1.out _ _ _ (Nat.le_refl _) HSQ.out.lc.dat.dat).mono ?_
          rintro e w16 ⟨rfl, hb⟩
          have HS16 := Lib.hid (HSQ.out.to hb)
          have HB16 := Lib.hid (HBL.out.trans (hb.mono HBL.out.size))
          have HO16 := Lib.hid (own_fx HOL.out (Fx.of_all hb) (fun _ _ _ _ => trivial))
          clear hb d0 d1 d2 HSQ HBL HOL
          have e0 := (HS16.out.blok 0 rfl).cell 0
          have e1 := (HS16.out.blok 0 rfl).cell 1
          have e2 := (HS16.out.blok 0 rfl).cell 2
          simp at e0 e1 e2
          go_wp2_with fail
          refine (HE2.out _ _ w16 (Nat.le_refl _) (HS16.out.dat 0 rfl).dat).mono ?_
          rintro e w17 ⟨rfl, hb⟩
          have HS17 := Lib.hid (HS16.out.to hb)
          have HB17 := Lib.hid (HB16.out.trans (hb.mono HB16.out.size))
          have HO17 := Lib.hid (own_fx HO16.out (Fx.of_all hb) (fun _ _ _ _ => trivial))
          clear hb e0 e1 e2 HS16 HB16 HO16 HE1 HE2
          have hwz := HB17.out.size
          go_wp2_with (at_builtin; refine wpList_append_lies _ rfl _ _ 22 rfl wo.heap.size 3 kN _ 1 8 Try.underlying22 HI.out HI0.out HI1.out HI2.out rfl (by decide) (.slice Al q cl) q (intCells (verd d i q)) (by rfl) (HO17.out.alloc _) ⟨w17.heap.size, 0, none⟩ 1 1 [.int .i64 nv] (by rfl) (by rfl) (World.news_of_block (cs := #[.int .i64 nv]) (t := 3) (fr := (0, 0)) (heap_alloc_new w17 _)) (by simp [Value.oneCell']) (by omega) (by unfold maxLen; omega) (by omega) (by simp; omega) _ rfl ?_; intro g8 c8 w8 hown8 hgrow8 hat8 hlt8; have hb8 := ((HB17.out.alloc (by omega) (.cells #[.int .i64 nv] 3))).grown hgrow8 (by simp; omega) (fun j e => (HO17.out.lt j e).1); have HO8 := Lib.hid hown8; have HB8 := Lib.hid hb8; clear hown8 hgrow8 hat8 hb8 hlt8)
          go_roundg (gk - 1)
          case measure => omega
          case rel => exact ⟨q + 1, by go_num, by omega, HB8.out, by
            have h := HO8.out
            rw [verd_succ, ← HNV.out]
            simpa [intCells] using h⟩
        · obtain rfl : q = d.stones := by omega
          have HM2 := Lib.hid (HMT.out.to HBL.out)
          have hwz := HBL.out.size
          have hws := HMT.out.below.size
          have HOM := Lib.hid (HOL.out.mono hws)
          go_wp2_with (at_builtin; refine wpList_append_lies _ rfl _ _ 56 rfl ws.heap.size 22 kR _ 1 24 Try.underlying56 HR.out HR0.out HR1.out HR2.out rfl (by decide) (.slice Av i cv) i rows (by rfl) (HM2.out.own.alloc _) ⟨wr.heap.size, 0, none⟩ 1 1 [.slice Al d.stones cl] (by rfl) (by rfl) (World.news_of_block (cs := #[.slice Al d.stones cl]) (t := 22) (fr := (0, 0)) (heap_alloc_new wr _)) (by simp [Value.oneCell']) (by omega) (by unfold maxLen; omega) (by omega) (by simp; omega) _ rfl ?_; intro g8 c8 w8 hown8 hgrow8 hat8 hlt8; have hm8 := (HM2.out.to ((Below.refl _ wr).alloc (Nat.le_refl _) (.cells #[.slice Al d.stones cl] 22))).snoc (HOM.out.alloc _) hgrow8 hown8; have HM8 := Lib.hid hm8; clear hown8 hgrow8 hat8 hm8 hlt8)
          go_roundg (ga - 1)
          case measure => omega
          case rel => exact ⟨i + 1, _, by go_num, by omega, HM8.out⟩
    · obtain rfl : i = d.stones := by omega
      have d0 := HSR.out.lc.kd.cell 0
      simp at d0
      go_wp2_with fail
      exact HEX.out _ _ _ _ _ _ _ _ _ _ _ _ _ _ _ _ _ _ _ _ _ _ _ _ _ _ _ _ _ _ _ _ _ _ _ _ _ _ _ _ _ _ _ _ _ _ _ _ _ _ _ _ _ _ rows _ HMT.out
end Go.Proofs.Ytcbdcdpoackplaa
