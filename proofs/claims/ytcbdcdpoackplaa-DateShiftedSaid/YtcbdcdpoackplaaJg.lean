/- DateShifted: its loops; what it holds. -/
import Derived.Test.YtcbdcdpoackplaaJc
import Derived.Test.YtcbdcdpoackplaaJe
namespace Go.Proofs.Ytcbdcdpoackplaa
open Go.RowKit Dt

noncomputable def shLoop (n : Nat) : Code := (Try.f5.body.bind (findBlock n)).getD .skip
set_option maxRecDepth 100000 in
set_option maxHeartbeats 20000000 in
/-- Spans so many years later, compared. -/
theorem shift_one (w w0 : World) (n ga ca gb cb : Nat) (b : Int) (la lb : List (Int × Int)) (hn : n ≤ 6) (hla : la.length = n) (ha : World.ownsRow w0 w.heap.size 39 2 (.slice (some ⟨ga, 0, none⟩) n ca) n (flatS la)) (hb : World.ownsRow w0 w.heap.size 39 2 (.slice (some ⟨gb, 0, none⟩) n cb) n (flatS lb))
    (hrel : ∀ (i : Nat) (p : Int × Int), la[i]? = some p → lb[i]? = some (p.1 + b, p.2 + b) ∧ -3000 ≤ p.1 ∧ p.1 ≤ p.2 ∧ p.2 ≤ 3000 ∧ -500 ≤ b ∧ b ≤ 500)
    (s0 s1 s2 s3 s4 s5 s7 s9 s11 s13 s14 s15 s16 s17 s18 s19 s20 s21 s22 s23 s24 s25 s26 s27 s28 s29 s30 s31 s32 s33 s34 s35 s36 s37 s38 s39 s40 s41 s42 s43 s44 s45 s46 s47 s48 s49 s50 s51 s52 s53 s54 s55 s56 s57 s58 s59 s60 s61 s62 s63 s64 s65 s66 s67 s68 s69 s70 s71 s72 s73 s74 s75 s76 s77 s78 s79 s80 s81 s82 s83 s84 s85 s86 s87 s88 s89 s90 s91 s92 s93 s94 s95 s96 s97 s98 s99 s100 s101 s102 s103 s104 s105 s106 s107 s108 s109 s110 s111 s112 s113 s114 s115 s116 s117 s118 s119 s120 s121 s122 s123 s124 s125 s126 s127 s128 s129 s130 s131 s132 s133 s134 s135 s136 s137 s138 s139 s140 s141 s142 s143 s144 s145 s146 s147 s148 s149 s150 s151 s152 s153 s154 s155 s156 s157 s158 s159 s160 s161 s162 s163 s164 s165 s166 : Value) (Q : Exit → Act → World → Prop) (hqp : ∀ c a dst v w, Q (.panic c) (Act.put a dst v) w → Q (.panic c) a w)
    (hexit : ∀ (u2 u12 u59 u60 u61 u62 u63 u64 u65 u66 u67 u68 u69 u70 u71 u72 u73 u74 u75 u76 u77 u78 u79 u80 u81 u82 u83 u84 : Value) (wx : World), Below w0.heap.size w0 wx → Q (.exit 0) ⟨List.toArray (s0 :: s1 :: u2 :: s3 :: s4 :: s5 :: Value.int .i64 b :: s7 :: Value.slice (some ⟨ga, 0, none⟩) n ca :: s9 :: Value.slice (some ⟨gb, 0, none⟩) n cb :: s11 :: u12 :: s13 :: s14 :: s15 :: s16 :: s17 :: s18 :: s19 :: s20 :: s21 :: s22 :: s23 :: s24 :: s25 :: s26 :: s27 :: s28 :: s29 :: s30 :: s31 :: s32 :: s33 :: s34 :: s35 :: s36 :: s37 :: s38 :: s39 :: s40 :: s41 :: s42 :: s43 :: s44 :: s45 :: s46 :: s47 :: s48 :: s49 :: s50 :: s51 :: s52 :: s53 :: s54 :: s55 :: s56 :: s57 :: s58 :: u59 :: u60 :: u61 :: u62 :: u63 :: u64 :: u65 :: u66 :: u67 :: u68 :: u69 :: u70 :: u71 :: u72 :: u73 :: u74 :: u75 :: u76 :: u77 :: u78 :: u79 :: u80 :: u81 :: u82 :: u83 :: u84 :: s85 :: s86 :: s87 :: s88 :: s89 :: s90 :: s91 :: s92 :: s93 :: s94 :: s95 :: s96 :: s97 :: s98 :: s99 :: s100 :: s101 :: s102 :: s103 :: s104 :: s105 :: s106 :: s107 :: s108 :: s109 :: s110 :: s111 :: s112 :: s113 :: s114 :: s115 :: s116 :: s117 :: s118 :: s119 :: s120 :: s121 :: s122 :: s123 :: s124 :: s125 :: s126 :: s127 :: s128 :: s129 :: s130 :: s131 :: s132 :: s133 :: s134 :: s135 :: s136 :: s137 :: s138 :: s139 :: s140 :: s141 :: s142 :: s143 :: s144 :: s145 :: s146 :: s147 :: s148 :: s149 :: s150 :: s151 :: s152 :: s153 :: s154 :: s155 :: s156 :: s157 :: s158 :: s159 :: s160 :: s161 :: s162 :: s163 :: s164 :: s165 :: s166 :: []), []⟩ wx) :
    Code.wp Try.prog (shLoop 0) Q ⟨List.toArray (s0 :: s1 :: s2 :: s3 :: s4 :: s5 :: Value.int .i64 b :: s7 :: Value.slice (some ⟨ga, 0, none⟩) n ca :: s9 :: Value.slice (some ⟨gb, 0, none⟩) n cb :: s11 :: Value.int .i64 0 :: s13 :: s14 :: s15 :: s16 :: s17 :: s18 :: s19 :: s20 :: s21 :: s22 :: s23 :: s24 :: s25 :: s26 :: s27 :: s28 :: s29 :: s30 :: s31 :: s32 :: s33 :: s34 :: s35 :: s36 :: s37 :: s38 :: s39 :: s40 :: s41 :: s42 :: s43 :: s44 :: s45 :: s46 :: s47 :: s48 :: s49 :: s50 :: s51 :: s52 :: s53 :: s54 :: s55 :: s56 :: s57 :: s58 :: s59 :: s60 :: s61 :: s62 :: s63 :: s64 :: s65 :: s66 :: s67 :: s68 :: s69 :: s70 :: s71 :: s72 :: s73 :: s74 :: s75 :: s76 :: s77 :: s78 :: s79 :: s80 :: s81 :: s82 :: s83 :: s84 :: s85 :: s86 :: s87 :: s88 :: s89 :: s90 :: s91 :: s92 :: s93 :: s94 :: s95 :: s96 :: s97 :: s98 :: s99 :: s100 :: s101 :: s102 :: s103 :: s104 :: s105 :: s106 :: s107 :: s108 :: s109 :: s110 :: s111 :: s112 :: s113 :: s114 :: s115 :: s116 :: s117 :: s118 :: s119 :: s120 :: s121 :: s122 :: s123 :: s124 :: s125 :: s126 :: s127 :: s128 :: s129 :: s130 :: s131 :: s132 :: s133 :: s134 :: s135 :: s136 :: s137 :: s138 :: s139 :: s140 :: s141 :: s142 :: s143 :: s144 :: s145 :: s146 :: s147 :: s148 :: s149 :: s150 :: s151 :: s152 :: s153 :: s154 :: s155 :: s156 :: s157 :: s158 :: s159 :: s160 :: s161 :: s162 :: s163 :: s164 :: s165 :: s166 :: []), []⟩ w0 := by
  have HEX := Lib.hid hexit
  have HQP := Lib.hid hqp
  have HA := Lib.hid ha
  have HB := Lib.hid hb
  have HREL := Lib.hid hrel
  have HLA := Lib.hid hla
  clear hexit hqp ha hb hrel hla
  conv => arg 2; whnf
  go_loopg [12] n (fun r i wr => ∃ k : Nat, i = .int .i64 (k : Nat) ∧ k + r = n ∧ Below w0.heap.size w0 wr)
  case atStart => exact ⟨0, rfl, by omega, Below.refl _ _⟩
  case round =>
    obtain ⟨k, rfl, hkr, hbl⟩ := hrel
    have HS := Lib.hid hbl
    clear hbl
    by_cases hlt : k < n
    · obtain ⟨p, hp⟩ : ∃ p, la[k]? = some p := ⟨_, List.getElem?_eq_getElem (by have := HLA.out; omega)⟩
      obtain ⟨hq, p1, p2, p3, b1, b2⟩ := HREL.out k p hp
      obtain ⟨x1, x2⟩ := flatS_at la k p hp
      obtain ⟨y1, y2⟩ := flatS_at lb k _ hq
      have HCA := Lib.hid (fun (W : World) (h : Below w0.heap.size w0 W) => (show W.cell? ⟨ga, k * 2, none⟩ = some (.int .i64 p.1) ∧ W.cell? ⟨ga, k * 2 + 1, none⟩ = some (.int .i64 p.2) from
        ⟨(h.cell (p := ⟨ga, k * 2, none⟩) (HA.out.lt ga rfl).2).trans ((HA.out.cellAt (k * 2) (by omega)).trans x1), (h.cell (p := ⟨ga, k * 2 + 1, none⟩) (HA.out.lt ga rfl).2).trans ((HA.out.cellAt (k * 2 + 1) (by omega)).trans x2)⟩))
      have HCB := Lib.hid (fun (W : World) (h : Below w0.heap.size w0 W) => (show W.cell? ⟨gb, k * 2, none⟩ = some (.int .i64 (p.1 + b, p.2 + b).1) ∧ W.cell? ⟨gb, k * 2 + 1, none⟩ = some (.int .i64 (p.1 + b, p.2 + b).2) from
        ⟨(h.cell (p := ⟨gb, k * 2, none⟩) (HB.out.lt gb rfl).2).trans ((HB.out.cellAt (k * 2) (by omega)).trans y1), (h.cell (p := ⟨gb, k * 2 + 1, none⟩) (HB.out.lt gb rfl).2).trans ((HB.out.cellAt (k * 2 + 1) (by omega)).trans y2)⟩))
      clear hp hq x1 x2 y1 y2
      have q1 : IntKind.i64.wrap (p.1 + b) = p.1 + b := IntWalk.i64_in _ (by omega)
      have q2 : IntKind.i64.wrap (p.2 + b) = p.2 + b := IntWalk.i64_in _ (by omega)
      go_wp2_with fail
      refine wp_region_v [(fun j => j == 8 || j == 10 || j == 15 || j == 17 || j == 18 || j == 19, fun W => W.cell? ⟨ga, k * 2, none⟩ = some (.int .i64 p.1) ∧ W.cell? ⟨ga, k * 2 + 1, none⟩ = some (.int .i64 p.2)), (fun j => j == 3 || j == 8 || j == 10 || j == 15 || j == 17 || j == 18 || j == 19, fun W => W.cell? ⟨gb, k * 2, none⟩ = some (.int .i64 (p.1 + b, p.2 + b).1) ∧ W.cell? ⟨gb, k * 2 + 1, none⟩ = some (.int .i64 (p.1 + b, p.2 + b).2))] (by kernel_rfl) ?_
      refine wpAnyV_world (fun W => Below w0.heap.size w0 W) HS.out.drew (fun V hV => ?_)
      have HV := Lib.hid hV
      clear hV
      refine wpAnyV_free (i := 0) (v := ?_) (by simp only [List.getElem?_toArray, List.getElem?_cons_zero]; rfl) (by kernel_rfl) (by kernel_rfl) (by kernel_rfl) (by kernel_rfl) (by exact fun c a w h => HQP.out c a _ _ w h) (Or.inl ⟨by rfl, ?hye2⟩) (behind_cons (fun h => by simp at h) (behind_cons (fun h => by simp at h) (fun p hp => by cases hp))) ?reste2
      case hye2 => (intro W' _; go_simp; try with_reducible rfl)
      try simp only [Act.put, List.setIfInBounds_toArray, List.set_cons_zero, List.set_cons_succ]
      refine wpAnyV_free (i := 1) (v := ?_) (by simp only [List.getElem?_toArray, List.getElem?_cons_zero, List.getElem?_cons_succ]; rfl) (by kernel_rfl) (by kernel_rfl) (by kernel_rfl) (by kernel_rfl) (by exact fun c a w h => HQP.out c a _ _ w h) (Or.inl ⟨by rfl, ?hye3⟩) (behind_cons (fun h => by simp at h) (behind_cons (fun h => by simp at h) (fun p hp => by cases hp))) ?reste3
      case hye3 => (intro W' _; go_simp; try with_reducible rfl)
      try simp only [Act.put, List.setIfInBounds_toArray, List.set_cons_zero, List.set_cons_succ]
      refine wpAnyV_free (i := 2) (v := ?_) (by simp only [List.getElem?_toArray, List.getElem?_cons_zero, List.getElem?_cons_succ]; rfl) (by kernel_rfl) (by kernel_rfl) (by kernel_rfl) (by kernel_rfl) (by exact fun c a w h => HQP.out c a _ _ w h) (Or.inl ⟨by rfl, ?hye4⟩) (behind_cons (fun h => by simp at h) (behind_cons (fun h => by simp at h) (fun p hp => by cases hp))) ?reste4
      case hye4 => (intro W' _; go_simp; try with_reducible rfl)
      try simp only [Act.put, List.setIfInBounds_toArray, List.set_cons_zero, List.set_cons_succ]
      refine wpAnyV_free (i := 4) (v := ?_) (by simp only [List.getElem?_toArray, List.getElem?_cons_zero, List.getElem?_cons_succ]; rfl) (by kernel_rfl) (by kernel_rfl) (by kernel_rfl) (by kernel_rfl) (by exact fun c a w h => HQP.out c a _ _ w h) (Or.inl ⟨by rfl, ?hye5⟩) (behind_cons (fun h => by simp at h) (behind_cons (fun h => by simp at h) (fun p hp => by cases hp))) ?reste5
      case hye5 => (intro W' _; go_simp; try with_reducible rfl)
      try simp only [Act.put, List.setIfInBounds_toArray, List.set_cons_zero, List.set_cons_succ]
      refine wpAnyV_free (i := 5) (v := ?_) (by simp only [List.getElem?_toArray, List.getElem?_cons_zero, List.getElem?_cons_succ]; rfl) (by kernel_rfl) (by kernel_rfl) (by kernel_rfl) (by kernel_rfl) (by exact fun c a w h => HQP.out c a _ _ w h) (Or.inl ⟨by rfl, ?hye6⟩) (behind_cons (fun h => by simp at h) (behind_cons (fun h => by simp at h) (fun p hp => by cases hp))) ?reste6
      case hye6 => (intro W' _; go_simp; try with_reducible rfl)
      try simp only [Act.put, List.setIfInBounds_toArray, List.set_cons_zero, List.set_cons_succ]
      refine wpAnyV_free (i := 6) (v := ?_) (by simp only [List.getElem?_toArray, List.getElem?_cons_zero, List.getElem?_cons_succ]; rfl) (by kernel_rfl) (by kernel_rfl) (by kernel_rfl) (by kernel_rfl) (by exact fun c a w h => HQP.out c a _ _ w h) (Or.inl ⟨by rfl, ?hye7⟩) (behind_cons (fun h => by simp at h) (behind_cons (fun h => by simp at h) (fun p hp => by cases hp))) ?reste7
      case hye7 => (intro W' _; go_simp; try with_reducible rfl)
      try simp only [Act.put, List.setIfInBounds_toArray, List.set_cons_zero, List.set_cons_succ]
      refine wpAnyV_free (i := 7) (v := ?_) (by simp only [List.getElem?_toArray, List.getElem?_cons_zero, List.getElem?_cons_succ]; rfl) (by kernel_rfl) (by kernel_rfl) (by kernel_rfl) (by kernel_rfl) (by exact fun c a w h => HQP.out c a _ _ w h) (Or.inl ⟨by rfl, ?hye8⟩) (behind_cons (fun h => by simp at h) (behind_cons (fun h => by simp at h) (fun p hp => by cases hp))) ?reste8
      case hye8 => (intro W' _; go_simp; try with_reducible rfl)
      try simp only [Act.put, List.setIfInBounds_toArray, List.set_cons_zero, List.set_cons_succ]
      refine wpAnyV_free (i := 9) (v := ?_) (by simp only [List.getElem?_toArray, List.getElem?_cons_zero, List.getElem?_cons_succ]; rfl) (by kernel_rfl) (by kernel_rfl) (by kernel_rfl) (by kernel_rfl) (by exact fun c a w h => HQP.out c a _ _ w h) (Or.inl ⟨by rfl, ?hye9⟩) (behind_cons (fun h => by simp at h) (behind_cons (fun h => by simp at h) (fun p hp => by cases hp))) ?reste9
      case hye9 => (intro W' _; go_simp; try with_reducible rfl)
      try simp only [Act.put, List.setIfInBounds_toArray, List.set_cons_zero, List.set_cons_succ]
      refine wpAnyV_free (i := 11) (v := ?_) (by simp only [List.getElem?_toArray, List.getElem?_cons_zero, List.getElem?_cons_succ]; rfl) (by kernel_rfl) (by kernel_rfl) (by kernel_rfl) (by kernel_rfl) (by exact fun c a w h => HQP.out c a _ _ w h) (Or.inl ⟨by rfl, ?hye10⟩) (behind_cons (fun h => by simp at h) (behind_cons (fun h => by simp at h) (fun p hp => by cases hp))) ?reste10
      case hye10 => (intro W' _; go_simp; try with_reducible rfl)
      try simp only [Act.put, List.setIfInBounds_toArray, List.set_cons_zero, List.set_cons_succ]
      refine wpAnyV_free (i := 12) (v := ?_) (by simp only [List.getElem?_toArray, List.getElem?_cons_zero, List.getElem?_cons_succ]; rfl) (by kernel_rfl) (by kernel_rfl) (by kernel_rfl) (by kernel_rfl) (by exact fun c a w h => HQP.out c a _ _ w h) (Or.inl ⟨by rfl, ?hye11⟩) (behind_cons (fun h => by simp at h) (behind_cons (fun h => by simp at h) (fun p hp => by cases hp))) ?reste11
      case hye11 => (intro W' _; go_simp; try with_reducible rfl)
      try simp only [Act.put, List.setIfInBounds_toArray, List.set_cons_zero, List.set_cons_succ]
      refine wpAnyV_free (i := 13) (v := ?_) (by simp only [List.getElem?_toArray, List.getElem?_cons_zero, List.getElem?_cons_succ]; rfl) (by kernel_rfl) (by kernel_rfl) (by kernel_rfl) (by kernel_rfl) (by exact fun c a w h => HQP.out c a _ _ w h) (Or.inl ⟨by rfl, ?hye12⟩) (behind_cons (fun h => by simp at h) (behind_cons (fun h => by simp at h) (fun p hp => by cases hp))) ?reste12
      case hye12 => (intro W' _; go_simp; try with_reducible rfl)
      try simp only [Act.put, List.setIfInBounds_toArray, List.set_cons_zero, List.set_cons_succ]
      refine wpAnyV_free (i := 14) (v := ?_) (by simp only [List.getElem?_toArray, List.getElem?_cons_zero, List.getElem?_cons_succ]; rfl) (by kernel_rfl) (by kernel_rfl) (by kernel_rfl) (by kernel_rfl) (by exact fun c a w h => HQP.out c a _ _ w h) (Or.inl ⟨by rfl, ?hye13⟩) (behind_cons (fun h => by simp at h) (behind_cons (fun h => by simp at h) (fun p hp => by cases hp))) ?reste13
      case hye13 => (intro W' _; go_simp; try with_reducible rfl)
      try simp only [Act.put, List.setIfInBounds_toArray, List.set_cons_zero, List.set_cons_succ]
      refine wpAnyV_free (i := 16) (v := ?_) (by simp only [List.getElem?_toArray, List.getElem?_cons_zero, List.getElem?_cons_succ]; rfl) (by kernel_rfl) (by kernel_rfl) (by kernel_rfl) (by kernel_rfl) (by exact fun c a w h => HQP.out c a _ _ w h) (Or.inl ⟨by rfl, ?hye14⟩) (behind_cons (fun h => by simp at h) (behind_cons (fun h => by simp at h) (fun p hp => by cases hp))) ?reste14
      case hye14 => (intro W' _; go_simp; try with_reducible rfl)
      try simp only [Act.put, List.setIfInBounds_toArray, List.set_cons_zero, List.set_cons_succ]
      refine wpAnyV_take (i := 3) (m := 1) (v := ?_) (by simp only [List.getElem?_toArray, List.getElem?_cons_zero, List.getElem?_cons_succ]; rfl) (by rfl) (by kernel_rfl) (by kernel_rfl) (by kernel_rfl) (by kernel_rfl) (by exact fun c a w h => HQP.out c a _ _ w h) (Or.inl ⟨by rfl, ?hye15⟩) ((HCB.out _ HV.out)) (behind_cons (fun h => by simp at h) (behind_cons (fun _ => (HCB.out _ HV.out)) (fun p hp => by cases hp))) ?reste15
      case hye15 => (intro W' hSW; go_simp; try with_reducible rfl)
      try simp only [Act.put, List.setIfInBounds_toArray, List.set_cons_zero, List.set_cons_succ]
      refine wpAnyV_take (i := 8) (m := 0) (v := ?_) (by simp only [List.getElem?_toArray, List.getElem?_cons_zero, List.getElem?_cons_succ]; rfl) (by rfl) (by kernel_rfl) (by kernel_rfl) (by kernel_rfl) (by kernel_rfl) (by exact fun c a w h => HQP.out c a _ _ w h) (Or.inl ⟨by rfl, ?hye16⟩) ((HCA.out _ HV.out)) (behind_cons (fun _ => (HCA.out _ HV.out)) (behind_cons (fun _ => (HCB.out _ HV.out)) (fun p hp => by cases hp))) ?reste16
      case hye16 => (intro W' hSW; go_simp; try with_reducible rfl)
      try simp only [Act.put, List.setIfInBounds_toArray, List.set_cons_zero, List.set_cons_succ]
      refine wpAnyV_free (i := 10) (v := ?_) (by simp only [List.getElem?_toArray, List.getElem?_cons_zero, List.getElem?_cons_succ]; rfl) (by kernel_rfl) (by kernel_rfl) (by kernel_rfl) (by kernel_rfl) (by exact fun c a w h => HQP.out c a _ _ w h) (Or.inl ⟨by rfl, ?hye17⟩) (behind_cons (fun _ => (HCA.out _ HV.out)) (behind_cons (fun _ => (HCB.out _ HV.out)) (fun p hp => by cases hp))) ?reste17
      case hye17 => (intro W' _; go_simp; try with_reducible rfl)
      try simp only [Act.put, List.setIfInBounds_toArray, List.set_cons_zero, List.set_cons_succ]
      refine wpAnyV_take (i := 15) (m := 0) (v := ?_) (by simp only [List.getElem?_toArray, List.getElem?_cons_zero, List.getElem?_cons_succ]; rfl) (by rfl) (by kernel_rfl) (by kernel_rfl) (by kernel_rfl) (by kernel_rfl) (by exact fun c a w h => HQP.out c a _ _ w h) (Or.inl ⟨by rfl, ?hye18⟩) ((HCA.out _ HV.out)) (behind_cons (fun _ => (HCA.out _ HV.out)) (behind_cons (fun _ => (HCB.out _ HV.out)) (fun p hp => by cases hp))) ?reste18
      case hye18 => (intro W' hSW; go_simp; try with_reducible rfl)
      try simp only [Act.put, List.setIfInBounds_toArray, List.set_cons_zero, List.set_cons_succ]
      refine wpAnyV_free (i := 17) (v := ?_) (by simp only [List.getElem?_toArray, List.getElem?_cons_zero, List.getElem?_cons_succ]; rfl) (by kernel_rfl) (by kernel_rfl) (by kernel_rfl) (by kernel_rfl) (by exact fun c a w h => HQP.out c a _ _ w h) (Or.inl ⟨by rfl, ?hye19⟩) (behind_cons (fun _ => (HCA.out _ HV.out)) (behind_cons (fun _ => (HCB.out _ HV.out)) (fun p hp => by cases hp))) ?reste19
      case hye19 => (intro W' _; go_simp; try with_reducible rfl)
      try simp only [Act.put, List.setIfInBounds_toArray, List.set_cons_zero, List.set_cons_succ]
      refine wpAnyV_ready (rs := [18]) (by kernel_rfl) (by simp) ?_
      refine AllReadyV.cons (by simp only [List.getElem?_toArray, List.getElem?_cons_zero, List.getElem?_cons_succ]; rfl) (fun K hK => ?_) AllReadyV.nil
      go_simp
      go_at_call 23
      (with_reducible refine (to_any (p.1 + b) (p.2 + b) _).mono ?_)
      rintro e w501 ⟨rfl, hb⟩
      have HC501 := Lib.hid (HV.out.trans (hb.mono HV.out.size))
      clear hb
      refine hK.out _ _ (behind_cons (fun _ => (HCA.out _ HC501.out)) (behind_cons (fun _ => (HCB.out _ HC501.out)) (fun p hp => by cases hp))) ?_
      clear hK K
      try simp only [Act.put, List.setIfInBounds_toArray, List.set_cons_zero, List.set_cons_succ]
      refine wpAnyV_free (i := 19) (v := ?_) (by simp only [List.getElem?_toArray, List.getElem?_cons_zero, List.getElem?_cons_succ]; rfl) (by kernel_rfl) (by kernel_rfl) (by kernel_rfl) (by kernel_rfl) (by exact fun c a w h => HQP.out c a _ _ w h) (Or.inl ⟨by rfl, ?hye21⟩) (behind_cons (fun _ => (HCA.out _ HC501.out)) (behind_cons (fun _ => (HCB.out _ HC501.out)) (fun p hp => by cases hp))) ?reste21
      case hye21 => (intro W' _; go_simp; try with_reducible rfl)
      try simp only [Act.put, List.setIfInBounds_toArray, List.set_cons_zero, List.set_cons_succ]
      refine wpAnyV_done (by kernel_rfl) ?_ _
      have HS9 := HC501
      go_wp2_with fail
      go_roundg (gk - 1)
      case measure => omega
      case rel => exact ⟨k + 1, by go_num, by omega, HS9.out⟩
    · obtain rfl : k = n := by omega
      go_wp2_with fail
      exact HEX.out _ _ _ _ _ _ _ _ _ _ _ _ _ _ _ _ _ _ _ _ _ _ _ _ _ _ _ _ _ HS.out
set_option maxRecDepth 100000 in
set_option maxHeartbeats 20000000 in
/-- Spans with time turned round, compared. -/
theorem shift_two (w w0 : World) (n ga ca gb cb : Nat) (b : Int) (la lb : List (Int × Int)) (hn : n ≤ 6) (hla : la.length = n) (ha : World.ownsRow w0 w.heap.size 39 2 (.slice (some ⟨ga, 0, none⟩) n ca) n (flatS la)) (hb : World.ownsRow w0 w.heap.size 39 2 (.slice (some ⟨gb, 0, none⟩) n cb) n (flatS lb))
    (hrel : ∀ (i : Nat) (p : Int × Int), la[i]? = some p → lb[i]? = some (-p.2, -p.1) ∧ -3000 ≤ p.1 ∧ p.1 ≤ p.2 ∧ p.2 ≤ 3000 ∧ -500 ≤ b ∧ b ≤ 500)
    (s0 s1 s2 s3 s4 s5 s6 s7 s8 s9 s10 s11 s12 s13 s14 s15 s16 s17 s18 s19 s21 s23 s25 s26 s27 s28 s29 s30 s31 s32 s33 s34 s35 s36 s37 s38 s39 s40 s41 s42 s43 s44 s45 s46 s47 s48 s49 s50 s51 s52 s53 s54 s55 s56 s57 s58 s59 s60 s61 s62 s63 s64 s65 s66 s67 s68 s69 s70 s71 s72 s73 s74 s75 s76 s77 s78 s79 s80 s81 s82 s83 s84 s85 s86 s87 s88 s89 s90 s91 s92 s93 s94 s95 s96 s97 s98 s99 s100 s101 s102 s103 s104 s105 s106 s107 s108 s109 s110 s111 s112 s113 s114 s115 s116 s117 s118 s119 s120 s121 s122 s123 s124 s125 s126 s127 s128 s129 s130 s131 s132 s133 s134 s135 s136 s137 s138 s139 s140 s141 s142 s143 s144 s145 s146 s147 s148 s149 s150 s151 s152 s153 s154 s155 s156 s157 s158 s159 s160 s161 s162 s163 s164 s165 s166 : Value) (Q : Exit → Act → World → Prop) (hqp : ∀ c a dst v w, Q (.panic c) (Act.put a dst v) w → Q (.panic c) a w)
    (hexit : ∀ (u2 u24 u142 u143 u144 u145 u146 u147 u148 u149 u150 u151 u152 u153 u154 u155 u156 u157 u158 u159 u160 u161 u162 u163 u164 u165 : Value) (wx : World), Below w0.heap.size w0 wx → Q (.exit 2) ⟨List.toArray (s0 :: s1 :: u2 :: s3 :: s4 :: s5 :: s6 :: s7 :: s8 :: s9 :: s10 :: s11 :: s12 :: s13 :: s14 :: s15 :: s16 :: s17 :: s18 :: s19 :: Value.slice (some ⟨ga, 0, none⟩) n ca :: s21 :: Value.slice (some ⟨gb, 0, none⟩) n cb :: s23 :: u24 :: s25 :: s26 :: s27 :: s28 :: s29 :: s30 :: s31 :: s32 :: s33 :: s34 :: s35 :: s36 :: s37 :: s38 :: s39 :: s40 :: s41 :: s42 :: s43 :: s44 :: s45 :: s46 :: s47 :: s48 :: s49 :: s50 :: s51 :: s52 :: s53 :: s54 :: s55 :: s56 :: s57 :: s58 :: s59 :: s60 :: s61 :: s62 :: s63 :: s64 :: s65 :: s66 :: s67 :: s68 :: s69 :: s70 :: s71 :: s72 :: s73 :: s74 :: s75 :: s76 :: s77 :: s78 :: s79 :: s80 :: s81 :: s82 :: s83 :: s84 :: s85 :: s86 :: s87 :: s88 :: s89 :: s90 :: s91 :: s92 :: s93 :: s94 :: s95 :: s96 :: s97 :: s98 :: s99 :: s100 :: s101 :: s102 :: s103 :: s104 :: s105 :: s106 :: s107 :: s108 :: s109 :: s110 :: s111 :: s112 :: s113 :: s114 :: s115 :: s116 :: s117 :: s118 :: s119 :: s120 :: s121 :: s122 :: s123 :: s124 :: s125 :: s126 :: s127 :: s128 :: s129 :: s130 :: s131 :: s132 :: s133 :: s134 :: s135 :: s136 :: s137 :: s138 :: s139 :: s140 :: s141 :: u142 :: u143 :: u144 :: u145 :: u146 :: u147 :: u148 :: u149 :: u150 :: u151 :: u152 :: u153 :: u154 :: u155 :: u156 :: u157 :: u158 :: u159 :: u160 :: u161 :: u162 :: u163 :: u164 :: u165 :: s166 :: []), []⟩ wx) :
    Code.wp Try.prog (shLoop 2) Q ⟨List.toArray (s0 :: s1 :: s2 :: s3 :: s4 :: s5 :: s6 :: s7 :: s8 :: s9 :: s10 :: s11 :: s12 :: s13 :: s14 :: s15 :: s16 :: s17 :: s18 :: s19 :: Value.slice (some ⟨ga, 0, none⟩) n ca :: s21 :: Value.slice (some ⟨gb, 0, none⟩) n cb :: s23 :: Value.int .i64 0 :: s25 :: s26 :: s27 :: s28 :: s29 :: s30 :: s31 :: s32 :: s33 :: s34 :: s35 :: s36 :: s37 :: s38 :: s39 :: s40 :: s41 :: s42 :: s43 :: s44 :: s45 :: s46 :: s47 :: s48 :: s49 :: s50 :: s51 :: s52 :: s53 :: s54 :: s55 :: s56 :: s57 :: s58 :: s59 :: s60 :: s61 :: s62 :: s63 :: s64 :: s65 :: s66 :: s67 :: s68 :: s69 :: s70 :: s71 :: s72 :: s73 :: s74 :: s75 :: s76 :: s77 :: s78 :: s79 :: s80 :: s81 :: s82 :: s83 :: s84 :: s85 :: s86 :: s87 :: s88 :: s89 :: s90 :: s91 :: s92 :: s93 :: s94 :: s95 :: s96 :: s97 :: s98 :: s99 :: s100 :: s101 :: s102 :: s103 :: s104 :: s105 :: s106 :: s107 :: s108 :: s109 :: s110 :: s111 :: s112 :: s113 :: s114 :: s115 :: s116 :: s117 :: s118 :: s119 :: s120 :: s121 :: s122 :: s123 :: s124 :: s125 :: s126 :: s127 :: s128 :: s129 :: s130 :: s131 :: s132 :: s133 :: s134 :: s135 :: s136 :: s137 :: s138 :: s139 :: s140 :: s141 :: s142 :: s143 :: s144 :: s145 :: s146 :: s147 :: s148 :: s149 :: s150 :: s151 :: s152 :: s153 :: s154 :: s155 :: s156 :: s157 :: s158 :: s159 :: s160 :: s161 :: s162 :: s163 :: s164 :: s165 :: s166 :: []), []⟩ w0 := by
  have HEX := Lib.hid hexit
  have HQP := Lib.hid hqp
  have HA := Lib.hid ha
  have HB := Lib.hid hb
  have HREL := Lib.hid hrel
  have HLA := Lib.hid hla
  clear hexit hqp ha hb hrel hla
  conv => arg 2; whnf
  go_loopg [24] n (fun r i wr => ∃ k : Nat, i = .int .i64 (k : Nat) ∧ k + r = n ∧ Below w0.heap.size w0 wr)
  case atStart => exact ⟨0, rfl, by omega, Below.refl _ _⟩
  case round =>
    obtain ⟨k, rfl, hkr, hbl⟩ := hrel
    have HS := Lib.hid hbl
    clear hbl
    by_cases hlt : k < n
    · obtain ⟨p, hp⟩ : ∃ p, la[k]? = some p := ⟨_, List.getElem?_eq_getElem (by have := HLA.out; omega)⟩
      obtain ⟨hq, p1, p2, p3, b1, b2⟩ := HREL.out k p hp
      obtain ⟨x1, x2⟩ := flatS_at la k p hp
      obtain ⟨y1, y2⟩ := flatS_at lb k _ hq
      have HCA := Lib.hid (fun (W : World) (h : Below w0.heap.size w0 W) => (show W.cell? ⟨ga, k * 2, none⟩ = some (.int .i64 p.1) ∧ W.cell? ⟨ga, k * 2 + 1, none⟩ = some (.int .i64 p.2) from
        ⟨(h.cell (p := ⟨ga, k * 2, none⟩) (HA.out.lt ga rfl).2).trans ((HA.out.cellAt (k * 2) (by omega)).trans x1), (h.cell (p := ⟨ga, k * 2 + 1, none⟩) (HA.out.lt ga rfl).2).trans ((HA.out.cellAt (k * 2 + 1) (by omega)).trans x2)⟩))
      have HCB := Lib.hid (fun (W : World) (h : Below w0.heap.size w0 W) => (show W.cell? ⟨gb, k * 2, none⟩ = some (.int .i64 (-p.2, -p.1).1) ∧ W.cell? ⟨gb, k * 2 + 1, none⟩ = some (.int .i64 (-p.2, -p.1).2) from
        ⟨(h.cell (p := ⟨gb, k * 2, none⟩) (HB.out.lt gb rfl).2).trans ((HB.out.cellAt (k * 2) (by omega)).trans y1), (h.cell (p := ⟨gb, k * 2 + 1, none⟩) (HB.out.lt gb rfl).2).trans ((HB.out.cellAt (k * 2 + 1) (by omega)).trans y2)⟩))
      clear hp hq x1 x2 y1 y2
      have q1 : IntKind.i64.wrap (-p.1) = -p.1 := IntWalk.i64_in _ (by omega)
      have q2 : IntKind.i64.wrap (-p.2) = -p.2 := IntWalk.i64_in _ (by omega)
      go_wp2_with fail
      refine wp_region_v [(fun j => j == 8 || j == 9 || j == 14 || j == 15 || j == 16 || j == 17, fun W => W.cell? ⟨ga, k * 2, none⟩ = some (.int .i64 p.1) ∧ W.cell? ⟨ga, k * 2 + 1, none⟩ = some (.int .i64 p.2)), (fun j => j == 3 || j == 8 || j == 9 || j == 14 || j == 15 || j == 16 || j == 17, fun W => W.cell? ⟨gb, k * 2, none⟩ = some (.int .i64 (-p.2, -p.1).1) ∧ W.cell? ⟨gb, k * 2 + 1, none⟩ = some (.int .i64 (-p.2, -p.1).2))] (by kernel_rfl) ?_
      refine wpAnyV_world (fun W => Below w0.heap.size w0 W) HS.out.drew (fun V hV => ?_)
      have HV := Lib.hid hV
      clear hV
      refine wpAnyV_free (i := 0) (v := ?_) (by simp only [List.getElem?_toArray, List.getElem?_cons_zero]; rfl) (by kernel_rfl) (by kernel_rfl) (by kernel_rfl) (by kernel_rfl) (by exact fun c a w h => HQP.out c a _ _ w h) (Or.inl ⟨by rfl, ?hye2⟩) (behind_cons (fun h => by simp at h) (behind_cons (fun h => by simp at h) (fun p hp => by cases hp))) ?reste2
      case hye2 => (intro W' _; go_simp; try with_reducible rfl)
      try simp only [Act.put, List.setIfInBounds_toArray, List.set_cons_zero, List.set_cons_succ]
      refine wpAnyV_free (i := 1) (v := ?_) (by simp only [List.getElem?_toArray, List.getElem?_cons_zero, List.getElem?_cons_succ]; rfl) (by kernel_rfl) (by kernel_rfl) (by kernel_rfl) (by kernel_rfl) (by exact fun c a w h => HQP.out c a _ _ w h) (Or.inl ⟨by rfl, ?hye3⟩) (behind_cons (fun h => by simp at h) (behind_cons (fun h => by simp at h) (fun p hp => by cases hp))) ?reste3
      case hye3 => (intro W' _; go_simp; try with_reducible rfl)
      try simp only [Act.put, List.setIfInBounds_toArray, List.set_cons_zero, List.set_cons_succ]
      refine wpAnyV_free (i := 2) (v := ?_) (by simp only [List.getElem?_toArray, List.getElem?_cons_zero, List.getElem?_cons_succ]; rfl) (by kernel_rfl) (by kernel_rfl) (by kernel_rfl) (by kernel_rfl) (by exact fun c a w h => HQP.out c a _ _ w h) (Or.inl ⟨by rfl, ?hye4⟩) (behind_cons (fun h => by simp at h) (behind_cons (fun h => by simp at h) (fun p hp => by cases hp))) ?reste4
      case hye4 => (intro W' _; go_simp; try with_reducible rfl)
      try simp only [Act.put, List.setIfInBounds_toArray, List.set_cons_zero, List.set_cons_succ]
      refine wpAnyV_free (i := 4) (v := ?_) (by simp only [List.getElem?_toArray, List.getElem?_cons_zero, List.getElem?_cons_succ]; rfl) (by kernel_rfl) (by kernel_rfl) (by kernel_rfl) (by kernel_rfl) (by exact fun c a w h => HQP.out c a _ _ w h) (Or.inl ⟨by rfl, ?hye5⟩) (behind_cons (fun h => by simp at h) (behind_cons (fun h => by simp at h) (fun p hp => by cases hp))) ?reste5
      case hye5 => (intro W' _; go_simp; try with_reducible rfl)
      try simp only [Act.put, List.setIfInBounds_toArray, List.set_cons_zero, List.set_cons_succ]
      refine wpAnyV_free (i := 5) (v := ?_) (by simp only [List.getElem?_toArray, List.getElem?_cons_zero, List.getElem?_cons_succ]; rfl) (by kernel_rfl) (by kernel_rfl) (by kernel_rfl) (by kernel_rfl) (by exact fun c a w h => HQP.out c a _ _ w h) (Or.inl ⟨by rfl, ?hye6⟩) (behind_cons (fun h => by simp at h) (behind_cons (fun h => by simp at h) (fun p hp => by cases hp))) ?reste6
      case hye6 => (intro W' _; go_simp; try with_reducible rfl)
      try simp only [Act.put, List.setIfInBounds_toArray, List.set_cons_zero, List.set_cons_succ]
      refine wpAnyV_free (i := 6) (v := ?_) (by simp only [List.getElem?_toArray, List.getElem?_cons_zero, List.getElem?_cons_succ]; rfl) (by kernel_rfl) (by kernel_rfl) (by kernel_rfl) (by kernel_rfl) (by exact fun c a w h => HQP.out c a _ _ w h) (Or.inl ⟨by rfl, ?hye7⟩) (behind_cons (fun h => by simp at h) (behind_cons (fun h => by simp at h) (fun p hp => by cases hp))) ?reste7
      case hye7 => (intro W' _; go_simp; try with_reducible rfl)
      try simp only [Act.put, List.setIfInBounds_toArray, List.set_cons_zero, List.set_cons_succ]
      refine wpAnyV_free (i := 7) (v := ?_) (by simp only [List.getElem?_toArray, List.getElem?_cons_zero, List.getElem?_cons_succ]; rfl) (by kernel_rfl) (by kernel_rfl) (by kernel_rfl) (by kernel_rfl) (by exact fun c a w h => HQP.out c a _ _ w h) (Or.inl ⟨by rfl, ?hye8⟩) (behind_cons (fun h => by simp at h) (behind_cons (fun h => by simp at h) (fun p hp => by cases hp))) ?reste8
      case hye8 => (intro W' _; go_simp; try with_reducible rfl)
      try simp only [Act.put, List.setIfInBounds_toArray, List.set_cons_zero, List.set_cons_succ]
      refine wpAnyV_free (i := 10) (v := ?_) (by simp only [List.getElem?_toArray, List.getElem?_cons_zero, List.getElem?_cons_succ]; rfl) (by kernel_rfl) (by kernel_rfl) (by kernel_rfl) (by kernel_rfl) (by exact fun c a w h => HQP.out c a _ _ w h) (Or.inl ⟨by rfl, ?hye9⟩) (behind_cons (fun h => by simp at h) (behind_cons (fun h => by simp at h) (fun p hp => by cases hp))) ?reste9
      case hye9 => (intro W' _; go_simp; try with_reducible rfl)
      try simp only [Act.put, List.setIfInBounds_toArray, List.set_cons_zero, List.set_cons_succ]
      refine wpAnyV_free (i := 11) (v := ?_) (by simp only [List.getElem?_toArray, List.getElem?_cons_zero, List.getElem?_cons_succ]; rfl) (by kernel_rfl) (by kernel_rfl) (by kernel_rfl) (by kernel_rfl) (by exact fun c a w h => HQP.out c a _ _ w h) (Or.inl ⟨by rfl, ?hye10⟩) (behind_cons (fun h => by simp at h) (behind_cons (fun h => by simp at h) (fun p hp => by cases hp))) ?reste10
      case hye10 => (intro W' _; go_simp; try with_reducible rfl)
      try simp only [Act.put, List.setIfInBounds_toArray, List.set_cons_zero, List.set_cons_succ]
      refine wpAnyV_free (i := 12) (v := ?_) (by simp only [List.getElem?_toArray, List.getElem?_cons_zero, List.getElem?_cons_succ]; rfl) (by kernel_rfl) (by kernel_rfl) (by kernel_rfl) (by kernel_rfl) (by exact fun c a w h => HQP.out c a _ _ w h) (Or.inl ⟨by rfl, ?hye11⟩) (behind_cons (fun h => by simp at h) (behind_cons (fun h => by simp at h) (fun p hp => by cases hp))) ?reste11
      case hye11 => (intro W' _; go_simp; try with_reducible rfl)
      try simp only [Act.put, List.setIfInBounds_toArray, List.set_cons_zero, List.set_cons_succ]
      refine wpAnyV_free (i := 13) (v := ?_) (by simp only [List.getElem?_toArray, List.getElem?_cons_zero, List.getElem?_cons_succ]; rfl) (by kernel_rfl) (by kernel_rfl) (by kernel_rfl) (by kernel_rfl) (by exact fun c a w h => HQP.out c a _ _ w h) (Or.inl ⟨by rfl, ?hye12⟩) (behind_cons (fun h => by simp at h) (behind_cons (fun h => by simp at h) (fun p hp => by cases hp))) ?reste12
      case hye12 => (intro W' _; go_simp; try with_reducible rfl)
      try simp only [Act.put, List.setIfInBounds_toArray, List.set_cons_zero, List.set_cons_succ]
      refine wpAnyV_take (i := 3) (m := 1) (v := ?_) (by simp only [List.getElem?_toArray, List.getElem?_cons_zero, List.getElem?_cons_succ]; rfl) (by rfl) (by kernel_rfl) (by kernel_rfl) (by kernel_rfl) (by kernel_rfl) (by exact fun c a w h => HQP.out c a _ _ w h) (Or.inl ⟨by rfl, ?hye13⟩) ((HCB.out _ HV.out)) (behind_cons (fun h => by simp at h) (behind_cons (fun _ => (HCB.out _ HV.out)) (fun p hp => by cases hp))) ?reste13
      case hye13 => (intro W' hSW; go_simp; try with_reducible rfl)
      try simp only [Act.put, List.setIfInBounds_toArray, List.set_cons_zero, List.set_cons_succ]
      refine wpAnyV_take (i := 8) (m := 0) (v := ?_) (by simp only [List.getElem?_toArray, List.getElem?_cons_zero, List.getElem?_cons_succ]; rfl) (by rfl) (by kernel_rfl) (by kernel_rfl) (by kernel_rfl) (by kernel_rfl) (by exact fun c a w h => HQP.out c a _ _ w h) (Or.inl ⟨by rfl, ?hye14⟩) ((HCA.out _ HV.out)) (behind_cons (fun _ => (HCA.out _ HV.out)) (behind_cons (fun _ => (HCB.out _ HV.out)) (fun p hp => by cases hp))) ?reste14
      case hye14 => (intro W' hSW; go_simp; try with_reducible rfl)
      try simp only [Act.put, List.setIfInBounds_toArray, List.set_cons_zero, List.set_cons_succ]
      refine wpAnyV_free (i := 9) (v := ?_) (by simp only [List.getElem?_toArray, List.getElem?_cons_zero, List.getElem?_cons_succ]; rfl) (by kernel_rfl) (by kernel_rfl) (by kernel_rfl) (by kernel_rfl) (by exact fun c a w h => HQP.out c a _ _ w h) (Or.inl ⟨by rfl, ?hye15⟩) (behind_cons (fun _ => (HCA.out _ HV.out)) (behind_cons (fun _ => (HCB.out _ HV.out)) (fun p hp => by cases hp))) ?reste15
      case hye15 => (intro W' _; go_simp; try with_reducible rfl)
      try simp only [Act.put, List.setIfInBounds_toArray, List.set_cons_zero, List.set_cons_succ]
      refine wpAnyV_take (i := 14) (m := 0) (v := ?_) (by simp only [List.getElem?_toArray, List.getElem?_cons_zero, List.getElem?_cons_succ]; rfl) (by rfl) (by kernel_rfl) (by kernel_rfl) (by kernel_rfl) (by kernel_rfl) (by exact fun c a w h => HQP.out c a _ _ w h) (Or.inl ⟨by rfl, ?hye16⟩) ((HCA.out _ HV.out)) (behind_cons (fun _ => (HCA.out _ HV.out)) (behind_cons (fun _ => (HCB.out _ HV.out)) (fun p hp => by cases hp))) ?reste16
      case hye16 => (intro W' hSW; go_simp; try with_reducible rfl)
      try simp only [Act.put, List.setIfInBounds_toArray, List.set_cons_zero, List.set_cons_succ]
      refine wpAnyV_free (i := 15) (v := ?_) (by simp only [List.getElem?_toArray, List.getElem?_cons_zero, List.getElem?_cons_succ]; rfl) (by kernel_rfl) (by kernel_rfl) (by kernel_rfl) (by kernel_rfl) (by exact fun c a w h => HQP.out c a _ _ w h) (Or.inl ⟨by rfl, ?hye17⟩) (behind_cons (fun _ => (HCA.out _ HV.out)) (behind_cons (fun _ => (HCB.out _ HV.out)) (fun p hp => by cases hp))) ?reste17
      case hye17 => (intro W' _; go_simp; try with_reducible rfl)
      try simp only [Act.put, List.setIfInBounds_toArray, List.set_cons_zero, List.set_cons_succ]
      refine wpAnyV_ready (rs := [16]) (by kernel_rfl) (by simp) ?_
      refine AllReadyV.cons (by simp only [List.getElem?_toArray, List.getElem?_cons_zero, List.getElem?_cons_succ]; rfl) (fun K hK => ?_) AllReadyV.nil
      go_simp
      go_at_call 23
      (with_reducible refine (to_any (-p.2) (-p.1) _).mono ?_)
      rintro e w502 ⟨rfl, hb⟩
      have HC502 := Lib.hid (HV.out.trans (hb.mono HV.out.size))
      clear hb
      refine hK.out _ _ (behind_cons (fun _ => (HCA.out _ HC502.out)) (behind_cons (fun _ => (HCB.out _ HC502.out)) (fun p hp => by cases hp))) ?_
      clear hK K
      try simp only [Act.put, List.setIfInBounds_toArray, List.set_cons_zero, List.set_cons_succ]
      refine wpAnyV_free (i := 17) (v := ?_) (by simp only [List.getElem?_toArray, List.getElem?_cons_zero, List.getElem?_cons_succ]; rfl) (by kernel_rfl) (by kernel_rfl) (by kernel_rfl) (by kernel_rfl) (by exact fun c a w h => HQP.out c a _ _ w h) (Or.inl ⟨by rfl, ?hye19⟩) (behind_cons (fun _ => (HCA.out _ HC502.out)) (behind_cons (fun _ => (HCB.out _ HC502.out)) (fun p hp => by cases hp))) ?reste19
      case hye19 => (intro W' _; go_simp; try with_reducible rfl)
      try simp only [Act.put, List.setIfInBounds_toArray, List.set_cons_zero, List.set_cons_succ]
      refine wpAnyV_done (by kernel_rfl) ?_ _
      have HS9 := HC502
      go_wp2_with fail
      go_roundg (gk - 1)
      case measure => omega
      case rel => exact ⟨k + 1, by go_num, by omega, HS9.out⟩
    · obtain rfl : k = n := by omega
      go_wp2_with fail
      exact HEX.out _ _ _ _ _ _ _ _ _ _ _ _ _ _ _ _ _ _ _ _ _ _ _ _ _ _ _ HS.out
/-- What a law holds, without a dating of its own. -/
structure LS (w : World) (g : Nat) (K : List OBlok) (D : List (Value × Dat)) (W : World) : Prop where
  urn : UrnAt W g
  hg : w.heap.size ≤ g
  below : Below w.heap.size w W
  bl : ∀ p ∈ K, p.t ≠ 66 ∧ w.heap.size ≤ p.b ∧ Blok W p.b p.t p.cs
  da : ∀ p ∈ D, DatO W w.heap.size p.1 p.2
section
variable {w W W' : World} {g : Nat} {K : List OBlok} {D : List (Value × Dat)}
theorem LS.calls (h : LS w g K D W) (hu : UrnAt W' g) (hk : Kg g W W') : LS w g K D W' :=
  ⟨hu, h.hg, h.below.trans (hk.below h.below.size h.hg), fun p hp => ⟨(h.bl p hp).1, (h.bl p hp).2.1, (h.bl p hp).2.2.kg hk (h.urn.ne (h.bl p hp).2.2 (h.bl p hp).1)⟩, fun p hp => (h.da p hp).kg h.urn hk⟩
theorem LS.to (h : LS w g K D W) (hk : Below W.heap.size W W') : LS w g K D W' :=
  ⟨h.urn.keep hk h.urn.size, h.hg, h.below.trans (hk.mono h.below.size), fun p hp => ⟨(h.bl p hp).1, (h.bl p hp).2.1, (h.bl p hp).2.2.below hk (h.bl p hp).2.2.size⟩, fun p hp => (h.da p hp).below hk⟩
theorem LS.alloc (h : LS w g K D W) (o : Obj) : LS w g K D (W.alloc o) := h.to ((Below.refl _ W).alloc (Nat.le_refl _) o)
theorem LS.drew (h : LS w g K D W) : LS w g K D W.drew := h.to (Below.refl _ W).drew
theorem LS.blok (h : LS w g K D W) (k : Nat) {p : OBlok} (hp : K[k]? = some p) : Blok W p.b p.t p.cs := (h.bl p (List.mem_of_getElem? hp)).2.2
theorem LS.dat (h : LS w g K D W) (k : Nat) {p : Value × Dat} (hp : D[k]? = some p) : DatO W w.heap.size p.1 p.2 := h.da p (List.mem_of_getElem? hp)
theorem LS.addB (h : LS w g K D W) (p : OBlok) (h1 : p.t ≠ 66) (h2 : w.heap.size ≤ p.b) (h3 : Blok W p.b p.t p.cs) : LS w g (K ++ [p]) D W :=
  ⟨h.urn, h.hg, h.below, fun q hq => by
    rcases List.mem_append.1 hq with hq | hq
    · exact h.bl q hq
    · rw [List.mem_singleton.1 hq]; exact ⟨h1, h2, h3⟩, h.da⟩
theorem LS.addD (h : LS w g K D W) (p : Value × Dat) (h3 : DatO W w.heap.size p.1 p.2) : LS w g K (D ++ [p]) W :=
  ⟨h.urn, h.hg, h.below, h.bl, fun q hq => by
    rcases List.mem_append.1 hq with hq | hq
    · exact h.da q hq
    · rw [List.mem_singleton.1 hq]; exact h3⟩
theorem LS.newB (h : LS w g K D W) (cs : List Value) (t : TypeId) (ht : t ≠ 66) : LS w g (K ++ [⟨W.heap.size, t, cs⟩]) D (W.alloc (.cells cs.toArray t)) := (h.alloc _).addB ⟨W.heap.size, t, cs⟩ ht h.below.size (Blok.new W t cs)
/-- A cell of the first block is stored. -/
theorem LS.put {b : Nat} {cs : List Value} (h : LS w g (⟨b, 28, cs⟩ :: K) D W) (hK : ∀ p ∈ K, p.b ≠ b) (i : Nat) (u : Value) : LS w g (⟨b, 28, cs.set i u⟩ :: K) D (W.setCell ⟨b, i, none⟩ u) := by
  obtain ⟨k1, k2, k3⟩ := h.bl _ (List.mem_cons_self ..)
  have hO : ∀ {base size n : Nat} {e : TypeId} {v : Value} {xs : List Value}, e ≠ 28 → W.ownsRow base e size v n xs → (W.setCell ⟨b, i, none⟩ u).ownsRow base e size v n xs := fun he h' => own_far h' (own_ne h' k3 he) u
  refine ⟨h.urn.far (h.urn.ne' k3 k1) u, h.hg, h.below.setCell (p := ⟨b, i, none⟩) k2 u, fun p hp => ?_, fun p hp => ?_⟩
  · rcases List.mem_cons.1 hp with rfl | hp
    · exact ⟨k1, k2, k3.put i u⟩
    · obtain ⟨m1, m2, m3⟩ := h.bl p (List.mem_cons_of_mem _ hp)
      exact ⟨m1, m2, m3.far (hK p hp) u⟩
  · obtain ⟨ve, vn, e, a1, xs, a2, a3, a4⟩ := h.da p hp
    exact ⟨ve, vn, e, hO (by decide) a1, xs, a2, hO (by decide) a3, fun q hq => hO (by decide) (a4 q hq)⟩
end
end Go.Proofs.Ytcbdcdpoackplaa
