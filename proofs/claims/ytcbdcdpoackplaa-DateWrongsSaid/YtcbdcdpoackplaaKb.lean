/- Lists: all lists of so many numbers, ascending. -/
import Derived.Test.YtcbdcdpoackplaaKa
import Derived.Test.YtcbdcdpoackplaaFk
namespace Go.Proofs.Ytcbdcdpoackplaa
open Go.RowKit Dt

theorem info_rowL : (Try.prog.info? 22).map (fun i => (i.zero, i.size, i.bytes)) = some (some (.slice none 0 0), 1, 24) := by kernel_rfl
/-- Lists of numbers that lie in rows of their own. -/
def RowsI (w : World) (B : Nat) (v : Value) (ls : List (List Nat)) : Prop :=
  ∃ rows : List Value, rows.length = ls.length ∧ w.ownsRow B 22 1 v ls.length rows ∧ ∀ (i : Nat) (u : Value) (l : List Nat), rows[i]? = some u → ls[i]? = some l → w.ownsRow B 3 1 u l.length (intCells (ints l))
theorem RowsI.to {w W : World} {B : Nat} {v : Value} {ls : List (List Nat)} (h : RowsI w B v ls) (hb : Below w.heap.size w W) : RowsI W B v ls := by
  obtain ⟨rows, h1, h2, h3⟩ := h
  exact ⟨rows, h1, own_fx h2 (Fx.of_all hb) (fun _ _ _ _ => trivial), fun i u l hu hl => own_fx (h3 i u l hu hl) (Fx.of_all hb) (fun _ _ _ _ => trivial)⟩
theorem RowsI.mono {w : World} {B B' : Nat} {v : Value} {ls : List (List Nat)} (h : RowsI w B v ls) (hB : B' ≤ B) : RowsI w B' v ls := by
  obtain ⟨rows, h1, h2, h3⟩ := h
  exact ⟨rows, h1, h2.mono hB, fun i u l hu hl => (h3 i u l hu hl).mono hB⟩
theorem RowsI.lt {w : World} {B : Nat} {v : Value} {ls : List (List Nat)} (h : RowsI w B v ls) (b : Nat) (hb : v.ownBlock = some b) : b < w.heap.size := by
  obtain ⟨rows, h1, h2, h3⟩ := h
  exact (h2.lt b hb).2
theorem RowsI.slice {w : World} {B : Nat} {v : Value} {ls : List (List Nat)} (h : RowsI w B v ls) : ∃ A c, v = .slice A ls.length c := by
  obtain ⟨rows, h1, h2, h3⟩ := h
  exact own_slice h2
theorem RowsI.get {w : World} {B g c : Nat} {ls : List (List Nat)} (h : RowsI w B (.slice (some ⟨g, 0, none⟩) ls.length c) ls) {i : Nat} {l : List Nat} (hl : ls[i]? = some l) : ∃ A c', w.cell? ⟨g, i, none⟩ = some (.slice A l.length c') ∧ w.ownsRow B 3 1 (.slice A l.length c') l.length (intCells (ints l)) := by
  obtain ⟨rows, h1, h2, h3⟩ := h
  have hi := (List.getElem?_eq_some_iff.1 hl).1
  obtain ⟨u, hu⟩ : ∃ u, rows[i]? = some u := ⟨_, List.getElem?_eq_getElem (by omega)⟩
  have ho := h3 i u l hu hl
  obtain ⟨A, c', rfl⟩ := own_slice ho
  exact ⟨A, c', (h2.cellAt i (by omega)).trans hu, ho⟩
/-- What Lists holds: what is gathered, and what is to be gone through. -/
structure LI (w : World) (vo vr : Value) (lo lr : List (List Nat)) (W : World) : Prop where
  below : Below w.heap.size w W
  out : RowsI W w.heap.size vo lo
  rest : RowsI W w.heap.size vr lr
  dis : ∀ b, vo.ownBlock = some b → vr.ownBlock ≠ some b
theorem LI.to {w W W' : World} {vo vr : Value} {lo lr : List (List Nat)} (h : LI w vo vr lo lr W) (hb : Below W.heap.size W W') : LI w vo vr lo lr W' := ⟨h.below.trans (hb.mono h.below.size), h.out.to hb, h.rest.to hb, h.dis⟩
theorem LI.snoc {w W W' : World} {vo vr u : Value} {lo lr : List (List Nat)} {g c : Nat} {l : List Nat} {rows : List Value} (h : LI w vo vr lo lr W) (h1 : rows.length = lo.length) (h2 : W.ownsRow w.heap.size 22 1 vo lo.length rows)
    (h3 : ∀ (i : Nat) (u : Value) (l : List Nat), rows[i]? = some u → lo[i]? = some l → W.ownsRow w.heap.size 3 1 u l.length (intCells (ints l)))
    (hu : W.ownsRow w.heap.size 3 1 u l.length (intCells (ints l))) (hg : W.grownBy W' vo.ownBlock) (ho : W'.ownsRow w.heap.size 22 1 (.slice (some ⟨g, 0, none⟩) (lo.length + 1) c) (lo.length + 1) (rows ++ [u])) (hat : vo.ownBlock = some g ∨ g = W.heap.size) :
    LI w (.slice (some ⟨g, 0, none⟩) (lo.length + 1) c) vr (lo ++ [l]) lr W' := by
  have hO : ∀ {base size n : Nat} {e : TypeId} {v : Value} {xs : List Value}, e ≠ 22 → W.ownsRow base e size v n xs → W'.ownsRow base e size v n xs := fun he h' => own_fx h' (Fx.of_grown hg) (fun b _ _ hb' => own_disj h' h2 he b hb')
  refine ⟨h.below.grown hg h.below.size (fun k hk => (h2.lt k hk).1), ⟨rows ++ [u], by simp [h1], by rw [List.length_append]; exact ho, fun i u' l' hu' hl' => ?_⟩, ?_, fun b hb hb' => ?_⟩
  · by_cases hi : i < lo.length
    · rw [List.getElem?_append_left (by omega)] at hu'
      rw [List.getElem?_append_left hi] at hl'
      exact hO (by decide) (h3 i u' l' hu' hl')
    · by_cases e : i = lo.length
      · subst e
        rw [List.getElem?_append_right (by omega), h1, Nat.sub_self] at hu'
        rw [List.getElem?_append_right (by omega), Nat.sub_self] at hl'
        injection hu' with hu'
        injection hl' with hl'
        subst hu' hl'
        exact hO (by decide) hu
      · rw [List.getElem?_eq_none (by simp; omega)] at hl'
        cases hl'
  · obtain ⟨rr, r1, r2, r3⟩ := h.rest
    exact ⟨rr, r1, own_fx r2 (Fx.of_grown hg) (fun b _ _ hb' e => h.dis b e hb'), fun i u l hu hl => hO (by decide) (r3 i u l hu hl)⟩
  · injection hb with hb
    subst hb
    rcases hat with hat | hat
    · exact h.dis g hat hb'
    · have := h.rest.lt g hb'
      omega
theorem lists_each : ∀ (m f n : Nat), ∀ l ∈ listsP m f n, l.length = m
  | 0, _, _, l, h => by simp [listsP] at h; rw [h]; rfl
  | m + 1, f, n, l, h => by
    simp only [listsP, List.mem_flatMap, List.mem_map] at h
    obtain ⟨i, _, l', h', rfl⟩ := h
    rw [List.length_cons, lists_each m _ _ l' h']
def ListsPost (ls : List (List Nat)) (w : World) (e : Ending) (w' : World) : Prop := ∃ v, e = .returned v ∧ RowsI w' w.heap.size v ls ∧ Below w.heap.size w w'
set_option maxRecDepth 100000 in
set_option maxHeartbeats 8000000 in
theorem lists_any (n : Nat) (hn : n < 6) : ∀ (m : Nat), m < 6 → ∀ (f : Nat), f < 7 → ∀ (w : World), Calls Try.prog 32 #[.int .i64 f, .int .i64 n, .int .i64 m] w (ListsPost (listsP m f n) w) := by
  intro m
  induction m with
  | zero =>
    intro _ f hf w
    go_enter Try.func32, Try.ntmps32
    go_wp2_with fail
    go_ret
    refine ⟨_, rfl, ⟨[.slice none 0 0], rfl, ?_, fun i u l hu hl => ?_⟩, (Below.refl _ w).alloc (Nat.le_refl _) _⟩
    · exact World.ownsRow_lit (base := w.heap.size) (e := 22) (size := 1) w #[.slice none 0 0] 1 (Nat.le_refl _) (by unfold maxLen; omega) (by simp)
    · cases i with
      | zero =>
        simp [listsP] at hu hl
        subst hu hl
        exact World.ownsRow_nil _ _ _ _
      | succ i => simp [listsP] at hl
  | succ m ih =>
    intro hm f hf w
    have HIH := Lib.hid (ih (by omega))
    clear ih
    obtain ⟨M, hM⟩ : ∃ M, M = m + 1 := ⟨_, rfl⟩
    rw [← hM]
    have hM0 : ((M : Int) == 0) = false := by rw [beq_eq_false_iff_ne]; omega
    have hM1 : IntKind.i64.wrap ((M : Int) - 1) = (m : Int) := by
      have : IntKind.i64.wrap ((M : Int) - 1) = (M : Int) - 1 := IntWalk.i64_in _ (by omega)
      omega
    have HMM := Lib.hid hM
    clear hM
    obtain ⟨kR, hi, hz0, hz1, hz2⟩ := info_parts info_rowL
    have HR := Lib.hid hi
    have HR0 := Lib.hid hz0
    have HR1 := Lib.hid hz1
    have HR2 := Lib.hid hz2
    clear hi hz0 hz1 hz2
    obtain ⟨kN, hi, hz0, hz1, hz2⟩ := info_parts info_num
    have HI := Lib.hid hi
    have HI0 := Lib.hid hz0
    have HI1 := Lib.hid hz1
    have HI2 := Lib.hid hz2
    clear hi hz0 hz1 hz2
    go_enter Try.func32, Try.ntmps32
    go_wp2_with fail
    go_loopg [7, 8] (n - f) (fun r v ii wr => ∃ i : Nat, ii = .int .i64 (i : Nat) ∧ r = n - i ∧ f ≤ i ∧ (i = f ∨ i ≤ n) ∧ Below w.heap.size w wr ∧ RowsI wr w.heap.size v (listsTo m f i n))
    case atStart => exact ⟨f, rfl, rfl, Nat.le_refl _, .inl rfl, Below.refl _ _, ⟨[], by simp [listsTo_start], by rw [listsTo_start]; exact World.ownsRow_nil _ _ _ _, by simp⟩⟩
    case round =>
      obtain ⟨i, rfl, hgr, hfi, hin, hbl, hro⟩ := hrel
      obtain ⟨wo, rfl⟩ : ∃ wo : World, wo = wr := ⟨_, rfl⟩
      obtain ⟨ga, hga⟩ : ∃ ga, ga = gk := ⟨_, rfl⟩
      have HB := Lib.hid hbl
      have HO := Lib.hid hro
      clear hbl hro
      by_cases hlt : i < n
      · obtain ⟨i1, hi1⟩ : ∃ i1 : Nat, i1 = i + 1 := ⟨_, rfl⟩
        have hi6 : i1 < 7 := by omega
        have q1 : IntKind.i64.wrap ((i : Int) + 1) = (i1 : Int) := by
          have : IntKind.i64.wrap ((i : Int) + 1) = (i : Int) + 1 := IntWalk.i64_in _ (by omega)
          omega
        have HI1' := Lib.hid hi1
        have hbound : (listsTo m f i n).length + (listsP m i1 n).length ≤ 32 := by
          have h1 := listsTo_le m f i1 n (by omega) (by omega)
          rw [hi1, listsTo_succ _ _ _ _ hfi, List.length_append, List.length_map, listsTo_all, ← hi1] at h1
          have h2 := lists_len (m + 1) hm f hf n hn
          omega
        clear hi1
        go_wp2_with fail
        refine (HIH.out i1 hi6 wo).mono ?_
        rintro e w1 ⟨vr, rfl, hr, hb⟩
        obtain ⟨Ao, co, rfl⟩ := HO.out.slice
        obtain ⟨Ar, cr, rfl⟩ := hr.slice
        obtain ⟨R, hR⟩ : ∃ R, R = (listsP m i1 n).length := ⟨_, rfl⟩
        obtain ⟨lo, hlo⟩ : ∃ lo, lo = listsTo m f i n := ⟨_, rfl⟩
        obtain ⟨lr, hlr⟩ : ∃ lr, lr = listsP m i1 n := ⟨_, rfl⟩
        have hli : LI w (.slice Ao lo.length co) (.slice Ar lr.length cr) lo lr w1 := by
          rw [hlo, hlr]
          exact ⟨HB.out.trans (hb.mono HB.out.size), HO.out.to hb, hr.mono HB.out.size, fun b hb1 hb2 => by
            have h1 := HO.out.lt b hb1
            obtain ⟨rows, _, h2, _⟩ := hr
            have h3 := (h2.lt b hb2).1
            omega⟩
        rw [← hlo, ← hlr] at hbound
        rw [← hlr] at hR
        rw [← hlr, ← hR]
        rw [← hR] at hli hbound
        have HLI := Lib.hid hli
        have HRR := Lib.hid hR
        have HLO := Lib.hid hlo
        have HLR := Lib.hid hlr
        obtain ⟨L, hL⟩ : ∃ L, L = lo.length := ⟨_, rfl⟩
        rw [← hlo, ← hL]
        rw [← hL] at HLI hbound
        have HLL := Lib.hid hL
        clear hli hr hb hR hlo hlr hL HO q1
        go_wp2_with fail
        go_loopg [7, 10] R (fun r v kk wr => ∃ (k : Nat) (A : Option Addr) (c : Nat), kk = .int .i64 (k : Nat) ∧ k + r = R ∧ v = .slice A (L + k) c ∧ LI w (.slice A (L + k) c) (.slice Ar R cr) (lo ++ (lr.take k).map (i :: ·)) lr wr)
        case atStart => exact ⟨0, _, _, rfl, by omega, rfl, by simpa using HLI.out⟩
        case round =>
          clear HLI
          obtain ⟨k, A, c, rfl, hkr, rfl, hli⟩ := hrel
          have hlen : (lo ++ (lr.take k).map (i :: ·)).length = L + k := by
            rw [List.length_append, List.length_map, List.length_take, ← HLL.out]
            have := HRR.out
            omega
          obtain ⟨rows, r1, r2, r3⟩ := hli.out
          rw [hlen] at r1 r2
          have HLI := Lib.hid hli
          have HR1' := Lib.hid r1
          have HR2' := Lib.hid r2
          have HR3' := Lib.hid r3
          have HLEN := Lib.hid hlen
          clear hli r1 r2 r3 hlen
          by_cases hk : k < R
          · obtain ⟨gr, rfl⟩ : ∃ gr, Ar = some ⟨gr, 0, none⟩ := by
              obtain ⟨rr, _, h2, _⟩ := HLI.out.rest
              rw [← HRR.out] at h2
              exact own_addr h2 (by omega)
            obtain ⟨l, hl⟩ : ∃ l, lr[k]? = some l := ⟨_, List.getElem?_eq_getElem (by have := HRR.out; omega)⟩
            have hget := HLI.out.rest
            rw [show (Value.slice (some ⟨gr, 0, none⟩) R cr) = .slice (some ⟨gr, 0, none⟩) lr.length cr by rw [HRR.out]] at hget
            obtain ⟨Al, cl, c0, hol⟩ := hget.get hl
            have hl8 : l.length ≤ 8 := by
              have h0 := List.mem_of_getElem? hl
              rw [HLR.out] at h0
              rw [lists_each _ _ _ _ h0]
              omega
            obtain ⟨nl, hnl⟩ : ∃ nl, nl = l.length := ⟨_, rfl⟩
            rw [← hnl] at c0 hol hl8
            have HSRC := Lib.hid (fun W (hb : Below wr.heap.size wr W) => Src.own hol hb)
            have HNL := Lib.hid hnl
            have HL := Lib.hid hl
            have hlw := World.block_lt_of_cell? wr _ c0
            simp only at hlw
            clear hget hol hnl hl
            have hAo : Below wr.heap.size wr (wr.alloc (.cells #[.int .i64 (i : Int)] 3)) := (Below.refl _ wr).alloc (Nat.le_refl _) _
            have HAO := Lib.hid hAo
            clear hAo
            go_wp2_with (first
              | (at_builtin; refine wpList_append_src rfl _ _ 22 rfl wr.heap.size 3 kN _ 1 8 Try.underlying22 HI.out HI0.out HI1.out HI2.out rfl (by decide) _ 1 [.int .i64 (i : Int)] (by rfl) (World.ownsRow_lit (base := wr.heap.size) (e := 3) (size := 1) wr #[.int .i64 (i : Int)] 1 (Nat.le_refl _) (by unfold maxLen; omega) (by simp)) _ nl (intCells (ints l)) (by rfl) (HSRC.out _ HAO.out) (by rw [intCells_len]; simp [ints]; exact HNL.out.symm) (intCells_one _) (by unfold maxLen; omega) (by omega) (by simp) _ rfl ?_; intro A8 c8 w8 hown8 hgrow8 hat8; have HO8 := Lib.hid hown8; have HB8 := Lib.hid (HAO.out.grown hgrow8 (by simp) (fun k e => by simp [Value.ownBlock] at e; omega)); clear hown8 hgrow8 hat8)
              | (at_builtin; refine wpList_append_lies _ rfl _ _ 56 rfl w.heap.size 22 kR _ 1 24 Try.underlying56 HR.out HR0.out HR1.out HR2.out rfl (by decide) (.slice A (L + k) c) (L + k) rows (by rfl) ((own_fx HR2'.out (Fx.of_all HB8.out) (fun _ _ _ _ => trivial)).alloc _) ⟨w8.heap.size, 0, none⟩ 1 1 [.slice A8 (1 + nl) c8] (by rfl) (by rfl) (World.news_of_block (cs := #[.slice A8 (1 + nl) c8]) (t := 22) (fr := (0, 0)) (heap_alloc_new w8 _)) (by simp [Value.oneCell']) (by omega) (by unfold maxLen; omega) (by omega) (by have h1 := HLI.out.below.size; have h2 := HB8.out.size; simp; omega) _ rfl ?_; intro g9 c9 w9 hown9 hgrow9 hat9 hlt9; have HS9 := Lib.hid (((HLI.out.to HB8.out).to ((Below.refl _ w8).alloc (Nat.le_refl _) (.cells #[.slice A8 (1 + nl) c8] 22))).snoc (u := .slice A8 (1 + nl) c8) (l := i :: l) (by rw [HLEN.out]; exact HR1'.out) (by rw [HLEN.out]; exact (own_fx HR2'.out (Fx.of_all HB8.out) (fun _ _ _ _ => trivial)).alloc _) (fun j u' l' hu' hl' => (own_fx (HR3'.out j u' l' hu' hl') (Fx.of_all HB8.out) (fun _ _ _ _ => trivial)).alloc _) (by
                  have h := HO8.out.mono (base' := w.heap.size) HLI.out.below.size
                  have e : (i :: l).length = 1 + nl := by rw [List.length_cons, HNL.out]; omega
                  rw [e]
                  exact h.alloc _) hgrow9 (by rw [HLEN.out]; exact hown9) hat9); clear hown9 hgrow9 hat9 hlt9))
            go_roundg (gk - 1)
            case measure => omega
            case rel => exact ⟨k + 1, some ⟨g9, 0, none⟩, c9, by go_num, by omega, by rw [show L + (k + 1) = L + k + 1 by omega], by
              have h := HS9.out
              rw [HLEN.out] at h
              rw [show L + (k + 1) = L + k + 1 by omega, List.take_add_one, HL.out, Option.toList_some, List.map_append, ← List.append_assoc]
              exact h⟩
          · obtain rfl : k = R := by omega
            go_wp2_with fail
            go_roundg (ga - 1)
            case measure => omega
            case rel =>
              refine ⟨i + 1, ?_, by omega, by omega, .inr (by omega), HLI.out.below, ?_⟩
              · go_num
              · have h := HLI.out.out
                rw [List.take_of_length_le (by have := HRR.out; omega), HLO.out, HLR.out, HI1'.out, ← listsTo_succ _ _ _ _ hfi] at h
                exact h
      · have e : listsTo m f i n = listsP M f n := by
          rw [HMM.out, ← listsTo_all]
          rcases hin with rfl | hle
          · rw [listsTo_start]
            simp [listsTo, show n - i = 0 by omega]
          · rw [show i = n by omega]
        have HE := Lib.hid e
        clear e
        go_wp2_with fail
        go_ret
        exact ⟨_, rfl, by rw [← HE.out]; exact HO.out, HB.out⟩
end Go.Proofs.Ytcbdcdpoackplaa
