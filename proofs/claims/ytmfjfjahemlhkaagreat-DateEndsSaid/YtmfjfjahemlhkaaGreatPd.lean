/- DateEnds: all truths of a small dating, plainly; lists of them in memory. · truths: all truths of a dating, gathered. -/
import Derived.Test.YtmfjfjahemlhkaaGreatPb
namespace Go.Proofs.YtmfjfjahemlhkaaGreat
section
open Go.RowKit Dt

def rangeI (lo hi : Int) : List Int := (List.range (hi - lo + 1).toNat).map fun i : Nat => lo + (i : Int)
theorem mem_rangeI (lo hi y : Int) : y ∈ rangeI lo hi ↔ lo ≤ y ∧ y ≤ hi := by
  unfold rangeI
  rw [List.mem_map]
  constructor
  · rintro ⟨i, hi', rfl⟩
    have := List.mem_range.1 hi'
    omega
  · intro h
    exact ⟨(y - lo).toNat, List.mem_range.2 (by omega), by omega⟩
theorem rangeI_len (lo hi : Int) : (rangeI lo hi).length = (hi - lo + 1).toNat := by simp [rangeI]
theorem rangeI_at (lo hi : Int) (k : Nat) (h : k < (hi - lo + 1).toNat) : (rangeI lo hi)[k]? = some (lo + (k : Int)) := by simp [rangeI, h]
/-- What is gone through for the eras that are left, the years of the stones being known. -/
def erasP (d : Dat) (ys : List Int) : Nat → List Int → List (List Int × List Int)
  | 0, fs => if d.notes.all (fun n => rightB n ys fs) then [(ys, fs)] else []
  | m + 1, fs => (rangeI (d.eras.getD fs.length (0, 0)).1 (d.eras.getD fs.length (0, 0)).2).flatMap fun n => erasP d ys m (fs ++ [n])
def stonesP (d : Dat) : Nat → List Int → List (List Int × List Int)
  | 0, ys => erasP d ys d.eras.length []
  | m + 1, ys => (rangeI 0 7).flatMap fun n => stonesP d m (ys ++ [n])
theorem flat_le {α β : Type} (f : α → List β) (l : List α) (k : Nat) (x : α) (h : l[k]? = some x) : ((l.take k).flatMap f).length + (f x).length ≤ (l.flatMap f).length := by
  have e : l.flatMap f = (l.take k).flatMap f ++ (f x ++ (l.drop (k + 1)).flatMap f) := by
    conv => lhs; rw [← List.take_append_drop k l]
    rw [List.flatMap_append, List.drop_eq_getElem_cons (List.getElem?_eq_some_iff.1 h).1, List.flatMap_cons, (List.getElem?_eq_some_iff.1 h).2]
  rw [e]
  simp only [List.length_append]
  omega
theorem flat_take {α β : Type} (f : α → List β) (l : List α) (k : Nat) (x : α) (h : l[k]? = some x) : (l.take (k + 1)).flatMap f = (l.take k).flatMap f ++ f x := by
  rw [List.take_add_one, h, Option.toList_some, List.flatMap_append]
  simp
/-- The cells of truths, each with the values of its lists. -/
def cellsW (xs : List ((List Int × List Int) × (Value × Value))) : List Value := xs.flatMap fun p => [p.2.1, p.2.2]
theorem cellsW_snoc (xs : List ((List Int × List Int) × (Value × Value))) (p : (List Int × List Int) × (Value × Value)) : cellsW (xs ++ [p]) = cellsW xs ++ [p.2.1, p.2.2] := by simp [cellsW]
theorem cellsW_at : ∀ (xs : List ((List Int × List Int) × (Value × Value))) (k : Nat) (p : (List Int × List Int) × (Value × Value)), xs[k]? = some p → (cellsW xs)[k * 2]? = some p.2.1 ∧ (cellsW xs)[k * 2 + 1]? = some p.2.2
  | [], k, p, h => by simp at h
  | a :: xs, 0, p, h => by
    obtain rfl : a = p := by simpa using h
    simp [cellsW]
  | a :: xs, k + 1, p, h => by
    have ih := cellsW_at xs k p (by simpa using h)
    have e : cellsW (a :: xs) = a.2.1 :: a.2.2 :: cellsW xs := by simp [cellsW]
    rw [e, show (k + 1) * 2 = k * 2 + 1 + 1 by omega]
    simpa using ih
/-- Truths in a row of their own, each of lists of its own. -/
def WhensO (w : World) (B : Nat) (v : Value) (l : List (List Int × List Int)) : Prop :=
  ∃ xs : List ((List Int × List Int) × (Value × Value)), xs.map Prod.fst = l ∧ w.ownsRow B 36 2 v l.length (cellsW xs) ∧ ∀ p ∈ xs, IntsO w B p.2.1 p.1.1 ∧ IntsO w B p.2.2 p.1.2
theorem WhensO.to {w W : World} {B : Nat} {v : Value} {l : List (List Int × List Int)} (h : WhensO w B v l) (hb : Below w.heap.size w W) : WhensO W B v l := by
  obtain ⟨xs, h1, h2, h3⟩ := h
  exact ⟨xs, h1, own_fx h2 (Fx.of_all hb) (fun _ _ _ _ => trivial), fun p hp => ⟨own_fx (h3 p hp).1 (Fx.of_all hb) (fun _ _ _ _ => trivial), own_fx (h3 p hp).2 (Fx.of_all hb) (fun _ _ _ _ => trivial)⟩⟩
theorem WhensO.slice {w : World} {B : Nat} {v : Value} {l : List (List Int × List Int)} (h : WhensO w B v l) : ∃ A c, v = .slice A l.length c := by
  obtain ⟨xs, h1, h2, h3⟩ := h
  exact own_slice h2
theorem WhensO.lt {w : World} {B : Nat} {v : Value} {l : List (List Int × List Int)} (h : WhensO w B v l) (b : Nat) (hb : v.ownBlock = some b) : b < w.heap.size := by
  obtain ⟨xs, h1, h2, h3⟩ := h
  exact (h2.lt b hb).2
theorem WhensO.nil (w : World) (B : Nat) : WhensO w B (.slice none 0 0) [] := ⟨[], rfl, World.ownsRow_nil _ _ _ _, by simp⟩
/-- What grows may go on. -/
theorem grown_to {w W W' : World} {row : Option Nat} (h : w.grownBy W row) (hb : Below W.heap.size W W') : w.grownBy W' row :=
  ⟨hb.os.trans h.os, hb.tape.trans h.tape, hb.output.trans h.output, Nat.le_trans h.size hb.size, fun b hb1 hb2 => (hb.block b (Nat.lt_of_lt_of_le hb1 h.size)).trans (h.block b hb1 hb2)⟩
theorem grown_trans {w W W' : World} {row row' : Option Nat} (h : w.grownBy W row) (h' : W.grownBy W' row') (hr : ∀ b, row' = some b → row = some b ∨ w.heap.size ≤ b) : w.grownBy W' row :=
  ⟨h'.os.trans h.os, h'.tape.trans h.tape, h'.output.trans h.output, Nat.le_trans h.size h'.size, fun b hb1 hb2 => (h'.block b (Nat.lt_of_lt_of_le hb1 h.size) (fun e => by
    rcases hr b e.symm with h1 | h1
    · exact hb2 h1.symm
    · omega)).trans (h.block b hb1 hb2)⟩
/-- What truths holds on its way. -/
structure TS (w : World) (B : Nat) (d : Dat) (ve vn vy vf : Value) (ys fs : List Int) (row : Option Nat) (vo : Value) (Lo : List (List Int × List Int)) (W : World) : Prop where
  b0 : Blok W w.heap.size 28 [.int .i64 d.stones, ve, vn]
  b1 : Blok W (w.heap.size + 1) 33 [.int .i64 0, .int .i64 7]
  b2 : Blok W (w.heap.size + 2) 36 [vy, vf]
  dat : DatO W B (.agg #[.int .i64 d.stones, ve, vn]) d
  oy : IntsO W B vy ys
  of : IntsO W B vf fs
  out : WhensO W B vo Lo
  grown : w.grownBy W row
  old : ∀ b, vo.ownBlock = some b → (row = some b ∧ b < w.heap.size) ∨ w.heap.size + 3 ≤ b
section
variable {w W W' : World} {B : Nat} {d : Dat} {ve vn vy vf : Value} {ys fs : List Int} {row : Option Nat} {vo : Value} {Lo : List (List Int × List Int)}
theorem TS.to (h : TS w B d ve vn vy vf ys fs row vo Lo W) (hb : Below W.heap.size W W') : TS w B d ve vn vy vf ys fs row vo Lo W' :=
  ⟨h.b0.below hb h.b0.size, h.b1.below hb h.b1.size, h.b2.below hb h.b2.size, h.dat.below hb, own_fx h.oy (Fx.of_all hb) (fun _ _ _ _ => trivial), own_fx h.of (Fx.of_all hb) (fun _ _ _ _ => trivial), h.out.to hb, grown_to h.grown hb, h.old⟩
theorem TS.alloc (h : TS w B d ve vn vy vf ys fs row vo Lo W) (o : Obj) : TS w B d ve vn vy vf ys fs row vo Lo (W.alloc o) := h.to ((Below.refl _ W).alloc (Nat.le_refl _) o)
theorem TS.drew (h : TS w B d ve vn vy vf ys fs row vo Lo W) : TS w B d ve vn vy vf ys fs row vo Lo W.drew := h.to (Below.refl _ W).drew
/-- What is gathered grows. -/
theorem TS.grow {vo' : Value} {L' : List (List Int × List Int)} (h : TS w B d ve vn vy vf ys fs row vo Lo W) (hg : W.grownBy W' vo.ownBlock) (ho : WhensO W' B vo' L') (hf : ∀ b, vo'.ownBlock = some b → vo.ownBlock = some b ∨ W.heap.size ≤ b) : TS w B d ve vn vy vf ys fs row vo' L' W' := by
  obtain ⟨xs, _, hrow, _⟩ := h.out
  have hbk : ∀ {t : TypeId} {b : Nat} {cs : List Value}, t ≠ 36 → Blok W b t cs → Blok W' b t cs := fun ht h' => h'.grown hg (own_ne hrow h' (fun e => ht e.symm))
  have hO : ∀ {base size n : Nat} {e : TypeId} {u : Value} {cs : List Value}, e ≠ 36 → W.ownsRow base e size u n cs → W'.ownsRow base e size u n cs := fun he h' => own_fx h' (Fx.of_grown hg) (fun b _ _ hb' => own_disj h' hrow he b hb')
  have hz := h.b2.size
  refine ⟨hbk (by decide) h.b0, hbk (by decide) h.b1, h.b2.grown hg (fun e => by rcases h.old _ e with h1 | h1 <;> omega), ?_, hO (by decide) h.oy, hO (by decide) h.of, ho, grown_trans h.grown hg (fun b hb => (h.old b hb).elim (fun h1 => .inl h1.1) (fun h1 => .inr (by omega))), fun b hb => ?_⟩
  · obtain ⟨ve', vn', e, h1, xs', h2, h3, h4⟩ := h.dat
    exact ⟨ve', vn', e, hO (by decide) h1, xs', h2, hO (by decide) h3, fun p hp => hO (by decide) (h4 p hp)⟩
  · rcases hf b hb with h1 | h1
    · exact h.old b h1
    · exact .inr (by omega)
end
/-- What truths comes to. -/
def TruthsPost (B : Nat) (vo : Value) (L : List (List Int × List Int)) (w : World) (e : Ending) (w' : World) : Prop :=
  ∃ v, e = .returned v ∧ WhensO w' B v L ∧ w.grownBy w' vo.ownBlock ∧ ∀ b, v.ownBlock = some b → vo.ownBlock = some b ∨ w.heap.size ≤ b
end
section
open Go.RowKit Dt

theorem info_when : (Tryz.prog.info? 36).map (fun i => (i.zero, i.size, i.bytes)) = some (some (.agg #[.slice none 0 0, .slice none 0 0]), 2, 48) := by kernel_rfl
set_option maxRecDepth 100000 in
set_option maxHeartbeats 8000000 in
theorem truths_base (d : Dat) (hd : d.Ok) (hes : ∀ s ∈ d.eras, -1000 ≤ s.1 ∧ s.2 ≤ 1000) (ys fs : List Int) (hly : ys.length = d.stones) (hlf : fs.length = d.eras.length) (hys : ∀ y ∈ ys, -1000 ≤ y ∧ y ≤ 1000) (hfs : ∀ y ∈ fs, -1000 ≤ y ∧ y ≤ 1000) (B : Nat) (w : World) (hB : B ≤ w.heap.size) (ve vn vy vf vo : Value) (Lo : List (List Int × List Int))
    (hdat : DatO w B (.agg #[.int .i64 d.stones, ve, vn]) d) (hoy : IntsO w B vy ys) (hof : IntsO w B vf fs) (hout : WhensO w B vo Lo) (hlen : Lo.length ≤ 5000) :
    Calls Tryz.prog 7 #[.agg #[.int .i64 d.stones, ve, vn], .agg #[.int .i64 0, .int .i64 7], .agg #[vy, vf], vo] w (TruthsPost B vo (Lo ++ erasP d ys 0 fs) w) := by
  obtain ⟨Ae, ce, An, cn, hve⟩ := hdat.slices
  injection hve with hve
  simp at hve
  obtain ⟨rfl, rfl⟩ := hve
  obtain ⟨Ay, cy, rfl⟩ := own_slice hoy
  obtain ⟨Af, cf, rfl⟩ := own_slice hof
  obtain ⟨Ao, co, rfl⟩ := hout.slice
  have h8 := hd.notes.1
  have he3 := hd.eras.1
  have hs6 := hd.stones
  obtain ⟨row, hrow⟩ : ∃ row, row = (Value.slice Ao Lo.length co).ownBlock := ⟨_, rfl⟩
  have HROW := Lib.hid hrow
  obtain ⟨kN, hi, hz0, hz1, hz2⟩ := info_parts info_num
  have HI := Lib.hid hi
  have HI0 := Lib.hid hz0
  have HI1 := Lib.hid hz1
  have HI2 := Lib.hid hz2
  clear hi hz0 hz1 hz2
  obtain ⟨kW, hi, hz0, hz1, hz2⟩ := info_parts info_when
  have HWI := Lib.hid hi
  have HWI0 := Lib.hid hz0
  have HWI1 := Lib.hid hz1
  have HWI2 := Lib.hid hz2
  clear hi hz0 hz1 hz2
  have HD := Lib.hid hd
  have HDAT := Lib.hid hdat
  have HOY := Lib.hid hoy
  have HOF := Lib.hid hof
  have HOUT := Lib.hid hout
  have HES := Lib.hid hes
  have HYS := Lib.hid hys
  have HFS := Lib.hid hfs
  obtain ⟨nl, hnl⟩ : ∃ nl, nl = Lo.length := ⟨_, rfl⟩
  have HNL := Lib.hid hnl
  rw [← hnl] at HOUT HROW ⊢
  obtain ⟨ny, hny⟩ : ∃ ny, ny = ys.length := ⟨_, rfl⟩
  obtain ⟨nf, hnf⟩ : ∃ nf, nf = fs.length := ⟨_, rfl⟩
  have HNY := Lib.hid hny
  have HNF := Lib.hid hnf
  unfold IntsO at HOY HOF
  rw [← hny] at HOY hly ⊢
  rw [← hnf] at HOF hlf ⊢
  have HLY := Lib.hid hly
  have HLF := Lib.hid hlf
  clear hrow hd hdat hoy hof hout hes hys hfs hnl hny hnf hly hlf
  go_enter Tryz.func7, Tryz.ntmps7
  go_upto_region 1 with fail
  obtain ⟨w0, hw0⟩ : ∃ w0, w0 = ((w.alloc (.cells #[.int .i64 d.stones, .slice Ae d.eras.length ce, .slice An d.notes.length cn] 28)).alloc (.cells #[.int .i64 0, .int .i64 7] 33)).alloc (.cells #[.slice Ay ny cy, .slice Af nf cf] 36) := ⟨_, rfl⟩
  have hb0 : Below w.heap.size w w0 := by rw [hw0]; exact (((Below.refl _ w).alloc (Nat.le_refl _) _).alloc (by simp) _).alloc (by simp; omega) _
  have hts : TS w B d (.slice Ae d.eras.length ce) (.slice An d.notes.length cn) (.slice Ay ny cy) (.slice Af nf cf) ys fs row (.slice Ao nl co) Lo w0 := by
    refine ⟨?_, ?_, ?_, HDAT.out.below hb0, ?_, ?_, HOUT.out.to hb0, ⟨hb0.os, hb0.tape, hb0.output, hb0.size, fun b h1 _ => hb0.block b h1⟩, fun b hb => ?_⟩
    · rw [hw0]; exact ((Blok.new w _ _).alloc _).alloc _
    · rw [hw0]
      have := (Blok.new (w.alloc (.cells #[.int .i64 d.stones, .slice Ae d.eras.length ce, .slice An d.notes.length cn] 28)) 33 [.int .i64 0, .int .i64 7]).alloc (.cells #[.slice Ay ny cy, .slice Af nf cf] 36)
      simpa only [World.size_alloc] using this
    · rw [hw0]
      have := Blok.new ((w.alloc (.cells #[.int .i64 d.stones, .slice Ae d.eras.length ce, .slice An d.notes.length cn] 28)).alloc (.cells #[.int .i64 0, .int .i64 7] 33)) 36 [.slice Ay ny cy, .slice Af nf cf]
      simpa only [World.size_alloc] using this
    · unfold IntsO
      rw [← HNY.out]
      exact own_fx HOY.out (Fx.of_all hb0) (fun _ _ _ _ => trivial)
    · unfold IntsO
      rw [← HNF.out]
      exact own_fx HOF.out (Fx.of_all hb0) (fun _ _ _ _ => trivial)
    · have h1 := HOUT.out.lt b hb
      exact .inl ⟨by rw [HROW.out]; exact hb, h1⟩
  rw [← hw0]
  have HS := Lib.hid hts
  clear hts hw0 hb0
  have d0 := HS.out.b0.cell 0
  have d1 := HS.out.b0.cell 1
  have d2 := HS.out.b0.cell 2
  have m0 := HS.out.b2.cell 0
  have m1 := HS.out.b2.cell 1
  simp at d0 d1 d2 m0 m1
  have hcy : ¬ ny < d.stones := by have := HLY.out; omega
  have hcf : ¬ nf < d.eras.length := by have := HLF.out; omega
  go_wp2_with fail
  go_loopg [12] d.notes.length (fun r i wr => ∃ k : Nat, i = .int .i64 (k : Nat) ∧ k + r = d.notes.length ∧ (∀ n ∈ d.notes.take k, rightB n ys fs = true) ∧ TS w B d (.slice Ae d.eras.length ce) (.slice An d.notes.length cn) (.slice Ay ny cy) (.slice Af nf cf) ys fs row (.slice Ao nl co) Lo wr)
  case atStart => exact ⟨0, rfl, by omega, by simp, HS.out⟩
  case round =>
    clear HS d0 d1 d2 m0 m1
    obtain ⟨k, rfl, hkr, hrt, hs⟩ := hrel
    have HS := Lib.hid hs
    have HRT := Lib.hid hrt
    clear hs hrt
    have d2 := HS.out.b0.cell 2
    simp at d2
    by_cases hlt : k < d.notes.length
    · obtain ⟨ve', vn', e', _, ys0, hys0, hyo, hyy⟩ := HS.out.dat
      injection e' with e'
      simp at e'
      obtain ⟨rfl, rfl⟩ := e'
      obtain ⟨gn, rfl⟩ := own_addr hyo (by omega)
      have hyl : ys0.length = d.notes.length := by
        have : (ys0.map Prod.fst).length = d.notes.length := congrArg List.length hys0
        rw [List.length_map] at this
        exact this
      obtain ⟨p, hp⟩ : ∃ p, ys0[k]? = some p := ⟨_, List.getElem?_eq_getElem (by omega)⟩
      have hx : d.notes[k]? = some p.1 := by rw [← hys0, List.getElem?_map, hp]; rfl
      obtain ⟨q, hq⟩ : ∃ q : Nt, q = p.1 := ⟨_, rfl⟩
      obtain ⟨Aq, cq, hpv⟩ := own_slice (hyy p (List.mem_of_getElem? hp))
      obtain ⟨nq, hnq⟩ : ∃ nq, nq = q.years.length := ⟨_, rfl⟩
      rw [← hq, ← hnq] at hpv
      have hcell : ∀ j, j < 6 → wr.cell? ⟨gn, k * 6 + j, none⟩ = (ntL q (.slice Aq nq cq))[j]? := fun j hj => by
        rw [hyo.cellAt (k * 6 + j) (by omega), hq, ← hpv]
        exact cellsN_at ys0 k p j hp hj
      have hgl := (hyo.lt gn rfl).2
      have HCN := Lib.hid (fun (W : World) (hb : Below wr.heap.size wr W) (j : Nat) (hj : j < 6) => (show W.cell? ⟨gn, k * 6 + j, none⟩ = (ntL q (.slice Aq nq cq))[j]? from (hb.cell (p := ⟨gn, k * 6 + j, none⟩) hgl).trans (hcell j hj)))
      have HVQ := Lib.hid (fun (W : World) (hb : Below wr.heap.size wr W) => (show IntsO W B (.slice Aq nq cq) q.years by
        have h := own_fx (hyy p (List.mem_of_getElem? hp)) (Fx.of_all hb) (fun _ _ _ _ => trivial)
        rw [← hq, hpv] at h
        exact h))
      have hqo := HD.out.notes.2 p.1 (List.mem_of_getElem? hx)
      rw [← hq] at hqo hx
      have HQO := Lib.hid hqo
      have HX := Lib.hid hx
      have HNQ := Lib.hid hnq
      have hq3 : q.years.length ≤ 3 := by
        by_cases h1 : q.kind = 1
        · exact (hqo.years h1).2.2.2.2.1
        · rw [(hqo.span h1).1]; simp
      have HQ3 := Lib.hid hq3
      have HKD := Lib.hid (fun (W : World) (hb : Below wr.heap.size wr W) => (HS.out.to hb))
      obtain ⟨rb, hrb⟩ : ∃ rb, rb = rightB q ys fs := ⟨_, rfl⟩
      have HRB := Lib.hid hrb
      clear hys0 hyo hyy hyl hp hx hq hpv hcell hqo hnq hq3 hrb hcy hcf
      go_wp2_with fail
      clear d2
      cases rb
      · refine wp_region_v [(fun j => j == 1 || j == 3 || j == 4 || j == 5 || j == 6 || j == 7, fun W => W.cell? ⟨w.heap.size, 2, none⟩ = some (.slice (some ⟨gn, 0, none⟩) d.notes.length cn)), (fun j => j == 4 || j == 5 || j == 6 || j == 7, fun W => W.cell? ⟨gn, k * 6, none⟩ = some (.int .i64 q.kind) ∧ W.cell? ⟨gn, k * 6 + 1, none⟩ = some (.int .i64 q.stone) ∧ W.cell? ⟨gn, k * 6 + 2, none⟩ = some (.int .i64 q.other) ∧ W.cell? ⟨gn, k * 6 + 3, none⟩ = some (.slice Aq nq cq) ∧ W.cell? ⟨gn, k * 6 + 4, none⟩ = some (.int .i64 q.lo) ∧ W.cell? ⟨gn, k * 6 + 5, none⟩ = some (.int .i64 q.hi)), (fun j => j == 5 || j == 6 || j == 7, fun W => W.cell? ⟨w.heap.size + 2, 0, none⟩ = some (.slice Ay ny cy) ∧ W.cell? ⟨w.heap.size + 2, 1, none⟩ = some (.slice Af nf cf))] (by kernel_rfl) ?_
        refine wpAnyV_world (fun W => Below wr.heap.size wr W) (show Below wr.heap.size wr wr.drew from (Below.refl _ wr).drew) (fun V hV => ?_)
        have HV := Lib.hid hV
        clear hV
        refine wpAnyV_free (i := 0) (v := ?_) (by simp only [List.getElem?_toArray, List.getElem?_cons_zero]; rfl) (by kernel_rfl) (by kernel_rfl) (by kernel_rfl) (by kernel_rfl) (by exact fun _ _ _ h => h) (Or.inl ⟨by rfl, ?hykfalse2⟩) (behind_cons (fun h => by simp at h) (behind_cons (fun h => by simp at h) (behind_cons (fun h => by simp at h) (fun p hp => by cases hp)))) ?restkfalse2
        case hykfalse2 => (intro W' _; go_simp; try with_reducible rfl)
        try simp only [Act.put, List.setIfInBounds_toArray, List.set_cons_zero, List.set_cons_succ]
        refine wpAnyV_free (i := 2) (v := ?_) (by simp only [List.getElem?_toArray, List.getElem?_cons_zero, List.getElem?_cons_succ]; rfl) (by kernel_rfl) (by kernel_rfl) (by kernel_rfl) (by kernel_rfl) (by exact fun _ _ _ h => h) (Or.inl ⟨by rfl, ?hykfalse3⟩) (behind_cons (fun h => by simp at h) (behind_cons (fun h => by simp at h) (behind_cons (fun h => by simp at h) (fun p hp => by cases hp)))) ?restkfalse3
        case hykfalse3 => (intro W' _; go_simp; try with_reducible rfl)
        try simp only [Act.put, List.setIfInBounds_toArray, List.set_cons_zero, List.set_cons_succ]
        refine wpAnyV_take (i := 1) (m := 0) (v := ?_) (by simp only [List.getElem?_toArray, List.getElem?_cons_zero, List.getElem?_cons_succ]; rfl) (by rfl) (by kernel_rfl) (by kernel_rfl) (by kernel_rfl) (by kernel_rfl) (by exact fun _ _ _ h => h) (Or.inl ⟨by rfl, ?hykfalse4⟩) (((HKD.out _ HV.out).b0.cell 2)) (behind_cons (fun _ => ((HKD.out _ HV.out).b0.cell 2)) (behind_cons (fun h => by simp at h) (behind_cons (fun h => by simp at h) (fun p hp => by cases hp)))) ?restkfalse4
        case hykfalse4 => (intro W' hSW; go_simp; try with_reducible rfl)
        try simp only [Act.put, List.setIfInBounds_toArray, List.set_cons_zero, List.set_cons_succ]
        refine wpAnyV_free (i := 3) (v := ?_) (by simp only [List.getElem?_toArray, List.getElem?_cons_zero, List.getElem?_cons_succ]; rfl) (by kernel_rfl) (by kernel_rfl) (by kernel_rfl) (by kernel_rfl) (by exact fun _ _ _ h => h) (Or.inl ⟨by rfl, ?hykfalse5⟩) (behind_cons (fun _ => ((HKD.out _ HV.out).b0.cell 2)) (behind_cons (fun h => by simp at h) (behind_cons (fun h => by simp at h) (fun p hp => by cases hp)))) ?restkfalse5
        case hykfalse5 => (intro W' _; go_simp; try with_reducible rfl)
        try simp only [Act.put, List.setIfInBounds_toArray, List.set_cons_zero, List.set_cons_succ]
        refine wpAnyV_take (i := 4) (m := 1) (v := ?_) (by simp only [List.getElem?_toArray, List.getElem?_cons_zero, List.getElem?_cons_succ]; rfl) (by rfl) (by kernel_rfl) (by kernel_rfl) (by kernel_rfl) (by kernel_rfl) (by exact fun _ _ _ h => h) (Or.inl ⟨by rfl, ?hykfalse6⟩) ((And.intro (HCN.out _ HV.out 0 (by omega)) (And.intro (HCN.out _ HV.out 1 (by omega)) (And.intro (HCN.out _ HV.out 2 (by omega)) (And.intro (HCN.out _ HV.out 3 (by omega)) (And.intro (HCN.out _ HV.out 4 (by omega)) (HCN.out _ HV.out 5 (by omega)))))))) (behind_cons (fun _ => ((HKD.out _ HV.out).b0.cell 2)) (behind_cons (fun _ => (And.intro (HCN.out _ HV.out 0 (by omega)) (And.intro (HCN.out _ HV.out 1 (by omega)) (And.intro (HCN.out _ HV.out 2 (by omega)) (And.intro (HCN.out _ HV.out 3 (by omega)) (And.intro (HCN.out _ HV.out 4 (by omega)) (HCN.out _ HV.out 5 (by omega)))))))) (behind_cons (fun h => by simp at h) (fun p hp => by cases hp)))) ?restkfalse6
        case hykfalse6 => (intro W' hSW; go_simp; try with_reducible rfl)
        try simp only [Act.put, List.setIfInBounds_toArray, List.set_cons_zero, List.set_cons_succ]
        refine wpAnyV_take (i := 5) (m := 2) (v := ?_) (by simp only [List.getElem?_toArray, List.getElem?_cons_zero, List.getElem?_cons_succ]; rfl) (by rfl) (by kernel_rfl) (by kernel_rfl) (by kernel_rfl) (by kernel_rfl) (by exact fun _ _ _ h => h) (Or.inl ⟨by rfl, ?hykfalse7⟩) ((And.intro ((HKD.out _ HV.out).b2.cell 0) ((HKD.out _ HV.out).b2.cell 1))) (behind_cons (fun _ => ((HKD.out _ HV.out).b0.cell 2)) (behind_cons (fun _ => (And.intro (HCN.out _ HV.out 0 (by omega)) (And.intro (HCN.out _ HV.out 1 (by omega)) (And.intro (HCN.out _ HV.out 2 (by omega)) (And.intro (HCN.out _ HV.out 3 (by omega)) (And.intro (HCN.out _ HV.out 4 (by omega)) (HCN.out _ HV.out 5 (by omega)))))))) (behind_cons (fun _ => (And.intro ((HKD.out _ HV.out).b2.cell 0) ((HKD.out _ HV.out).b2.cell 1))) (fun p hp => by cases hp)))) ?restkfalse7
        case hykfalse7 => (intro W' hSW; go_simp; try with_reducible rfl)
        try simp only [Act.put, List.setIfInBounds_toArray, List.set_cons_zero, List.set_cons_succ]
        refine wpAnyV_ready (rs := [6]) (by kernel_rfl) (by simp) ?_
        refine AllReadyV.cons (by simp only [List.getElem?_toArray, List.getElem?_cons_zero, List.getElem?_cons_succ]; rfl) (fun K hK => ?_) AllReadyV.nil
        go_simp
        go_at_call 30
        refine (right_any q ys fs B _ _ _ _ HQO.out.kind (by have := HQ3.out; omega) (HVQ.out _ HV.out) (HKD.out _ HV.out).oy (HKD.out _ HV.out).of (by have := HQO.out.stone; have := HNY.out; have := HLY.out; omega) (fun h => by have := (HQO.out.era h).1; have := HNF.out; have := HLF.out; omega) (fun h => by have := (HQO.out.after h).1; have := HNY.out; have := HLY.out; omega) HYS.out HFS.out).mono ?_
        rw [← HRB.out]
        rintro e w501 ⟨rfl, hb⟩
        have HC501 := Lib.hid (HV.out.trans (hb.mono HV.out.size))
        clear hb
        refine hK.out _ _ (behind_cons (fun _ => ((HKD.out _ HC501.out).b0.cell 2)) (behind_cons (fun _ => (And.intro (HCN.out _ HC501.out 0 (by omega)) (And.intro (HCN.out _ HC501.out 1 (by omega)) (And.intro (HCN.out _ HC501.out 2 (by omega)) (And.intro (HCN.out _ HC501.out 3 (by omega)) (And.intro (HCN.out _ HC501.out 4 (by omega)) (HCN.out _ HC501.out 5 (by omega)))))))) (behind_cons (fun _ => (And.intro ((HKD.out _ HC501.out).b2.cell 0) ((HKD.out _ HC501.out).b2.cell 1))) (fun p hp => by cases hp)))) ?_
        clear hK K
        try simp only [Act.put, List.setIfInBounds_toArray, List.set_cons_zero, List.set_cons_succ]
        refine wpAnyV_free (i := 7) (v := ?_) (by simp only [List.getElem?_toArray, List.getElem?_cons_zero, List.getElem?_cons_succ]; rfl) (by kernel_rfl) (by kernel_rfl) (by kernel_rfl) (by kernel_rfl) (by exact fun _ _ _ h => h) (Or.inl ⟨by rfl, ?hykfalse9⟩) (behind_cons (fun _ => ((HKD.out _ HC501.out).b0.cell 2)) (behind_cons (fun _ => (And.intro (HCN.out _ HC501.out 0 (by omega)) (And.intro (HCN.out _ HC501.out 1 (by omega)) (And.intro (HCN.out _ HC501.out 2 (by omega)) (And.intro (HCN.out _ HC501.out 3 (by omega)) (And.intro (HCN.out _ HC501.out 4 (by omega)) (HCN.out _ HC501.out 5 (by omega)))))))) (behind_cons (fun _ => (And.intro ((HKD.out _ HC501.out).b2.cell 0) ((HKD.out _ HC501.out).b2.cell 1))) (fun p hp => by cases hp)))) ?restkfalse9
        case hykfalse9 => (intro W' _; go_simp; try with_reducible rfl)
        try simp only [Act.put, List.setIfInBounds_toArray, List.set_cons_zero, List.set_cons_succ]
        refine wpAnyV_done (by kernel_rfl) ?_ _
        have HSF := Lib.hid (HKD.out _ HC501.out)
        go_wp2_with fail
        go_ret
        have hnil : erasP d ys 0 fs = [] := by
          unfold erasP
          rw [if_neg]
          intro hall
          have := List.all_eq_true.1 hall q (List.mem_of_getElem? HX.out)
          rw [← HRB.out] at this
          cases this
        refine ⟨_, rfl, by rw [hnil, List.append_nil]; exact HSF.out.out, by rw [← HROW.out]; exact HSF.out.grown, fun b hb => .inl hb⟩
      · refine wp_region_v [(fun j => j == 1 || j == 3 || j == 4 || j == 5 || j == 6 || j == 7, fun W => W.cell? ⟨w.heap.size, 2, none⟩ = some (.slice (some ⟨gn, 0, none⟩) d.notes.length cn)), (fun j => j == 4 || j == 5 || j == 6 || j == 7, fun W => W.cell? ⟨gn, k * 6, none⟩ = some (.int .i64 q.kind) ∧ W.cell? ⟨gn, k * 6 + 1, none⟩ = some (.int .i64 q.stone) ∧ W.cell? ⟨gn, k * 6 + 2, none⟩ = some (.int .i64 q.other) ∧ W.cell? ⟨gn, k * 6 + 3, none⟩ = some (.slice Aq nq cq) ∧ W.cell? ⟨gn, k * 6 + 4, none⟩ = some (.int .i64 q.lo) ∧ W.cell? ⟨gn, k * 6 + 5, none⟩ = some (.int .i64 q.hi)), (fun j => j == 5 || j == 6 || j == 7, fun W => W.cell? ⟨w.heap.size + 2, 0, none⟩ = some (.slice Ay ny cy) ∧ W.cell? ⟨w.heap.size + 2, 1, none⟩ = some (.slice Af nf cf))] (by kernel_rfl) ?_
        refine wpAnyV_world (fun W => Below wr.heap.size wr W) (show Below wr.heap.size wr wr.drew from (Below.refl _ wr).drew) (fun V hV => ?_)
        have HV := Lib.hid hV
        clear hV
        refine wpAnyV_free (i := 0) (v := ?_) (by simp only [List.getElem?_toArray, List.getElem?_cons_zero]; rfl) (by kernel_rfl) (by kernel_rfl) (by kernel_rfl) (by kernel_rfl) (by exact fun _ _ _ h => h) (Or.inl ⟨by rfl, ?hyktrue2⟩) (behind_cons (fun h => by simp at h) (behind_cons (fun h => by simp at h) (behind_cons (fun h => by simp at h) (fun p hp => by cases hp)))) ?restktrue2
        case hyktrue2 => (intro W' _; go_simp; try with_reducible rfl)
        try simp only [Act.put, List.setIfInBounds_toArray, List.set_cons_zero, List.set_cons_succ]
        refine wpAnyV_free (i := 2) (v := ?_) (by simp only [List.getElem?_toArray, List.getElem?_cons_zero, List.getElem?_cons_succ]; rfl) (by kernel_rfl) (by kernel_rfl) (by kernel_rfl) (by kernel_rfl) (by exact fun _ _ _ h => h) (Or.inl ⟨by rfl, ?hyktrue3⟩) (behind_cons (fun h => by simp at h) (behind_cons (fun h => by simp at h) (behind_cons (fun h => by simp at h) (fun p hp => by cases hp)))) ?restktrue3
        case hyktrue3 => (intro W' _; go_simp; try with_reducible rfl)
        try simp only [Act.put, List.setIfInBounds_toArray, List.set_cons_zero, List.set_cons_succ]
        refine wpAnyV_take (i := 1) (m := 0) (v := ?_) (by simp only [List.getElem?_toArray, List.getElem?_cons_zero, List.getElem?_cons_succ]; rfl) (by rfl) (by kernel_rfl) (by kernel_rfl) (by kernel_rfl) (by kernel_rfl) (by exact fun _ _ _ h => h) (Or.inl ⟨by rfl, ?hyktrue4⟩) (((HKD.out _ HV.out).b0.cell 2)) (behind_cons (fun _ => ((HKD.out _ HV.out).b0.cell 2)) (behind_cons (fun h => by simp at h) (behind_cons (fun h => by simp at h) (fun p hp => by cases hp)))) ?restktrue4
        case hyktrue4 => (intro W' hSW; go_simp; try with_reducible rfl)
        try simp only [Act.put, List.setIfInBounds_toArray, List.set_cons_zero, List.set_cons_succ]
        refine wpAnyV_free (i := 3) (v := ?_) (by simp only [List.getElem?_toArray, List.getElem?_cons_zero, List.getElem?_cons_succ]; rfl) (by kernel_rfl) (by kernel_rfl) (by kernel_rfl) (by kernel_rfl) (by exact fun _ _ _ h => h) (Or.inl ⟨by rfl, ?hyktrue5⟩) (behind_cons (fun _ => ((HKD.out _ HV.out).b0.cell 2)) (behind_cons (fun h => by simp at h) (behind_cons (fun h => by simp at h) (fun p hp => by cases hp)))) ?restktrue5
        case hyktrue5 => (intro W' _; go_simp; try with_reducible rfl)
        try simp only [Act.put, List.setIfInBounds_toArray, List.set_cons_zero, List.set_cons_succ]
        refine wpAnyV_take (i := 4) (m := 1) (v := ?_) (by simp only [List.getElem?_toArray, List.getElem?_cons_zero, List.getElem?_cons_succ]; rfl) (by rfl) (by kernel_rfl) (by kernel_rfl) (by kernel_rfl) (by kernel_rfl) (by exact fun _ _ _ h => h) (Or.inl ⟨by rfl, ?hyktrue6⟩) ((And.intro (HCN.out _ HV.out 0 (by omega)) (And.intro (HCN.out _ HV.out 1 (by omega)) (And.intro (HCN.out _ HV.out 2 (by omega)) (And.intro (HCN.out _ HV.out 3 (by omega)) (And.intro (HCN.out _ HV.out 4 (by omega)) (HCN.out _ HV.out 5 (by omega)))))))) (behind_cons (fun _ => ((HKD.out _ HV.out).b0.cell 2)) (behind_cons (fun _ => (And.intro (HCN.out _ HV.out 0 (by omega)) (And.intro (HCN.out _ HV.out 1 (by omega)) (And.intro (HCN.out _ HV.out 2 (by omega)) (And.intro (HCN.out _ HV.out 3 (by omega)) (And.intro (HCN.out _ HV.out 4 (by omega)) (HCN.out _ HV.out 5 (by omega)))))))) (behind_cons (fun h => by simp at h) (fun p hp => by cases hp)))) ?restktrue6
        case hyktrue6 => (intro W' hSW; go_simp; try with_reducible rfl)
        try simp only [Act.put, List.setIfInBounds_toArray, List.set_cons_zero, List.set_cons_succ]
        refine wpAnyV_take (i := 5) (m := 2) (v := ?_) (by simp only [List.getElem?_toArray, List.getElem?_cons_zero, List.getElem?_cons_succ]; rfl) (by rfl) (by kernel_rfl) (by kernel_rfl) (by kernel_rfl) (by kernel_rfl) (by exact fun _ _ _ h => h) (Or.inl ⟨by rfl, ?hyktrue7⟩) ((And.intro ((HKD.out _ HV.out).b2.cell 0) ((HKD.out _ HV.out).b2.cell 1))) (behind_cons (fun _ => ((HKD.out _ HV.out).b0.cell 2)) (behind_cons (fun _ => (And.intro (HCN.out _ HV.out 0 (by omega)) (And.intro (HCN.out _ HV.out 1 (by omega)) (And.intro (HCN.out _ HV.out 2 (by omega)) (And.intro (HCN.out _ HV.out 3 (by omega)) (And.intro (HCN.out _ HV.out 4 (by omega)) (HCN.out _ HV.out 5 (by omega)))))))) (behind_cons (fun _ => (And.intro ((HKD.out _ HV.out).b2.cell 0) ((HKD.out _ HV.out).b2.cell 1))) (fun p hp => by cases hp)))) ?restktrue7
        case hyktrue7 => (intro W' hSW; go_simp; try with_reducible rfl)
        try simp only [Act.put, List.setIfInBounds_toArray, List.set_cons_zero, List.set_cons_succ]
        refine wpAnyV_ready (rs := [6]) (by kernel_rfl) (by simp) ?_
        refine AllReadyV.cons (by simp only [List.getElem?_toArray, List.getElem?_cons_zero, List.getElem?_cons_succ]; rfl) (fun K hK => ?_) AllReadyV.nil
        go_simp
        go_at_call 30
        refine (right_any q ys fs B _ _ _ _ HQO.out.kind (by have := HQ3.out; omega) (HVQ.out _ HV.out) (HKD.out _ HV.out).oy (HKD.out _ HV.out).of (by have := HQO.out.stone; have := HNY.out; have := HLY.out; omega) (fun h => by have := (HQO.out.era h).1; have := HNF.out; have := HLF.out; omega) (fun h => by have := (HQO.out.after h).1; have := HNY.out; have := HLY.out; omega) HYS.out HFS.out).mono ?_
        rw [← HRB.out]
        rintro e w502 ⟨rfl, hb⟩
        have HC502 := Lib.hid (HV.out.trans (hb.mono HV.out.size))
        clear hb
        refine hK.out _ _ (behind_cons (fun _ => ((HKD.out _ HC502.out).b0.cell 2)) (behind_cons (fun _ => (And.intro (HCN.out _ HC502.out 0 (by omega)) (And.intro (HCN.out _ HC502.out 1 (by omega)) (And.intro (HCN.out _ HC502.out 2 (by omega)) (And.intro (HCN.out _ HC502.out 3 (by omega)) (And.intro (HCN.out _ HC502.out 4 (by omega)) (HCN.out _ HC502.out 5 (by omega)))))))) (behind_cons (fun _ => (And.intro ((HKD.out _ HC502.out).b2.cell 0) ((HKD.out _ HC502.out).b2.cell 1))) (fun p hp => by cases hp)))) ?_
        clear hK K
        try simp only [Act.put, List.setIfInBounds_toArray, List.set_cons_zero, List.set_cons_succ]
        refine wpAnyV_free (i := 7) (v := ?_) (by simp only [List.getElem?_toArray, List.getElem?_cons_zero, List.getElem?_cons_succ]; rfl) (by kernel_rfl) (by kernel_rfl) (by kernel_rfl) (by kernel_rfl) (by exact fun _ _ _ h => h) (Or.inl ⟨by rfl, ?hyktrue9⟩) (behind_cons (fun _ => ((HKD.out _ HC502.out).b0.cell 2)) (behind_cons (fun _ => (And.intro (HCN.out _ HC502.out 0 (by omega)) (And.intro (HCN.out _ HC502.out 1 (by omega)) (And.intro (HCN.out _ HC502.out 2 (by omega)) (And.intro (HCN.out _ HC502.out 3 (by omega)) (And.intro (HCN.out _ HC502.out 4 (by omega)) (HCN.out _ HC502.out 5 (by omega)))))))) (behind_cons (fun _ => (And.intro ((HKD.out _ HC502.out).b2.cell 0) ((HKD.out _ HC502.out).b2.cell 1))) (fun p hp => by cases hp)))) ?restktrue9
        case hyktrue9 => (intro W' _; go_simp; try with_reducible rfl)
        try simp only [Act.put, List.setIfInBounds_toArray, List.set_cons_zero, List.set_cons_succ]
        refine wpAnyV_done (by kernel_rfl) ?_ _
        have HSF := Lib.hid (HKD.out _ HC502.out)
        go_wp2_with fail
        go_roundg (gk - 1)
        case measure => omega
        case rel => exact ⟨k + 1, by go_num, by omega, fun n hn => by
          rw [List.take_add_one, HX.out, Option.toList_some] at hn
          rcases List.mem_append.1 hn with hn | hn
          · exact HRT.out n hn
          · rw [List.mem_singleton.1 hn]; exact HRB.out.symm, HSF.out⟩
    · obtain rfl : k = d.notes.length := by omega
      have hall : d.notes.all (fun n => rightB n ys fs) = true := by
        rw [List.all_eq_true]
        have h := HRT.out
        rw [List.take_length] at h
        exact h
      have HAL := Lib.hid (show erasP d ys 0 fs = [(ys, fs)] by unfold erasP; rw [if_pos hall])
      obtain ⟨xs, hxs, hxo, hxy⟩ := HS.out.out
      rw [← HNL.out] at hxo
      have m0 := HS.out.b2.cell 0
      have m1 := HS.out.b2.cell 1
      simp at m0 m1
      have HXO := Lib.hid hxo
      have HXS := Lib.hid hxs
      have HXY := Lib.hid hxy
      have hnl5 : nl ≤ 5000 := by rw [HNL.out]; exact hlen
      have hbz : B ≤ wr.heap.size := Nat.le_trans hB HS.out.grown.size
      clear hxo hxs hxy hall
      go_wp2_with (at_builtin; refine wpList_append_lies _ rfl _ _ 30 rfl B 36 kW _ 2 48 Tryz.underlying30 HWI.out HWI0.out HWI1.out HWI2.out rfl (by decide) (.slice Ao nl co) nl (cellsW xs) (by rfl) (HXO.out.alloc _) ⟨wr.heap.size, 0, none⟩ 1 1 [.slice Ay ny cy, .slice Af nf cf] (by rfl) (by rfl) (World.news_of_block (cs := #[.slice Ay ny cy, .slice Af nf cf]) (t := 36) (fr := (0, 0)) (heap_alloc_new wr _)) (by simp [Value.oneCell']) (by omega) (by unfold maxLen; omega) (by omega) (by simp; omega) _ rfl ?_; intro g8 c8 w8 hown8 hgrow8 hat8 hlt8; have HO8 := Lib.hid hown8; have HG8 := Lib.hid hgrow8; have HA8 := Lib.hid hat8; clear hown8 hgrow8 hat8 hlt8)
      go_ret
      have hsa := HS.out.alloc (.cells #[.slice Ay ny cy, .slice Af nf cf] 36)
      have hO : ∀ {base size n : Nat} {e : TypeId} {u : Value} {cs : List Value}, e ≠ 36 → (wr.alloc (.cells #[.slice Ay ny cy, .slice Af nf cf] 36)).ownsRow base e size u n cs → w8.ownsRow base e size u n cs := fun he h' => own_fx h' (Fx.of_grown HG8.out) (fun b _ _ hb' => own_disj h' (HXO.out.alloc _) he b hb')
      have hwo : WhensO w8 B (.slice (some ⟨g8, 0, none⟩) (nl + 1) c8) (Lo ++ [(ys, fs)]) := by
        refine ⟨xs ++ [((ys, fs), (.slice Ay ny cy, .slice Af nf cf))], by rw [List.map_append, HXS.out]; rfl, ?_, fun p hp => ?_⟩
        · rw [cellsW_snoc, List.length_append, ← HNL.out]
          exact HO8.out
        · rcases List.mem_append.1 hp with hp | hp
          · exact ⟨hO (by decide) ((HXY.out p hp).1.alloc _), hO (by decide) ((HXY.out p hp).2.alloc _)⟩
          · rw [List.mem_singleton.1 hp]
            exact ⟨hO (by decide) hsa.oy, hO (by decide) hsa.of⟩
      have hfin := hsa.grow HG8.out hwo (fun b hb => by
        injection hb with hb
        subst hb
        rcases HA8.out with h | h
        · exact .inl h
        · exact .inr (by rw [h]; exact Nat.le_refl _))
      refine ⟨_, rfl, by rw [HAL.out]; exact hwo, by rw [← HROW.out]; exact hfin.grown, fun b hb => ?_⟩
      rcases hfin.old b hb with h1 | h1
      · exact .inl (by rw [← HROW.out]; exact h1.1)
      · exact .inr (by omega)
end
end Go.Proofs.YtmfjfjahemlhkaaGreat
